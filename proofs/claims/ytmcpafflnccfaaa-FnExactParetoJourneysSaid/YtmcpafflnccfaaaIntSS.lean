/-
  SLICES OF SLICES OF NUMBERS in memory, and the laws' helpers on them (eqIntSS, markIntSS, heldIntSS), in the one form that the laws' walks take.
-/
import Derived.Test.YtmcpafflnccfaaaMa
import Derived.LoopTactic
import Derived.WalkLawsBesides
import Derived.BigQuiet
import Derived.Deep.RegionHeld3
import Derived.Deep.QuietTactic
namespace Go.Proofs.Ytmcpafflnccfaaa
open Go.RowKit
set_option linter.unusedVariables false
set_option linter.unusedSimpArgs false

/-- how many numbers the first i lists have together -/
def preL (xss : List (List Int)) : Nat → Nat
  | 0 => 0
  | i + 1 => preL xss i + (xss.getD i []).length
def totL (xss : List (List Int)) : Nat := preL xss xss.length
theorem preL_succ {xss : List (List Int)} {i : Nat} (h : i < xss.length) : preL xss (i + 1) = preL xss i + xss[i].length := by simp [preL, h]
theorem preL_mono (xss : List (List Int)) : ∀ d i, preL xss i ≤ preL xss (i + d)
  | 0, i => Nat.le_refl _
  | d + 1, i => by have := preL_mono xss d i; rw [← Nat.add_assoc]; simp only [preL]; omega
theorem preL_le {xss : List (List Int)} {i : Nat} (h : i ≤ xss.length) : preL xss i ≤ totL xss := by
  have := preL_mono xss (xss.length - i) i
  rw [show i + (xss.length - i) = xss.length by omega] at this
  exact this
def GrpsSmall (xss : List (List Int)) : Prop := xss.length ≤ 1048576 ∧ totL xss ≤ 1048576
def GrpsAt (w : World) (v : Value) (xss : List (List Int)) : Prop := ∃ vs : List Value, RowAt w v vs ∧ vs.length = xss.length ∧ ∀ i (h : i < xss.length) (h' : i < vs.length), RowAt w vs[i] (ints xss[i])
theorem GrpsAt.below {w w' : World} {v : Value} {xss : List (List Int)} (h : GrpsAt w v xss) {B : Nat} (hB : B = w.heap.size) (hb : Below B w w') : GrpsAt w' v xss := by
  obtain ⟨vs, h1, h2, h3⟩ := h
  exact ⟨vs, RowAt.below h1 hB hb, h2, fun i a b => RowAt.below (h3 i a b) hB hb⟩
structure GrpsOwn (l u : Nat) (w : World) (v : Value) (vs : List Value) (xss : List (List Int)) : Prop where
  row : w.ownsRow l 51 1 v xss.length vs
  hi : ∀ g, v.ownBlock = some g → g < u
  len : vs.length = xss.length
  each : ∀ i (h : i < xss.length) (h' : i < vs.length), IntsIn l u w vs[i] xss[i]
  out : ∀ i (h' : i < vs.length) g, vs[i].ownBlock = some g → v.ownBlock ≠ some g
  apart : ∀ i j (h1 : i < vs.length) (h2 : j < vs.length), i ≠ j → ∀ g, vs[i].ownBlock = some g → vs[j].ownBlock ≠ some g
def GrpsIn (l u : Nat) (w : World) (v : Value) (xss : List (List Int)) : Prop := ∃ vs, GrpsOwn l u w v vs xss
theorem GrpsIn.at {l u : Nat} {w : World} {v : Value} {xss : List (List Int)} (h : GrpsIn l u w v xss) : GrpsAt w v xss := by
  obtain ⟨vs, h⟩ := h
  exact ⟨vs, rowAt_own h.row, h.len, fun i a b => (h.each i a b).at⟩
theorem GrpsIn.later {l u : Nat} {w w' : World} {v : Value} {xss : List (List Int)} (h : GrpsIn l u w v xss) (hb : Below w.heap.size w w') : GrpsIn l u w' v xss := by
  obtain ⟨vs, h⟩ := h
  exact ⟨vs, own_later h.row hb, h.hi, h.len, fun i a b => (h.each i a b).later hb, h.out, h.apart⟩
theorem GrpsIn.out {l u lo hi : Nat} {w w' : World} {v : Value} {xss : List (List Int)} (h : GrpsIn l u w v xss) (ho : Out lo hi w w') (hs : u ≤ lo ∨ hi ≤ l) : GrpsIn l u w' v xss := by
  obtain ⟨vs, h⟩ := h
  exact ⟨vs, own_out h.row ho (fun g hg => by have := h.hi g hg; have := (h.row.lt g hg).1; omega), h.hi, h.len, fun i a b => (h.each i a b).out ho hs, h.out, h.apart⟩
theorem GrpsIn.base {l l' u u' : Nat} {w : World} {v : Value} {xss : List (List Int)} (h : GrpsIn l u w v xss) (hl : l' ≤ l) (hu : u ≤ u') : GrpsIn l' u' w v xss := by
  obtain ⟨vs, h⟩ := h
  exact ⟨vs, own_base h.row hl, fun g hg => Nat.lt_of_lt_of_le (h.hi g hg) hu, h.len, fun i a b => (h.each i a b).base hl hu, h.out, h.apart⟩
theorem IntSS_open {w : World} {v : Value} {xss : List (List Int)} (h : GrpsAt w v xss) : ∃ a c, v = .slice a xss.length c := by
  obtain ⟨vs, ⟨a, c, hv, _⟩, h2, _⟩ := h
  exact ⟨a, c, by rw [hv, h2]⟩
def GrpsMk (k : Int) (w : World) (v : Value) (xss : List (List Int)) : Prop := ∃ vs : List Value, RowAt w v vs ∧ vs.length = xss.length ∧ ∀ i (h : i < xss.length) (h' : i < vs.length), IntsMk (k + (preL xss i : Int)) w vs[i] xss[i]
theorem GrpsMk.later {k : Int} {w w' : World} {v : Value} {xss : List (List Int)} (h : GrpsMk k w v xss) (hb : Below w.heap.size w w') : GrpsMk k w' v xss := by
  obtain ⟨vs, h1, h2, h3⟩ := h
  exact ⟨vs, RowAt.below h1 rfl hb, h2, fun i a b => (h3 i a b).later hb⟩

theorem keepG2 {W w w' : World} {p0 p1 : Addr} {x0 x1 : Value} (hb : Below w.heap.size w w') (h : w.cell? p0 = some x0 ∧ w.cell? p1 = some x1 ∧ Below W.heap.size W w) : w'.cell? p0 = some x0 ∧ w'.cell? p1 = some x1 ∧ Below W.heap.size W w' := by
  obtain ⟨h0, h1, hl⟩ := h
  exact ⟨bkeep hb h0, bkeep hb h1, hl.trans (hb.mono hl.size)⟩
theorem belG2 {W w : World} {p0 p1 : Addr} {x0 x1 : Value} (h : w.cell? p0 = some x0 ∧ w.cell? p1 = some x1 ∧ Below W.heap.size W w) : Below W.heap.size W w := h.2.2
theorem rowAt_cell {w : World} {a : Option Addr} {n c : Nat} {vs : List Value} (h : RowAt w (.slice a n c) vs) (i : Nat) (hi : i < vs.length) : ∃ b off, a = some ⟨b, off, none⟩ ∧ b < w.heap.size ∧ w.cell? ⟨b, off + i, none⟩ = some vs[i] := by
  obtain ⟨a2, c2, hv, _, _, h3⟩ := h
  simp at hv
  obtain ⟨rfl, -, rfl⟩ := hv
  exact h3 i _ (List.getElem?_eq_getElem hi)

end Go.Proofs.Ytmcpafflnccfaaa
