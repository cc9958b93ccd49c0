import Derived.Test.YtehpeifaknbcnaaMk04
import Derived.LoopTactic
import Derived.WalkLawsBesides
import Derived.BigQuiet
import Derived.Deep.RegionHeld3
import Derived.Deep.QuietTactic
namespace Go.Proofs.Ytehpeifaknbcnaa
open Go.RowKit
set_option linter.unusedVariables false
set_option linter.unusedSimpArgs false

def preL (xss : List (List Int)) : Nat → Nat
  | 0 => 0
  | i + 1 => preL xss i + (xss.getD i []).length
def totL (xss : List (List Int)) : Nat := preL xss xss.length
theorem preL_succ {xss : List (List Int)} {i : Nat} (h : i < xss.length) : preL xss (i + 1) = preL xss i + xss[i].length := by simp [preL, h]
theorem preL_mono (xss : List (List Int)) : ∀ d i, preL xss i ≤ preL xss (i + d)
  | 0, i => Nat.le_refl _
  | d + 1, i => by have := preL_mono xss d i; rw [← Nat.add_assoc]; simp only [preL]; omega
theorem preL_le {xss : List (List Int)} {i : Nat} (h : i ≤ xss.length) : preL xss i ≤ totL xss := by
  have := preL_mono xss (xss.length - i) i
  rw [show i + (xss.length - i) = xss.length by omega] at this
  exact this
def GrpsSmall (xss : List (List Int)) : Prop := xss.length ≤ 1048576 ∧ totL xss ≤ 1048576
def GrpsAt (w : World) (v : Value) (xss : List (List Int)) : Prop := ∃ vs : List Value, RowAt w v vs ∧ vs.length = xss.length ∧ ∀ i (h : i < xss.length) (h' : i < vs.length), RowAt w vs[i] (ints xss[i])
theorem GrpsAt.below {w w' : World} {v : Value} {xss : List (List Int)} (h : GrpsAt w v xss) {B : Nat} (hB : B = w.heap.size) (hb : Below B w w') : GrpsAt w' v xss := by
  obtain ⟨vs, h1, h2, h3⟩ := h
  exact ⟨vs, RowAt.below h1 hB hb, h2, fun i a b => RowAt.below (h3 i a b) hB hb⟩
structure GrpsOwn (l u : Nat) (w : World) (v : Value) (vs : List Value) (xss : List (List Int)) : Prop where
  row : w.ownsRow l 80 1 v xss.length vs
  hi : ∀ g, v.ownBlock = some g → g < u
  len : vs.length = xss.length
  each : ∀ i (h : i < xss.length) (h' : i < vs.length), IntsIn l u w vs[i] xss[i]
  out : ∀ i (h' : i < vs.length) g, vs[i].ownBlock = some g → v.ownBlock ≠ some g
  apart : ∀ i j (h1 : i < vs.length) (h2 : j < vs.length), i ≠ j → ∀ g, vs[i].ownBlock = some g → vs[j].ownBlock ≠ some g
def GrpsIn (l u : Nat) (w : World) (v : Value) (xss : List (List Int)) : Prop := ∃ vs, GrpsOwn l u w v vs xss
theorem GrpsIn.at {l u : Nat} {w : World} {v : Value} {xss : List (List Int)} (h : GrpsIn l u w v xss) : GrpsAt w v xss := by
  obtain ⟨vs, h⟩ := h
  exact ⟨vs, rowAt_own h.row, h.len, fun i a b => (h.each i a b).at⟩
theorem GrpsIn.later {l u : Nat} {w w' : World} {v : Value} {xss : List (List Int)} (h : GrpsIn l u w v xss) (hb : Below w.heap.size w w') : GrpsIn l u w' v xss := by
  obtain ⟨vs, h⟩ := h
  exact ⟨vs, own_later h.row hb, h.hi, h.len, fun i a b => (h.each i a b).later hb, h.out, h.apart⟩
theorem GrpsIn.out {l u lo hi : Nat} {w w' : World} {v : Value} {xss : List (List Int)} (h : GrpsIn l u w v xss) (ho : Out lo hi w w') (hs : u ≤ lo ∨ hi ≤ l) : GrpsIn l u w' v xss := by
  obtain ⟨vs, h⟩ := h
  exact ⟨vs, own_out h.row ho (fun g hg => by have := h.hi g hg; have := (h.row.lt g hg).1; omega), h.hi, h.len, fun i a b => (h.each i a b).out ho hs, h.out, h.apart⟩
theorem GrpsIn.base {l l' u u' : Nat} {w : World} {v : Value} {xss : List (List Int)} (h : GrpsIn l u w v xss) (hl : l' ≤ l) (hu : u ≤ u') : GrpsIn l' u' w v xss := by
  obtain ⟨vs, h⟩ := h
  exact ⟨vs, own_base h.row hl, fun g hg => Nat.lt_of_lt_of_le (h.hi g hg) hu, h.len, fun i a b => (h.each i a b).base hl hu, h.out, h.apart⟩
theorem IntSS_open {w : World} {v : Value} {xss : List (List Int)} (h : GrpsAt w v xss) : ∃ a c, v = .slice a xss.length c := by
  obtain ⟨vs, ⟨a, c, hv, _⟩, h2, _⟩ := h
  exact ⟨a, c, by rw [hv, h2]⟩
theorem keepG2 {W w w' : World} {p0 p1 : Addr} {x0 x1 : Value} (hb : Below w.heap.size w w') (h : w.cell? p0 = some x0 ∧ w.cell? p1 = some x1 ∧ Below W.heap.size W w) : w'.cell? p0 = some x0 ∧ w'.cell? p1 = some x1 ∧ Below W.heap.size W w' := by
  obtain ⟨h0, h1, hl⟩ := h
  exact ⟨bkeep hb h0, bkeep hb h1, hl.trans (hb.mono hl.size)⟩
theorem belG2 {W w : World} {p0 p1 : Addr} {x0 x1 : Value} (h : w.cell? p0 = some x0 ∧ w.cell? p1 = some x1 ∧ Below W.heap.size W w) : Below W.heap.size W w := h.2.2
theorem rowAt_cell {w : World} {a : Option Addr} {n c : Nat} {vs : List Value} (h : RowAt w (.slice a n c) vs) (i : Nat) (hi : i < vs.length) : ∃ b off, a = some ⟨b, off, none⟩ ∧ b < w.heap.size ∧ w.cell? ⟨b, off + i, none⟩ = some vs[i] := by
  obtain ⟨a2, c2, hv, _, _, h3⟩ := h
  simp at hv
  obtain ⟨rfl, -, rfl⟩ := hv
  exact h3 i _ (List.getElem?_eq_getElem hi)

set_option maxRecDepth 100000 in
set_option maxHeartbeats 1000000 in
theorem eqIntSS_x (v v' : Value) (xss : List (List Int)) (w : World) (hr : GrpsAt w v xss) (hr' : GrpsAt w v' xss) (hs : GrpsSmall xss) :
    Calls Try.prog 28 #[v, v'] w fun e w' => e = .returned (.bool true) ∧ Below w.heap.size w w' := by
  have hsz := hs.1
  obtain ⟨vs, h1, h2, h3⟩ := hr
  obtain ⟨vs', h1', h2', h3'⟩ := hr'
  obtain ⟨a, c, hv⟩ : ∃ a c, v = .slice a xss.length c := by obtain ⟨a, c, hv, _⟩ := h1; exact ⟨a, c, by rw [hv, h2]⟩
  obtain ⟨a', c', hv'⟩ : ∃ a c, v' = .slice a xss.length c := by obtain ⟨a, c, hv, _⟩ := h1'; exact ⟨a, c, by rw [hv, h2']⟩
  subst hv
  subst hv'
  have HR := Lib.hid h1
  have HR' := Lib.hid h1'
  have HE := Lib.hid (fun i (h : i < xss.length) W (hW : Below w.heap.size w W) => eqIntS_x (vs[i]'(by omega)) (vs'[i]'(by omega)) xss[i] W (RowAt.below (h3 i h (by omega)) rfl hW) (RowAt.below (h3' i h (by omega)) rfl hW) (by have e := preL_succ h; have := preL_le (xss := xss) (i := i + 1) (by omega); have := hs.2; unfold IntsSmall; omega))
  clear h1 h1' h3 h3' hs
  go_enter Try.func28, Try.ntmps28
  go_wp2
  go_loopw [5] (fun i wr => ∃ k : Nat, k ≤ xss.length ∧ i = .int .i64 k ∧ Hid (Below w.heap.size w wr)) (fun i _ => xss.length - (RowKit.intOf i).toNat)
  case atStart => exact ⟨0, Nat.zero_le _, rfl, Below.refl _ _⟩
  case round =>
    obtain ⟨k, hk, rfl, HB⟩ := hrel
    by_cases hlt : k < xss.length
    · obtain ⟨b, off, rfl, hbl, y⟩ := rowAt_cell (RowAt.below HR.out rfl HB.out) k (by omega)
      obtain ⟨b', off', rfl, hbl', z⟩ := rowAt_cell (RowAt.below HR'.out rfl HB.out) k (by omega)
      have HEq := Lib.hid (HE.out k hlt)
      have hk1 : (k : Int) < (xss.length : Int) := by omega
      have hbel := HB.out
      generalize vs[k] = x at *
      generalize vs'[k] = x' at *
      go_wp2_with fail
      go_region_held3 (fun w' => w'.cell? ⟨b, off + k, none⟩ = some x ∧ w'.cell? ⟨b', off' + k, none⟩ = some x' ∧ Below w.heap.size w w')
        (first | (exact ⟨y, z, hbel.drew⟩) | (exact keepG2 hb (by assumption)))
        ((go_at_call 71; refine (HEq.out _ (belG2 (by assumption))).mono ?_; rintro e w' ⟨rfl, hb⟩))
      obtain ⟨_, _, qb⟩ := (by assumption : _ ∧ _)
      clear y z hbel HB
      go_wp2_with fail
      go_roundw
      case rel => exact ⟨k + 1, by omega, by go_num, qb⟩
      case measure => simp [RowKit.intOf]; omega
    · go_wp2
      go_ret
      exact ⟨rfl, HB.out⟩

end Go.Proofs.Ytehpeifaknbcnaa
