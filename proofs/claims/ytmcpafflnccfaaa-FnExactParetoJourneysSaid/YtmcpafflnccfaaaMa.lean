/-
  JOINED TEXTS, each under its own namespace line: Slices, Plain1, Ints, Fst, NetP, SpanP, Trip, TTP, Text, Net, Find, Own, IntsLaw, In, Set, IntsX, TimeB.
-/
import Derived.WalkKit
import Derived.SliceStrings
import Derived.Laws.OwnMore
import Derived.Below
import Derived.Deep.QuietTactic
import Derived.ProofKit
import Derived.DataReads
import Derived.Lib.Hide
import Derived.OwnWalk
import Derived.Laws.NewBlocks
import Derived.Deep.Slices
import Derived.Deep.Fields
import Derived.Lib.SmallJoins
import Derived.ChangeSame
import Derived.Test.YtmcpafflnccfaaaRows
import Derived.LoopTactic
import Derived.WalkLawsBesides
import Derived.BigQuiet
import Derived.Deep.RegionHeld3
import Derived.Laws.Entries
import Derived.Maps.Own
import Derived.Maps.Views
namespace Go.Proofs.Ytmcpafflnccfaaa
open Go.RowKit Go.ChangeShapes Go.WideShapes Go.ChangeAt

/-- a slice value of as many elements as xs, whose cells hold xs -/
def RowAt (w : World) (v : Value) (xs : List Value) : Prop :=
  ∃ a c, v = .slice a xs.length c ∧ xs.length ≤ c ∧ c ≤ maxLen ∧ ∀ k u, xs[k]? = some u → ∃ b off, a = some ⟨b, off, none⟩ ∧ b < w.heap.size ∧ w.cell? ⟨b, off + k, none⟩ = some u

theorem RowAt.below {w w' : World} {v : Value} {xs : List Value} (h : RowAt w v xs) {B : Nat} (hB : B = w.heap.size) (hb : Below B w w') : RowAt w' v xs := by
  subst hB
  obtain ⟨a, c, hv, h1, h2, h3⟩ := h
  refine ⟨a, c, hv, h1, h2, fun k u hu => ?_⟩
  obtain ⟨b, off, ha, hlt, hc⟩ := h3 k u hu
  exact ⟨b, off, ha, Nat.lt_of_lt_of_le hlt hb.size, by rw [hb.cell (p := ⟨b, off + k, none⟩) hlt]; exact hc⟩

theorem RowAt.drewN {w : World} {v : Value} {xs : List Value} (h : RowAt w v xs) (m : Nat) : RowAt (w.drewN m) v xs := h

theorem addr_add (g o j : Nat) : (⟨g, o, none⟩ : Addr).add j = ⟨g, o + j, none⟩ := by
  by_cases h0 : j = 0
  · subst h0; simp [Addr.add]
  · simp [Addr.add, h0]

theorem rowAt_own {w : World} {B : Nat} {e : TypeId} {v : Value} {n : Nat} {xs : List Value} (h : w.ownsRow B e 1 v n xs) : RowAt w v xs := by
  have hc := fun g hg => h.cells (g := g) hg
  have hl := h.lt
  obtain ⟨hn, h2⟩ := h
  rcases h2 with ⟨hv, h0⟩ | ⟨g, cap, cur, hv, hg, hh, h1, h3, h4, h5⟩
  · subst h0
    have : xs = [] := List.eq_nil_of_length_eq_zero (by omega)
    subst this
    exact ⟨none, 0, hv, Nat.le_refl _, by decide, fun k u hu => by simp at hu⟩
  · have hn' : xs.length = n := by omega
    refine ⟨_, cap, by rw [hn']; exact hv, by omega, h3, fun k u hu => ⟨g, 0, rfl, (hl g (by rw [hv]; rfl)).2, ?_⟩⟩
    have := hc g (by rw [hv]; rfl) k u hu
    rw [addr_add] at this
    exact this

/-- what came in as a slice of strings reads as a row -/
theorem rowAt_strings {H : Type} {enc : TypeId × Value → H} {P : Program} {W : World} {base base' : Nat} {spare : Nat → Bool} {held : Bool} {t e : TypeId} {v : Value} {d : DataW H} {p : List MemPlace} (ht : P.underlying t = some (.slice e)) (he : P.underlying e = some .string) (hc : P.cellsOf e = 1)
    (hv : Value.okWide P W .any base t v) (h : DataW.Trod enc P W base' spare held t v d p) : ∃ xs : List ByteArray, RowAt W v (xs.map .string) ∧ ∀ x ∈ xs, x.size ≤ maxLen := by
  obtain ⟨a, len, cap, rfl⟩ := okWide_slice ht hv
  obtain ⟨fuel, hf⟩ := h
  rcases open_strings ht he hc hf with ⟨hcs, _⟩ | ⟨a', len', cap', ss, hcs, _, hl, hm, hz, _, hcell, hws⟩
  · simp [Value.cells] at hcs
    obtain ⟨rfl, rfl, rfl⟩ := hcs
    exact ⟨[], ⟨none, 0, rfl, Nat.le_refl _, by decide, fun k u hu => by simp at hu⟩, fun x hx => by simp at hx⟩
  · simp [Value.cells] at hcs
    obtain ⟨rfl, rfl, rfl⟩ := hcs
    have hss : len ≤ ss.length := by rw [hz]; split <;> omega
    refine ⟨ss.take len, ⟨some a', cap, by simp [Nat.min_eq_left hss], by simp; omega, hm, fun k u hu => ?_⟩, fun x hx => hws x (List.mem_of_mem_take hx)⟩
    rw [List.getElem?_map, List.getElem?_take] at hu
    split at hu
    · rename_i hk
      have hk' : k < ss.length := by omega
      rw [List.getElem?_eq_getElem hk'] at hu
      have hcl := hcell k hk'
      obtain ⟨b, off, sp⟩ := a'
      have hsp : sp = none := by
        have := World.cell?_spot (hcell 0 (by omega))
        simpa [Addr.add] using this
      subst hsp
      rw [addr_add] at hcl
      have hu' : Value.string (ss[k]) = u := by simpa using hu
      refine ⟨b, off, rfl, World.block_lt_of_cell? W _ hcl, ?_⟩
      rw [hcl, ← hu']
      simp [List.getD, List.getElem?_eq_getElem hk']
    · simp at hu

/-- only draws lie between two worlds -/
def Dr (w wr : World) : Prop := ∃ m, wr = w.drewN m
theorem Dr.refl (w : World) : Dr w w := ⟨0, rfl⟩
theorem Dr.step {w wr : World} (h : Dr w wr) (n : Nat) : Dr w (wr.drewN n) := by obtain ⟨m, rfl⟩ := h; exact ⟨m + n, by rw [World.drewN_drewN]⟩
theorem Dr.cell {w wr : World} (h : Dr w wr) (a : Addr) : wr.cell? a = w.cell? a := by obtain ⟨m, rfl⟩ := h; rfl
theorem Dr.out {w wr : World} (h : Dr w wr) : ∃ m, wr = w.drewN m := h
theorem quietL {P : Program} {f : FuncId} {args : Array Value} {w : World} {n : Nat} {v : Value} (h : Calls P f args (w.drewN n) fun e w' => e = .returned v ∧ w.drewN n = w') :
    Calls P f args (w.drewN n) fun e w'' => e = .returned v ∧ ∃ m, w'' = w.drewN m := h.mono fun _ _ ⟨he, hm⟩ => ⟨he, n, hm.symm⟩
theorem quietM {P : Program} {f : FuncId} {args : Array Value} {w : World} {m n : Nat} {v : Value} (h : ∀ W : World, Calls P f args W fun e w' => e = .returned v ∧ W = w') :
    Calls P f args (w.drewN (m + n)) fun e w'' => e = .returned v ∧ ∃ n, w'' = w.drewN (m + n) := (h _).mono fun _ _ ⟨he, hm⟩ => ⟨he, n, hm.symm⟩
theorem Dr.below {w wr : World} (h : Dr w wr) : Below w.heap.size w wr := by
  obtain ⟨m, rfl⟩ := h
  exact ⟨rfl, rfl, rfl, Nat.le_refl _, fun _ _ => rfl⟩
end Go.Proofs.Ytmcpafflnccfaaa

namespace Go.Proofs.Ytmcpafflnccfaaa
open Go.RowKit

/-- the checksum of a list of bytes -/
def sumL (l : List UInt8) : Int := l.foldl (fun h c => (41 * h + (c.toNat : Int) + 1) % 999979) 7

theorem sumL_snoc (l : List UInt8) (c : UInt8) : sumL (l ++ [c]) = (41 * sumL l + (c.toNat : Int) + 1) % 999979 := by
  simp [sumL, List.foldl_append]

theorem sumL_bd (l : List UInt8) : 0 ≤ sumL l ∧ sumL l < 999979 := by
  rcases List.eq_nil_or_concat l with rfl | ⟨t, c, rfl⟩
  · decide
  · rw [List.concat_eq_append, sumL_snoc]; omega

theorem take_snoc (s : ByteArray) (k : Nat) (h : k < s.size) : s.data.toList.take (k + 1) = s.data.toList.take k ++ [s[k]] := by
  rw [List.take_succ_eq_append_getElem (by simpa using h)]; rfl

theorem ret_int {k : IntKind} {a b : Int} (h : a = b) : Ending.returned (.int k a) = .returned (.int k b) := by rw [h]
theorem ret_int_b {k : IntKind} {a b : Int} {c : Bool} (h : a = b) : Ending.returned (.tuple #[.int k a, .bool c]) = .returned (.tuple #[.int k b, .bool c]) := by rw [h]
theorem ret_bool {a b : Bool} (h : a = b) : Ending.returned (.bool a) = .returned (.bool b) := by rw [h]
theorem byte_lt (s : ByteArray) (k : Nat) (h : k < s.size) : ((s[k]'h).toNat : Int) < 256 := by have := (s[k]'h).toNat_lt; omega
end Go.Proofs.Ytmcpafflnccfaaa

namespace Go.Proofs.Ytmcpafflnccfaaa
open Go.RowKit Go.ChangeShapes Go.WideShapes Go.ChangeAt Go.Deep Go.Joins
set_option linter.unusedVariables false

def strs (xs : List ByteArray) : List Value := xs.map Value.string
def ints (zs : List Int) : List Value := zs.map (Value.int .i64)
theorem strs_len (xs : List ByteArray) : (strs xs).length = xs.length := List.length_map ..
theorem ints_len (xs : List Int) : (ints xs).length = xs.length := List.length_map ..
theorem strs_at {w : World} {a : Option Addr} {xs : List ByteArray} (h : ∀ k u, (strs xs)[k]? = some u → ∃ b off, a = some ⟨b, off, none⟩ ∧ b < w.heap.size ∧ w.cell? ⟨b, off + k, none⟩ = some u) (k : Nat) (hk : k < xs.length) :
    ∃ b off, a = some ⟨b, off, none⟩ ∧ b < w.heap.size ∧ w.cell? ⟨b, off + k, none⟩ = some (.string (xs[k]'hk)) := h k _ (by simp [strs, List.getElem?_eq_getElem hk])
theorem ints_at {w : World} {a : Option Addr} {xs : List Int} (h : ∀ k u, (ints xs)[k]? = some u → ∃ b off, a = some ⟨b, off, none⟩ ∧ b < w.heap.size ∧ w.cell? ⟨b, off + k, none⟩ = some u) (k : Nat) (hk : k < xs.length) :
    ∃ b off, a = some ⟨b, off, none⟩ ∧ b < w.heap.size ∧ w.cell? ⟨b, off + k, none⟩ = some (.int .i64 (xs[k]'hk)) := h k _ (by simp [ints, List.getElem?_eq_getElem hk])
theorem strs_open {w : World} {v : Value} {xs : List ByteArray} (h : RowAt w v (strs xs)) : ∃ a c, v = .slice a xs.length c ∧ xs.length ≤ c ∧ c ≤ 9223372036854775807 ∧
    Hid (∀ k (hk : k < xs.length), ∃ b off, a = some ⟨b, off, none⟩ ∧ b < w.heap.size ∧ w.cell? ⟨b, off + k, none⟩ = some (.string (xs[k]'hk))) := by
  obtain ⟨a, c, rfl, h1, h2, h3⟩ := h
  simp only [strs_len] at *
  exact ⟨a, c, rfl, h1, h2, strs_at h3⟩
theorem ints_open {w : World} {v : Value} {xs : List Int} (h : RowAt w v (ints xs)) : ∃ a c, v = .slice a xs.length c ∧ xs.length ≤ c ∧ c ≤ 9223372036854775807 ∧
    Hid (∀ k (hk : k < xs.length), ∃ b off, a = some ⟨b, off, none⟩ ∧ b < w.heap.size ∧ w.cell? ⟨b, off + k, none⟩ = some (.int .i64 (xs[k]'hk))) := by
  obtain ⟨a, c, rfl, h1, h2, h3⟩ := h
  simp only [ints_len] at *
  exact ⟨a, c, rfl, h1, h2, ints_at h3⟩
theorem not_take_succ {α : Type} {x : α} {xs : List α} {k : Nat} (hk : k < xs.length) (h : x ∉ xs.take k) (hne : xs[k] ≠ x) : x ∉ xs.take (k + 1) := by
  rw [List.take_succ_eq_append_getElem hk]; intro hm
  rcases List.mem_append.1 hm with g | g
  · exact h g
  · exact hne (by simpa using g : x = xs[k]).symm
theorem not_take_all {α : Type} {x : α} {xs : List α} {k : Nat} (hk : xs.length ≤ k) (h : x ∉ xs.take k) : x ∉ xs := by rwa [List.take_of_length_le hk] at h
theorem bkeep {w w' : World} {p : Addr} {x : Value} (hb : Below w.heap.size w w') (h : w.cell? p = some x) : w'.cell? p = some x := by
  rw [hb.cell (World.block_lt_of_cell? w _ h)]; exact h
theorem acell {w : World} {p : Addr} {x : Value} (h : w.cell? p = some x) (o : Obj) : (w.alloc o).cell? p = some x := by
  rw [((Below.refl w.heap.size w).alloc (Nat.le_refl _) o).cell (World.block_lt_of_cell? w _ h)]; exact h
theorem own_block {w w' : World} {B : Nat} {e : TypeId} {sz : Nat} {v : Value} {n : Nat} {xs : List Value} (h : w.ownsRow B e sz v n xs) (hb : ∀ g, v.ownBlock = some g → w'.heap[g]? = w.heap[g]?) : w'.ownsRow B e sz v n xs := by
  obtain ⟨h1, h2⟩ := h
  refine ⟨h1, ?_⟩
  rcases h2 with h2 | ⟨g, cap, cur, hv, hg, hh, r⟩
  · exact .inl h2
  · exact .inr ⟨g, cap, cur, hv, hg, (hb g (by rw [hv]; rfl)).trans hh, r⟩
theorem own_later {w w' : World} {B : Nat} {e : TypeId} {sz : Nat} {v : Value} {n : Nat} {xs : List Value} (h : w.ownsRow B e sz v n xs) (hb : Below w.heap.size w w') : w'.ownsRow B e sz v n xs :=
  own_block h (fun g hg => hb.block g (h.lt g hg).2)
theorem own_base {w : World} {B B' : Nat} {e : TypeId} {sz : Nat} {v : Value} {n : Nat} {xs : List Value} (h : w.ownsRow B e sz v n xs) (hB : B' ≤ B) : w.ownsRow B' e sz v n xs := by
  obtain ⟨h1, h2⟩ := h
  refine ⟨h1, ?_⟩
  rcases h2 with h2 | ⟨g, cap, cur, hv, hg, r⟩
  · exact .inl h2
  · exact .inr ⟨g, cap, cur, hv, Nat.le_trans hB hg, r⟩
theorem own_other {w : World} {B : Nat} {e : TypeId} {sz : Nat} {v : Value} {n : Nat} {xs : List Value} (h : w.ownsRow B e sz v n xs) {p : Addr} (hp : v.ownBlock ≠ some p.block) (u : Value) : (w.setCell p u).ownsRow B e sz v n xs :=
  own_block h (fun g hg => Below.heap_setCell w p u g (fun e => hp (by rw [hg, e])))
theorem take_set_succ {α : Type} (zs ys : List α) (k : Nat) (h : k < zs.length) (hy : k < ys.length) (he : zs.take k = ys.take k) : (zs.set k ys[k]).take (k + 1) = ys.take (k + 1) := by
  rw [List.take_succ_eq_append_getElem (by simpa using h), List.take_succ_eq_append_getElem hy, List.take_set_of_le (Nat.le_refl _), he]
  simp
theorem own_len {w : World} {B : Nat} {e : TypeId} {v : Value} {n : Nat} {xs : List Value} (h : w.ownsRow B e 1 v n xs) : xs.length = n := by have := h.1; omega
theorem own_stored_below {B : Nat} {w wr : World} {g k : Nat} {u : Value} (hb : Below B w wr) (hg : B ≤ g) : Below B w (wr.setCell ⟨g, k, none⟩ u) := hb.setCell (p := ⟨g, k, none⟩) hg u
theorem fkeep {w w' : World} {p : Addr} (hb : Below w.heap.size w w') (hlt : p.block < w.heap.size) (h : w.frozen? p = false) : w'.frozen? p = false := by rw [hb.frozen hlt]; exact h
theorem bcell {W w1 : World} (hb : Below W.heap.size W w1) : (∀ b o, b < W.heap.size → w1.cell? ⟨b, o, none⟩ = W.cell? ⟨b, o, none⟩) ∧ (∀ b o, b < W.heap.size → w1.frozen? ⟨b, o, none⟩ = W.frozen? ⟨b, o, none⟩) :=
  ⟨fun b o h => hb.cell (p := ⟨b, o, none⟩) h, fun b o h => hb.frozen (p := ⟨b, o, none⟩) h⟩
theorem set_other {w : World} {b i o : Nat} {u : Value} (h : i ≠ o) : (w.setCell ⟨b, i, none⟩ u).cell? ⟨b, o, none⟩ = w.cell? ⟨b, o, none⟩ :=
  World.cell?_setCell_other _ _ _ _ (fun e => h (congrArg Addr.off e))
theorem set_same {w : World} {b o : Nat} {u z : Value} (h : w.cell? ⟨b, o, none⟩ = some z) : (w.setCell ⟨b, o, none⟩ u).cell? ⟨b, o, none⟩ = some u :=
  World.cell?_setCell_same' _ _ _ (by rw [h]; rfl)
theorem own_shape {w : World} {B : Nat} {e : TypeId} {sz : Nat} {v : Value} {n : Nat} {xs : List Value} (h : w.ownsRow B e sz v n xs) : ∃ a c, v = .slice a n c := by
  obtain ⟨_, h2⟩ := h
  rcases h2 with ⟨hv, hn⟩ | ⟨g, cap, cur, hv, _⟩
  · subst hn; exact ⟨_, _, hv⟩
  · exact ⟨_, _, hv⟩
/-- only blocks from lo to hi, and new ones, differ -/
structure Out (lo hi : Nat) (w w' : World) : Prop where
  below : Below lo w w'
  above : ∀ b, hi ≤ b → b < w.heap.size → w'.heap[b]? = w.heap[b]?
theorem Out.refl (lo hi : Nat) (w : World) : Out lo hi w w := ⟨Below.refl _ _, fun _ _ _ => rfl⟩
theorem Out.trans {lo hi : Nat} {a b c : World} (h : Out lo hi a b) (k : Out lo hi b c) : Out lo hi a c :=
  ⟨h.below.trans k.below, fun i hi' hl => (k.above i hi' (Nat.lt_of_lt_of_le hl h.below.size)).trans (h.above i hi' hl)⟩
theorem Out.of_below {lo hi : Nat} {w w' : World} (h : Below w.heap.size w w') (hl : lo ≤ w.heap.size) : Out lo hi w w' := ⟨h.mono hl, fun b _ hb => h.block b hb⟩
theorem Out.setCell {lo hi : Nat} {w w' : World} (h : Out lo hi w w') {p : Addr} (h1 : lo ≤ p.block) (h2 : p.block < hi) (u : Value) : Out lo hi w (w'.setCell p u) :=
  ⟨h.below.setCell h1 u, fun b hb hl => by rw [Below.heap_setCell _ _ _ _ (by omega)]; exact h.above b hb hl⟩
theorem Out.cell {lo hi : Nat} {w w' : World} (h : Out lo hi w w') {p : Addr} (hp : p.block < lo ∨ hi ≤ p.block) {x : Value} (hc : w.cell? p = some x) : w'.cell? p = some x := by
  have hlt := World.block_lt_of_cell? w _ hc
  rcases hp with hp | hp
  · rw [h.below.cell hp]; exact hc
  · rw [World.cell?_of_block (w := w) (h.above p.block hp hlt)]; exact hc
theorem Out.block {lo hi : Nat} {w w' : World} (h : Out lo hi w w') {b : Nat} (hb : b < lo ∨ hi ≤ b) (hl : b < w.heap.size) : w'.heap[b]? = w.heap[b]? := by
  rcases hb with hb | hb
  · exact h.below.block b hb
  · exact h.above b hb hl
theorem own_out {lo hi B : Nat} {w w' : World} {e : TypeId} {sz : Nat} {v : Value} {n : Nat} {xs : List Value} (h : w.ownsRow B e sz v n xs) (ho : Out lo hi w w') (hb : ∀ g, v.ownBlock = some g → g < lo ∨ hi ≤ g) : w'.ownsRow B e sz v n xs :=
  own_block h (fun g hg => ho.block (hb g hg) (h.lt g hg).2)
/-- a row of which every cell lies apart from the marked blocks -/
theorem RowAt.out {lo hi : Nat} {w w' : World} {v : Value} {xs : List Value} (h : RowAt w v xs) (ho : Out lo hi w w') (hb : ∀ g, v.ownBlock = some g → g < lo ∨ hi ≤ g) : RowAt w' v xs := by
  obtain ⟨a, c, hv, h1, h2, h3⟩ := h
  refine ⟨a, c, hv, h1, h2, fun k u hu => ?_⟩
  obtain ⟨b, off, ha, hlt, hc⟩ := h3 k u hu
  exact ⟨b, off, ha, Nat.lt_of_lt_of_le hlt ho.below.size, ho.cell (p := ⟨b, off + k, none⟩) (hb b (by rw [hv, ha]; rfl)) hc⟩
theorem Out.of_grown {lo hi : Nat} {w w' : World} {row : Option Nat} (h : w.grownBy w' row) (hl : lo ≤ w.heap.size) (hr : ∀ g, row = some g → lo ≤ g ∧ g < hi) : Out lo hi w w' :=
  ⟨⟨h.os, h.tape, h.output, h.size, fun b hb => h.block b (by omega) (fun e => by have := (hr b e.symm).1; omega)⟩, fun b hb hlt => h.block b hlt (fun e => by have := (hr b e.symm).2; omega)⟩
def countUp (k : Int) : Nat → List Int
  | 0 => []
  | n + 1 => countUp k n ++ [k + n]
theorem countUp_len (k : Int) : ∀ n, (countUp k n).length = n
  | 0 => rfl
  | n + 1 => by simp [countUp, countUp_len k n]
theorem countUp_get (k : Int) : ∀ n j (h : j < (countUp k n).length), (countUp k n)[j] = k + j
  | 0, j, h => by simp [countUp] at h
  | n + 1, j, h => by
    simp only [countUp]
    rw [List.getElem_append]
    have hl := countUp_len k n
    split
    · exact countUp_get k n j (by assumption)
    · have : j = n := by simp [countUp, hl] at h; omega
      subst this
      simp


theorem one_new (w : World) (u : Value) {t : TypeId} : ∀ j x, [u][j]? = some x → (w.alloc (.cells #[u] t)).cell? ((⟨w.heap.size, 0, none⟩ : Addr).add j) = some x := by
  intro j x hx
  cases j with
  | zero => simp at hx; subst hx; simp [Addr.add]
  | succ j => simp at hx
theorem one_newN (w : World) (u : Value) (m : Nat) (hm : m = w.heap.size) {t : TypeId} : ∀ j x, [u][j]? = some x → (w.alloc (.cells #[u] t)).cell? ((⟨m, 0, none⟩ : Addr).add j) = some x := by
  subst hm; exact one_new w u

/-- a row of numbers of the call's own, in a block from l to u -/
def IntsIn (l u : Nat) (w : World) (v : Value) (xs : List Int) : Prop := w.ownsRow l 3 1 v xs.length (ints xs) ∧ ∀ g, v.ownBlock = some g → g < u
theorem IntsIn.at {l u : Nat} {w : World} {v : Value} {xs : List Int} (h : IntsIn l u w v xs) : RowAt w v (ints xs) := rowAt_own h.1
theorem IntsIn.lo {l u : Nat} {w : World} {v : Value} {xs : List Int} (h : IntsIn l u w v xs) (g : Nat) (hg : v.ownBlock = some g) : l ≤ g := (h.1.lt g hg).1
theorem IntsIn.later {l u : Nat} {w w' : World} {v : Value} {xs : List Int} (h : IntsIn l u w v xs) (hb : Below w.heap.size w w') : IntsIn l u w' v xs := ⟨own_later h.1 hb, h.2⟩
theorem IntsIn.out {l u lo hi : Nat} {w w' : World} {v : Value} {xs : List Int} (h : IntsIn l u w v xs) (ho : Out lo hi w w') (hs : u ≤ lo ∨ hi ≤ l) : IntsIn l u w' v xs :=
  ⟨own_out h.1 ho (fun g hg => by have := h.2 g hg; have := h.lo g hg; omega), h.2⟩
theorem IntsIn.mk {l : Nat} {w : World} {v : Value} {xs : List Int} (h : w.ownsRow l 3 1 v xs.length (ints xs)) : IntsIn l w.heap.size w v xs := ⟨h, fun g hg => (h.lt g hg).2⟩
theorem IntsIn.base {l l' u u' : Nat} {w : World} {v : Value} {xs : List Int} (h : IntsIn l u w v xs) (hl : l' ≤ l) (hu : u ≤ u') : IntsIn l' u' w v xs := ⟨own_base h.1 hl, fun g hg => Nat.lt_of_lt_of_le (h.2 g hg) hu⟩
theorem IntsIn.nil (l u : Nat) (w : World) : IntsIn l u w (.slice none 0 0) [] := ⟨World.ownsRow_nil _ _ _ _, fun g hg => by simp [Value.ownBlock] at hg⟩
theorem IntS_open {w : World} {v : Value} {xs : List Int} (h : RowAt w v (ints xs)) : ∃ a c, v = .slice a xs.length c := by
  obtain ⟨a, c, hv, _⟩ := h
  rw [ints_len] at hv
  exact ⟨a, c, hv⟩

/-- the cells of a block from i on -/
def CellsF (w : World) (b : Nat) : Nat → List Value → Prop
  | _, [] => True
  | i, v :: vs => w.cell? ⟨b, i, none⟩ = some v ∧ CellsF w b (i + 1) vs
theorem CellsF.keep {w w' : World} {b : Nat} (hb : Below w.heap.size w w') : ∀ {i : Nat} {vs : List Value}, CellsF w b i vs → CellsF w' b i vs
  | _, [], _ => trivial
  | _, _ :: _, ⟨h, t⟩ => ⟨bkeep hb h, CellsF.keep hb t⟩
theorem CellsF.out {lo hi : Nat} {w w' : World} {b : Nat} (ho : Out lo hi w w') (hs : b < lo ∨ hi ≤ b) : ∀ {i : Nat} {vs : List Value}, CellsF w b i vs → CellsF w' b i vs
  | _, [], _ => trivial
  | i, _ :: _, ⟨h, t⟩ => ⟨ho.cell (p := ⟨b, i, none⟩) hs h, CellsF.out ho hs t⟩

section
variable {H : Type} {enc : TypeId × Value → H} {P : Program} {w : World} {base : Nat} {spare : Nat → Bool} {held : Bool}
theorem strings_trod {t e : TypeId} {n : Nat} {v : Value} {x : DataW H × List MemPlace} (ht : P.underlying t = some (.slice e)) (he : P.underlying e = some .string) (hc : P.cellsOf e = 1)
    (h : DataW.trod enc P w base spare held n t [v] = some x) : ∃ xs : List ByteArray, RowAt w v (strs xs) ∧ ∀ s ∈ xs, s.size ≤ maxLen := by
  rcases open_strings ht he hc h with ⟨hcs, _⟩ | ⟨a, len, cap, ss, hcs, _, hl, hm, hz, _, hcell, hws⟩
  · simp at hcs; subst hcs
    exact ⟨[], ⟨none, 0, rfl, Nat.le_refl _, by decide, fun k u hu => by simp [strs] at hu⟩, fun x hx => by simp at hx⟩
  · simp at hcs; subst hcs
    have hss : len ≤ ss.length := by rw [hz]; split <;> omega
    refine ⟨ss.take len, ⟨some a, cap, by simp [strs, Nat.min_eq_left hss], by simp [strs]; omega, hm, fun k u hu => ?_⟩, fun x hx => hws x (List.mem_of_mem_take hx)⟩
    rw [strs, List.getElem?_map, List.getElem?_take] at hu
    split at hu
    · rename_i hk
      have hk' : k < ss.length := by omega
      rw [List.getElem?_eq_getElem hk'] at hu
      have hcl := hcell k hk'
      obtain ⟨b, off, sp⟩ := a
      have hsp : sp = none := by
        have := World.cell?_spot (hcell 0 (by omega))
        simpa [Addr.add] using this
      subst hsp
      rw [addr_add] at hcl
      have hu' : Value.string (ss[k]) = u := by simpa using hu
      refine ⟨b, off, rfl, World.block_lt_of_cell? w _ hcl, ?_⟩
      rw [hcl, ← hu']
      simp [List.getD, List.getElem?_eq_getElem hk']
    · simp at hu
theorem ints_trod {t e : TypeId} {n : Nat} {v : Value} {x : DataW H × List MemPlace} (ht : P.underlying t = some (.slice e)) (he : P.underlying e = some (.int .i64)) (hc : P.cellsOf e = 1)
    (h : DataW.trod enc P w base spare held n t [v] = some x) : ∃ zs : List Int, RowAt w v (ints zs) ∧ ∀ z ∈ zs, (Lit.int .i64 z).wf = true := by
  rcases open_ints ht he hc h with ⟨hcs, _⟩ | ⟨a, len, cap, ss, hcs, _, hl, hm, hz, _, hcell, hws⟩
  · simp at hcs; subst hcs
    exact ⟨[], ⟨none, 0, rfl, Nat.le_refl _, by decide, fun k u hu => by simp [ints] at hu⟩, fun x hx => by simp at hx⟩
  · simp at hcs; subst hcs
    have hss : len ≤ ss.length := by rw [hz]; split <;> omega
    refine ⟨ss.take len, ⟨some a, cap, by simp [ints, Nat.min_eq_left hss], by simp [ints]; omega, hm, fun k u hu => ?_⟩, fun x hx => hws x (List.mem_of_mem_take hx)⟩
    rw [ints, List.getElem?_map, List.getElem?_take] at hu
    split at hu
    · rename_i hk
      have hk' : k < ss.length := by omega
      rw [List.getElem?_eq_getElem hk'] at hu
      have hcl := hcell k hk'
      obtain ⟨b, off, sp⟩ := a
      have hsp : sp = none := by
        have := World.cell?_spot (hcell 0 (by omega))
        simpa [Addr.add] using this
      subst hsp
      rw [addr_add] at hcl
      have hu' : Value.int .i64 (ss[k]) = u := by simpa using hu
      refine ⟨b, off, rfl, World.block_lt_of_cell? w _ hcl, ?_⟩
      rw [hcl, ← hu']
      simp [List.getD, List.getElem?_eq_getElem hk']
    · simp at hu
end
end Go.Proofs.Ytmcpafflnccfaaa

namespace Go.Proofs.Ytmcpafflnccfaaa

def fstIdx {α : Type} [DecidableEq α] (x : α) (xs : List α) : Int := if x ∈ xs then (xs.idxOf x : Int) else -1
theorem fstIdx_none {α : Type} [DecidableEq α] {x : α} {xs : List α} (h : x ∉ xs) : fstIdx x xs = -1 := if_neg h
theorem fstIdx_hit {α : Type} [DecidableEq α] {x : α} {xs : List α} (k : Nat) (h : k < xs.length) (he : xs[k] = x) (hno : x ∉ xs.take k) : fstIdx x xs = k := by
  have hm : x ∈ xs := by rw [← he]; exact List.getElem_mem h
  have h1 : xs.idxOf x < xs.length := List.idxOf_lt_length_iff.2 hm
  have h2 : xs[xs.idxOf x] = x := List.getElem_idxOf h1
  rw [fstIdx, if_pos hm]
  have h3 : ¬ xs.idxOf x < k := fun hl => hno (by rw [← h2]; exact List.mem_take_iff_getElem.2 ⟨xs.idxOf x, by omega, by simp⟩)
  have h4 : ¬ k < xs.idxOf x := fun hl => absurd he (by
    have := List.not_of_lt_findIdx (p := fun y => y == x) (xs := xs) (i := k) (by exact hl)
    simpa using this)
  omega
theorem fstIdx_lt {α : Type} [DecidableEq α] (x : α) (xs : List α) : -1 ≤ fstIdx x xs ∧ fstIdx x xs < xs.length := by
  unfold fstIdx
  split
  · rename_i h; have := List.idxOf_lt_length_iff.2 h; omega
  · omega
theorem fstIdx_neg {α : Type} [DecidableEq α] (x : α) (xs : List α) : fstIdx x xs < 0 ↔ x ∉ xs := by
  unfold fstIdx
  split
  · rename_i h; simp [h]
  · rename_i h; simp [h]
theorem fstIdx_get {α : Type} [DecidableEq α] (x : α) (xs : List α) (h : x ∈ xs) : ∃ k : Nat, fstIdx x xs = k ∧ ∃ hk : k < xs.length, xs[k] = x ∧ x ∉ xs.take k := by
  have h1 : xs.idxOf x < xs.length := List.idxOf_lt_length_iff.2 h
  refine ⟨xs.idxOf x, by rw [fstIdx, if_pos h], h1, List.getElem_idxOf h1, fun hm => ?_⟩
  obtain ⟨j, hj, hx⟩ := List.mem_take_iff_getElem.1 hm
  have := List.not_of_lt_findIdx (p := fun y => y == x) (xs := xs) (i := j) (by show j < xs.idxOf x; omega)
  simp [hx] at this
theorem nodup_first {α : Type} [DecidableEq α] (xs : List α) : xs.Nodup ↔ ∀ k (h : k < xs.length), fstIdx xs[k] xs = k := by
  rw [List.Nodup, List.pairwise_iff_getElem]
  constructor
  · intro h k hk
    refine fstIdx_hit k hk rfl fun hm => ?_
    obtain ⟨j, hj, hx⟩ := List.mem_take_iff_getElem.1 hm
    exact h j k (by omega) hk (by omega) hx
  · intro h i j hi hj hij he
    have h1 := h i hi
    have h2 := h j hj
    rw [he] at h1
    omega
theorem nodup_take {α : Type} [DecidableEq α] (xs : List α) : xs.Nodup ↔ ∀ k (h : k < xs.length), xs[k] ∉ xs.take k := by
  rw [nodup_first]
  constructor
  · intro h k hk hm
    obtain ⟨j, hj, _, _, hn⟩ := fstIdx_get xs[k] xs (List.getElem_mem hk)
    rw [h k hk] at hj
    obtain rfl : k = j := by omega
    exact hn hm
  · intro h k hk
    exact fstIdx_hit k hk rfl (h k hk)
end Go.Proofs.Ytmcpafflnccfaaa

namespace Go.Proofs.Ytmcpafflnccfaaa

structure LineD where
  name : ByteArray
  stops : List Int
  runs : List Int
structure NetD where
  stops : List ByteArray
  lines : List LineD

/-! names -/
def lowB (c : UInt8) : Bool := decide (97 ≤ (c.toNat : Int)) && decide ((c.toNat : Int) ≤ 122)
def digB (c : UInt8) : Bool := decide (48 ≤ (c.toNat : Int)) && decide ((c.toNat : Int) ≤ 57)
/-- a letter followed by at most seven letters or digits -/
def NameOk (s : ByteArray) : Prop := 1 ≤ s.size ∧ s.size ≤ 8 ∧ ∀ k (h : k < s.size), lowB s[k] = true ∨ (k ≠ 0 ∧ digB s[k] = true)
instance (s : ByteArray) : Decidable (NameOk s) := by unfold NameOk; exact instDecidableAnd (dq := instDecidableAnd (dq := Nat.decidableBallLT _ _))
def nameB (s : ByteArray) : Bool := decide (NameOk s)
theorem nameB_yes {s : ByteArray} (h : NameOk s) : nameB s = true := decide_eq_true h
theorem nameB_no {s : ByteArray} (h : ¬ NameOk s) : nameB s = false := decide_eq_false h

/-! lines -/
def LineOk (l : LineD) (n : Nat) : Prop := (2 ≤ l.stops.length ∧ l.stops.length ≤ 6 ∧ l.runs.length + 1 = l.stops.length) ∧ (∀ s ∈ l.stops, 0 ≤ s ∧ s < (n : Int)) ∧ l.stops.Nodup ∧ ∀ r ∈ l.runs, 1 ≤ r ∧ r ≤ 60
def LineGood (l : LineD) (n : Nat) : Prop := NameOk l.name ∧ LineOk l n
instance (l : LineD) (n : Nat) : Decidable (LineOk l n) := by unfold LineOk; infer_instance
instance (l : LineD) (n : Nat) : Decidable (LineGood l n) := by unfold LineGood; infer_instance
def lineOkB (l : LineD) (n : Nat) : Bool := decide (LineOk l n)
def lineGoodB (l : LineD) (n : Nat) : Bool := decide (LineGood l n)
theorem lineOkB_yes {l : LineD} {n : Nat} (h : LineOk l n) : lineOkB l n = true := decide_eq_true h
theorem lineOkB_no {l : LineD} {n : Nat} (h : ¬ LineOk l n) : lineOkB l n = false := decide_eq_false h
theorem lineGoodB_yes {l : LineD} {n : Nat} (h : LineGood l n) : lineGoodB l n = true := decide_eq_true h
theorem lineGoodB_no {l : LineD} {n : Nat} (h : ¬ LineGood l n) : lineGoodB l n = false := decide_eq_false h

/-! networks -/
def NetGood (n : NetD) : Prop := (2 ≤ n.stops.length ∧ n.stops.length ≤ 8 ∧ 1 ≤ n.lines.length ∧ n.lines.length ≤ 5) ∧ (∀ s ∈ n.stops, NameOk s) ∧ n.stops.Nodup ∧ (∀ l ∈ n.lines, LineGood l n.stops.length) ∧ (n.lines.map (·.name)).Nodup
instance (n : NetD) : Decidable (NetGood n) := by unfold NetGood; infer_instance
def netB (n : NetD) : Bool := decide (NetGood n)
theorem netB_yes {n : NetD} (h : NetGood n) : netB n = true := decide_eq_true h
theorem netB_no {n : NetD} (h : ¬ NetGood n) : netB n = false := decide_eq_false h

theorem bytes_eq (a b : ByteArray) : (a.toList == b.toList) = decide (a = b) := by
  rw [Bool.eq_iff_iff]; simp only [beq_iff_eq, decide_eq_true_eq]
  constructor
  · intro h; rw [Go.ByteArray.toList_eq, Go.ByteArray.toList_eq] at h
    cases a; cases b; simp at h; rw [h]
  · rintro rfl; rfl
end Go.Proofs.Ytmcpafflnccfaaa

namespace Go.Proofs.Ytmcpafflnccfaaa
set_option linter.unusedVariables false

/-- a span by its two times -/
abbrev SpanD := Int × Int
def TimeOk (t : Int) : Prop := 0 ≤ t ∧ t ≤ 1799
instance (t : Int) : Decidable (TimeOk t) := by unfold TimeOk; infer_instance
def timeB (t : Int) : Bool := decide (TimeOk t)
theorem timeB_yes {t : Int} (h : TimeOk t) : timeB t = true := decide_eq_true h
theorem timeB_no {t : Int} (h : ¬ TimeOk t) : timeB t = false := decide_eq_false h
def SpanOk (s : SpanD) : Prop := TimeOk s.1 ∧ TimeOk s.2 ∧ s.1 ≤ s.2
instance (s : SpanD) : Decidable (SpanOk s) := by unfold SpanOk; infer_instance
def spanB (s : SpanD) : Bool := decide (SpanOk s)
theorem spanB_yes {s : SpanD} (h : SpanOk s) : spanB s = true := decide_eq_true h
theorem spanB_no {s : SpanD} (h : ¬ SpanOk s) : spanB s = false := decide_eq_false h
def SpansOk (l : List SpanD) : Prop := l.length ≤ 20 ∧ ∀ s ∈ l, SpanOk s
instance (l : List SpanD) : Decidable (SpansOk l) := by unfold SpansOk; infer_instance
def spansB (l : List SpanD) : Bool := decide (SpansOk l)
theorem spansB_yes {l : List SpanD} (h : SpansOk l) : spansB l = true := decide_eq_true h
theorem spansB_no {l : List SpanD} (h : ¬ SpansOk l) : spansB l = false := decide_eq_false h

/-! what spans contain -/
def inSpB (t : Int) (s : SpanD) : Bool := decide (s.1 ≤ t) && decide (t < s.2)
def cov (l : List SpanD) (t : Int) : Nat := l.countP (inSpB t)
def Has (l : List SpanD) (t : Int) : Prop := ∃ s ∈ l, s.1 ≤ t ∧ t < s.2
theorem cov_has (l : List SpanD) (t : Int) : 0 < cov l t ↔ Has l t := by
  unfold cov Has; rw [List.countP_pos_iff]
  constructor
  · rintro ⟨s, hs, h⟩; simp [inSpB] at h; exact ⟨s, hs, h⟩
  · rintro ⟨s, hs, h⟩; exact ⟨s, hs, by simp [inSpB, h]⟩
theorem cov_le (l : List SpanD) (t : Int) : cov l t ≤ l.length := List.countP_le_length
theorem cov_append (l m : List SpanD) (t : Int) : cov (l ++ m) t = cov l t + cov m t := List.countP_append
theorem cov_one (s : SpanD) (t : Int) : cov [s] t = if s.1 ≤ t ∧ t < s.2 then 1 else 0 := by
  unfold cov inSpB; by_cases h1 : s.1 ≤ t <;> by_cases h2 : t < s.2 <;> simp [h1, h2]
theorem cov_out {l : List SpanD} (h : ∀ s ∈ l, SpanOk s) {t : Int} (ht : t < 0 ∨ 1799 ≤ t) : cov l t = 0 := by
  by_cases h0 : 0 < cov l t
  · obtain ⟨s, hs, h1, h2⟩ := (cov_has l t).1 h0
    have := h s hs; unfold SpanOk TimeOk at this; omega
  · omega

/-! the fewest spans of some times -/
structure Canon (P : Int → Prop) (l : List SpanD) : Prop where
  pos : ∀ s ∈ l, s.1 < s.2
  apart : l.Pairwise (fun a b => a.2 < b.1)
  has : ∀ t, P t ↔ Has l t
theorem Canon.congr {P Q : Int → Prop} {l : List SpanD} (h : Canon P l) (e : ∀ t, P t ↔ Q t) : Canon Q l := ⟨h.pos, h.apart, fun t => (e t).symm.trans (h.has t)⟩
theorem has_cons (a : SpanD) (l : List SpanD) (t : Int) : Has (a :: l) t ↔ (a.1 ≤ t ∧ t < a.2) ∨ Has l t := by
  unfold Has; simp
theorem has_append (l m : List SpanD) (t : Int) : Has (l ++ m) t ↔ Has l t ∨ Has m t := by
  unfold Has; constructor
  · rintro ⟨s, hs, h⟩; rcases List.mem_append.1 hs with g | g
    · exact .inl ⟨s, g, h⟩
    · exact .inr ⟨s, g, h⟩
  · rintro (⟨s, hs, h⟩ | ⟨s, hs, h⟩)
    · exact ⟨s, List.mem_append.2 (.inl hs), h⟩
    · exact ⟨s, List.mem_append.2 (.inr hs), h⟩
theorem has_one (a : SpanD) (t : Int) : Has [a] t ↔ a.1 ≤ t ∧ t < a.2 := by unfold Has; simp
theorem has_nil (t : Int) : ¬ Has [] t := by unfold Has; simp
theorem Canon.nil {P : Int → Prop} (h : ∀ t, ¬ P t) : Canon P [] := ⟨by simp, by simp, fun t => ⟨fun g => absurd g (h t), fun g => absurd g (has_nil t)⟩⟩

theorem Canon.uniq : ∀ {l m : List SpanD} {P : Int → Prop}, Canon P l → Canon P m → l = m := by
  intro l
  induction l with
  | nil =>
    intro m P h k
    cases m with
    | nil => rfl
    | cons b bs =>
      have hb := k.pos b (List.mem_cons_self ..)
      exact absurd ((h.has b.1).1 ((k.has b.1).2 ⟨b, List.mem_cons_self .., Int.le_refl _, hb⟩)) (has_nil _)
  | cons a al' ih =>
    intro m P h k
    cases m with
    | nil =>
      have hb := h.pos a (List.mem_cons_self ..)
      exact absurd ((k.has a.1).1 ((h.has a.1).2 ⟨a, List.mem_cons_self .., Int.le_refl _, hb⟩)) (has_nil _)
    | cons b bs =>
      have ha := h.pos a (List.mem_cons_self ..)
      have hb := k.pos b (List.mem_cons_self ..)
      have hap := List.pairwise_cons.1 h.apart
      have kap := List.pairwise_cons.1 k.apart
      have e1 : a.1 = b.1 := by
        have h1 : b.1 ≤ a.1 := by
          obtain ⟨s, hs, g1, g2⟩ := (k.has a.1).1 ((h.has a.1).2 ⟨a, List.mem_cons_self .., Int.le_refl _, ha⟩)
          rcases List.mem_cons.1 hs with rfl | hs
          · exact g1
          · have := kap.1 s hs; omega
        have h2 : a.1 ≤ b.1 := by
          obtain ⟨s, hs, g1, g2⟩ := (h.has b.1).1 ((k.has b.1).2 ⟨b, List.mem_cons_self .., Int.le_refl _, hb⟩)
          rcases List.mem_cons.1 hs with rfl | hs
          · exact g1
          · have := hap.1 s hs; omega
        omega
      have e2 : a.2 = b.2 := by
        have h1 : ¬ a.2 < b.2 := fun hlt => by
          obtain ⟨s, hs, g1, g2⟩ := (h.has a.2).1 ((k.has a.2).2 ⟨b, List.mem_cons_self .., by omega, hlt⟩)
          rcases List.mem_cons.1 hs with rfl | hs
          · omega
          · have := hap.1 s hs; omega
        have h2 : ¬ b.2 < a.2 := fun hlt => by
          obtain ⟨s, hs, g1, g2⟩ := (k.has b.2).1 ((h.has b.2).2 ⟨a, List.mem_cons_self .., by omega, hlt⟩)
          rcases List.mem_cons.1 hs with rfl | hs
          · omega
          · have := kap.1 s hs; omega
        omega
      have eab : a = b := Prod.ext e1 e2
      subst eab
      have tail : ∀ {q : List SpanD}, Canon P (a :: q) → Canon (fun t => P t ∧ a.2 ≤ t) q := fun {q} hq => by
        have qap := List.pairwise_cons.1 hq.apart
        refine ⟨fun s hs => hq.pos s (List.mem_cons_of_mem _ hs), qap.2, fun t => ⟨fun ⟨hp, hle⟩ => ?_, fun ⟨s, hs, g1, g2⟩ => ⟨(hq.has t).2 ⟨s, List.mem_cons_of_mem _ hs, g1, g2⟩, ?_⟩⟩⟩
        · rcases (has_cons _ _ _).1 ((hq.has t).1 hp) with g | g
          · omega
          · exact g
        · have := qap.1 s hs; omega
      rw [ih (tail h) (tail k)]

theorem Canon.push {P : Int → Prop} {l : List SpanD} (h : Canon P l) {a b : Int} (hl : ∀ s ∈ l, s.2 < a) (hab : a < b) : Canon (fun t => P t ∨ (a ≤ t ∧ t < b)) (l ++ [(a, b)]) := by
  refine ⟨fun s hs => ?_, List.pairwise_append.2 ⟨h.apart, by simp, fun s hs q hq => ?_⟩, fun t => ?_⟩
  · rcases List.mem_append.1 hs with g | g
    · exact h.pos s g
    · have : s = (a, b) := by simpa using g
      subst this; exact hab
  · have : q = (a, b) := by simpa using hq
    subst this; exact hl s hs
  · rw [has_append, has_one, h.has t]
theorem Canon.grow {P : Int → Prop} {l : List SpanD} {x : SpanD} (h : Canon P (l ++ [x])) {b : Int} (hb : x.2 ≤ b) : Canon (fun t => P t ∨ (x.2 ≤ t ∧ t < b)) (l ++ [(x.1, b)]) := by
  have hx := h.pos x (List.mem_append.2 (.inr (by simp)))
  obtain ⟨p1, p2, p3⟩ := List.pairwise_append.1 h.apart
  refine ⟨fun s hs => ?_, List.pairwise_append.2 ⟨p1, by simp, fun s hs q hq => ?_⟩, fun t => ?_⟩
  · rcases List.mem_append.1 hs with g | g
    · exact h.pos s (List.mem_append.2 (.inl g))
    · have : s = (x.1, b) := by simpa using g
      subst this; show x.1 < b; omega
  · have : q = (x.1, b) := by simpa using hq
    subst this; exact p3 s hs x (by simp)
  · rw [has_append, has_one, h.has t, has_append, has_one]
    show _ ↔ _ ∨ (x.1 ≤ t ∧ t < b)
    constructor
    · rintro ((g | g) | g)
      · exact .inl g
      · exact .inr (by omega)
      · exact .inr (by omega)
    · rintro (g | g)
      · exact .inl (.inl g)
      · by_cases h2 : t < x.2
        · exact .inl (.inr (by omega))
        · exact .inr (by omega)

/-! the model's runs: time by time -/
def lastOf (l : List SpanD) : SpanD := l.getD (l.length - 1) (0, 0)
theorem lastOf_append (l : List SpanD) (x : SpanD) : lastOf (l ++ [x]) = x := by unfold lastOf; simp
theorem set_last (l : List SpanD) (x y : SpanD) : (l ++ [x]).set ((l ++ [x]).length - 1) y = l ++ [y] := by simp
def runStep (out : List SpanD) (t : Int) : List SpanD := if 0 < out.length ∧ (lastOf out).2 = t then out.set (out.length - 1) ((lastOf out).1, t + 1) else out ++ [(t, t + 1)]
def runsF (P : Int → Bool) (lo : Int) : Nat → List SpanD
  | 0 => []
  | n + 1 => if P (lo + n) then runStep (runsF P lo n) (lo + n) else runsF P lo n
theorem last_cases (l : List SpanD) : l = [] ∨ ∃ i x, l = i ++ [x] := by
  rcases List.eq_nil_or_concat l with h | ⟨i, x, h⟩
  · exact .inl h
  · exact .inr ⟨i, x, by simpa using h⟩
theorem runStep_one (t : Int) : runStep [] t = [(t, t + 1)] := by simp [runStep]
theorem runStep_grow (l : List SpanD) (x : SpanD) : runStep (l ++ [x]) x.2 = l ++ [(x.1, x.2 + 1)] := by
  unfold runStep; rw [if_pos ⟨by simp, by rw [lastOf_append]⟩, lastOf_append, set_last]
theorem runStep_push (l : List SpanD) (x : SpanD) (t : Int) (h : x.2 ≠ t) : runStep (l ++ [x]) t = l ++ [x] ++ [(t, t + 1)] := by
  unfold runStep; rw [if_neg (fun g => h (by have := g.2; rwa [lastOf_append] at this))]
theorem Canon.run {Q : Int → Prop} {l : List SpanD} {T : Int} (h : Canon Q l) (hT : ∀ t, Q t → t < T) : Canon (fun t => Q t ∨ t = T) (runStep l T) := by
  have hle : ∀ s ∈ l, s.2 ≤ T := fun s hs => by
    have := h.pos s hs
    have := hT (s.2 - 1) ((h.has _).2 ⟨s, hs, by omega, by omega⟩); omega
  rcases last_cases l with rfl | ⟨i, x, rfl⟩
  · rw [runStep_one]
    exact (h.push (a := T) (b := T + 1) (by simp) (by omega)).congr fun t => by constructor <;> (rintro (g | g); exact .inl g; exact .inr (by omega))
  · by_cases he : x.2 = T
    · subst he; rw [runStep_grow]
      exact (h.grow (b := x.2 + 1) (by omega)).congr fun t => by constructor <;> (rintro (g | g); exact .inl g; exact .inr (by omega))
    · rw [runStep_push _ _ _ he]
      refine (h.push (a := T) (b := T + 1) (fun s hs => ?_) (by omega)).congr fun t => by constructor <;> (rintro (g | g); exact .inl g; exact .inr (by omega))
      have hx := hle x (by simp)
      rcases List.mem_append.1 hs with g | g
      · have := (List.pairwise_append.1 h.apart).2.2 s g x (by simp)
        have := h.pos x (by simp); omega
      · have : s = x := by simpa using g
        subst this; omega
theorem runsF_canon (P : Int → Bool) (lo : Int) : ∀ n : Nat, Canon (fun t => lo ≤ t ∧ t < lo + n ∧ P t = true) (runsF P lo n)
  | 0 => Canon.nil fun t h => by have := h.2.1; have := h.1; simp at *; omega
  | n + 1 => by
    have ih := runsF_canon P lo n
    simp only [runsF]
    by_cases hp : P (lo + n) = true
    · rw [if_pos hp]
      refine (ih.run (T := lo + n) (fun t h => h.2.1)).congr fun t => ?_
      constructor
      · rintro (⟨h1, h2, h3⟩ | rfl)
        · exact ⟨h1, by omega, h3⟩
        · exact ⟨by omega, by omega, hp⟩
      · rintro ⟨h1, h2, h3⟩
        by_cases e : t = lo + n
        · exact .inr e
        · exact .inl ⟨h1, by omega, h3⟩
    · rw [if_neg hp]
      refine ih.congr fun t => ?_
      constructor
      · rintro ⟨h1, h2, h3⟩; exact ⟨h1, by omega, h3⟩
      · rintro ⟨h1, h2, h3⟩
        by_cases e : t = lo + n
        · subst e; exact absurd h3 hp
        · exact ⟨h1, by omega, h3⟩
theorem runStep_len (l : List SpanD) (t : Int) : (runStep l t).length ≤ l.length + 1 := by unfold runStep; split <;> simp
theorem runsF_len (P : Int → Bool) (lo : Int) : ∀ n, (runsF P lo n).length ≤ n
  | 0 => Nat.le_refl _
  | n + 1 => by
    simp only [runsF]; have := runsF_len P lo n
    split
    · have := runStep_len (runsF P lo n) (lo + n); omega
    · omega

/-! the program's merge: over the spans in the order of their beginnings -/
def mergeStep (acc : List SpanD) (x : SpanD) : List SpanD :=
  if x.1 = x.2 then acc else if 0 < acc.length ∧ x.1 ≤ (lastOf acc).2 then acc.set (acc.length - 1) ((lastOf acc).1, max (lastOf acc).2 x.2) else acc ++ [x]
def mergeF (l : List SpanD) : List SpanD := l.foldl mergeStep []
theorem mergeF_snoc (l : List SpanD) (x : SpanD) : mergeF (l ++ [x]) = mergeStep (mergeF l) x := by simp [mergeF]
theorem mergeF_take (l : List SpanD) (k : Nat) (h : k < l.length) : mergeF (l.take (k + 1)) = mergeStep (mergeF (l.take k)) l[k] := by
  rw [List.take_succ_eq_append_getElem h, mergeF_snoc]
theorem mergeStep_len (l : List SpanD) (x : SpanD) : (mergeStep l x).length ≤ l.length + 1 := by unfold mergeStep; split; omega; split <;> simp
theorem mergeF_canon : ∀ (n : Nat) (l : List SpanD), l.length = n → l.Pairwise (fun a b => a.1 ≤ b.1) → (∀ s ∈ l, s.1 ≤ s.2) → Canon (Has l) (mergeF l) ∧ (∀ s ∈ mergeF l, ∃ y ∈ l, s.1 = y.1) ∧ (mergeF l).length ≤ n
  | 0, l, hl, _, _ => by
    have : l = [] := List.length_eq_zero_iff.1 hl
    subst this; exact ⟨Canon.nil fun t => has_nil t, by simp [mergeF], by simp [mergeF]⟩
  | n + 1, l, hl, hp, hs => by
    rcases last_cases l with rfl | ⟨i, x, rfl⟩
    · simp at hl
    obtain ⟨p1, p2, p3⟩ := List.pairwise_append.1 hp
    obtain ⟨c, hf, hn⟩ := mergeF_canon n i (by simpa using hl) p1 (fun s h => hs s (List.mem_append.2 (.inl h)))
    have hx := hs x (by simp)
    have hle : ∀ s ∈ mergeF i, s.1 ≤ x.1 := fun s h => by obtain ⟨y, hy, e⟩ := hf s h; rw [e]; exact p3 y hy x (by simp)
    rw [mergeF_snoc]
    refine ⟨?_, ?_, by have := mergeStep_len (mergeF i) x; omega⟩
    · unfold mergeStep
      by_cases he : x.1 = x.2
      · rw [if_pos he]
        exact c.congr fun t => by rw [has_append, has_one]; constructor
                                  · exact .inl
                                  · rintro (g | g); exact g; omega
      rw [if_neg he]
      rcases last_cases (mergeF i) with e | ⟨j, y, e⟩
      · rw [e] at c ⊢
        simp only [List.length_nil, Nat.lt_irrefl, false_and, if_false]
        exact (c.push (a := x.1) (b := x.2) (by simp) (by omega)).congr fun t => by rw [has_append, has_one]
      · rw [e] at c hle ⊢
        rw [lastOf_append]
        by_cases h2 : x.1 ≤ y.2
        · rw [if_pos ⟨by simp, h2⟩, set_last]
          refine (c.grow (b := max y.2 x.2) (by omega)).congr fun t => ?_
          rw [has_append, has_one]
          have hyx := hle y (by simp)
          constructor
          · rintro (g | g)
            · exact .inl g
            · exact .inr (by omega)
          · rintro (g | g)
            · exact .inl g
            · by_cases h3 : t < y.2
              · exact .inl ((c.has t).2 ⟨y, by simp, by omega, h3⟩)
              · exact .inr (by omega)
        · rw [if_neg (fun g => h2 g.2)]
          refine (c.push (a := x.1) (b := x.2) (fun s h => ?_) (by omega)).congr fun t => by rw [has_append, has_one]
          rcases List.mem_append.1 h with g | g
          · have := (List.pairwise_append.1 c.apart).2.2 s g y (by simp)
            have := c.pos y (by simp); omega
          · have : s = y := by simpa using g
            subst this; omega
    · intro s h
      unfold mergeStep at h
      split at h
      · obtain ⟨y, hy, e⟩ := hf s h; exact ⟨y, List.mem_append.2 (.inl hy), e⟩
      · split at h
        · rename_i hq
          rcases last_cases (mergeF i) with e | ⟨j, y, e⟩
          · rw [e] at hq; simp at hq
          · rw [e, lastOf_append, set_last] at h
            rcases List.mem_append.1 h with g | g
            · obtain ⟨z, hz, e'⟩ := hf s (by rw [e]; exact List.mem_append.2 (.inl g)); exact ⟨z, List.mem_append.2 (.inl hz), e'⟩
            · have : s = (y.1, max y.2 x.2) := by simpa using g
              subst this
              obtain ⟨z, hz, e'⟩ := hf y (by rw [e]; simp); exact ⟨z, List.mem_append.2 (.inl hz), e'⟩
        · rcases List.mem_append.1 h with g | g
          · obtain ⟨y, hy, e⟩ := hf s g; exact ⟨y, List.mem_append.2 (.inl hy), e⟩
          · have : s = x := by simpa using g
            subst this; exact ⟨s, by simp, rfl⟩

/-- the fewest spans of the times that some of the spans contain -/
def covB (l : List SpanD) (t : Int) : Bool := decide (0 < cov l t)
def mergedOf (l : List SpanD) : List SpanD := runsF (covB l) 0 1799
theorem mergedOf_canon {l : List SpanD} (h : ∀ s ∈ l, SpanOk s) : Canon (Has l) (mergedOf l) :=
  (runsF_canon (covB l) 0 1799).congr fun t => by
    constructor
    · rintro ⟨_, _, h3⟩; exact (cov_has l t).1 (by simpa [covB] using h3)
    · intro g
      have hg := (cov_has l t).2 g
      refine ⟨?_, ?_, by simp [covB, hg]⟩
      · by_cases h0 : 0 ≤ t
        · exact h0
        · rw [cov_out h (.inl (by omega))] at hg; omega
      · by_cases h0 : t < 1799
        · simpa using h0
        · rw [cov_out h (.inr (by omega))] at hg; omega
theorem mergeF_eq {l d : List SpanD} (h : ∀ s ∈ l, SpanOk s) (hp : ∀ s, s ∈ d ↔ s ∈ l) (hs : d.Pairwise (fun a b => a.1 ≤ b.1)) : mergeF d = mergedOf l := by
  have hd := mergeF_canon d.length d rfl hs (fun s hs => (h s ((hp s).1 hs)).2.2)
  refine hd.1.uniq ((mergedOf_canon h).congr fun t => ?_)
  unfold Has; constructor
  · rintro ⟨s, hs, g⟩; exact ⟨s, (hp s).2 hs, g⟩
  · rintro ⟨s, hs, g⟩; exact ⟨s, (hp s).1 hs, g⟩
theorem mergedOf_in {l : List SpanD} (h : ∀ s ∈ l, SpanOk s) : ∀ s ∈ mergedOf l, 0 ≤ s.1 ∧ s.1 < s.2 ∧ s.2 ≤ 1799 := fun s hs => by
  have c := mergedOf_canon h
  have hp := c.pos s hs
  obtain ⟨a, ha, h1, h2⟩ := (c.has s.1).2 ⟨s, hs, by omega, hp⟩
  obtain ⟨b, hb, h3, h4⟩ := (c.has (s.2 - 1)).2 ⟨s, hs, by omega, by omega⟩
  have := h a ha; have := h b hb; unfold SpanOk TimeOk at *; omega

/-! the free times -/
def common (a b : SpanD) : SpanD := if min a.2 b.2 ≤ max a.1 b.1 then (0, 0) else (max a.1 b.1, min a.2 b.2)
/-- where the last span ends, and the gaps so far -/
def freeStep (w : SpanD) (q : Int × List SpanD) (x : SpanD) : Int × List SpanD := (x.2, if common (q.1, x.1) w = (0, 0) then q.2 else q.2 ++ [common (q.1, x.1) w])
def freeF (w : SpanD) (m : List SpanD) : Int × List SpanD := m.foldl (freeStep w) (0, [])
theorem freeF_snoc (w : SpanD) (l : List SpanD) (x : SpanD) : freeF w (l ++ [x]) = freeStep w (freeF w l) x := by simp [freeF]
theorem freeF_take (w : SpanD) (l : List SpanD) (k : Nat) (h : k < l.length) : freeF w (l.take (k + 1)) = freeStep w (freeF w (l.take k)) l[k] := by
  rw [List.take_succ_eq_append_getElem h, freeF_snoc]
def freeOf (l : List SpanD) (w : SpanD) : List SpanD := runsF (fun t => !covB l t) w.1 (w.2 - w.1).toNat
theorem common_zero {a b : SpanD} (h0 : 0 ≤ a.1) (h : ¬ min a.2 b.2 ≤ max a.1 b.1) : common a b ≠ (0, 0) := fun e => by
  unfold common at e; rw [if_neg h] at e
  have h1 := congrArg Prod.fst e; have h2 := congrArg Prod.snd e
  simp only at h1 h2; omega
theorem freeStep_canon {w : SpanD} {f : Int} {fr : List SpanD} {P : Int → Prop} {x : SpanD} (h0 : 0 ≤ f) (c : Canon P fr) (hl : ∀ s ∈ fr, s.2 < max f w.1) :
    Canon (fun t => P t ∨ (f ≤ t ∧ t < x.1 ∧ w.1 ≤ t ∧ t < w.2)) (freeStep w (f, fr) x).2 ∧ ((∀ s ∈ fr, s.2 < x.2) → x.1 < x.2 → ∀ s ∈ (freeStep w (f, fr) x).2, s.2 < x.2) := by
  unfold freeStep
  by_cases hc : min x.1 w.2 ≤ max f w.1
  · have e : common (f, x.1) w = (0, 0) := by unfold common; rw [if_pos hc]
    simp only [e, if_true]
    exact ⟨c.congr fun t => ⟨.inl, by rintro (g | g); exact g; omega⟩, fun h _ => h⟩
  · have e := common_zero (a := (f, x.1)) (b := w) h0 hc
    simp only [if_neg e]
    have e2 : common (f, x.1) w = (max f w.1, min x.1 w.2) := by unfold common; rw [if_neg hc]
    rw [e2]
    refine ⟨(c.push hl (by omega)).congr fun t => ?_, fun h hx s hs => ?_⟩
    · constructor
      · rintro (g | g); exact .inl g; exact .inr (by omega)
      · rintro (g | g); exact .inl g; exact .inr (by omega)
    · rcases List.mem_append.1 hs with g | g
      · exact h s g
      · have : s = (max f w.1, min x.1 w.2) := by simpa using g
        subst this; show min x.1 w.2 < x.2; omega
theorem freeF_canon (w : SpanD) : ∀ (n : Nat) (m : List SpanD), m.length = n → (∀ s ∈ m, 0 ≤ s.1 ∧ s.1 < s.2) → m.Pairwise (fun a b => a.2 < b.1) →
    0 ≤ (freeF w m).1 ∧ (∀ s ∈ m, s.2 ≤ (freeF w m).1) ∧ ((freeF w m).1 = 0 ∨ ∃ s ∈ m, s.2 = (freeF w m).1) ∧ Canon (fun t => t < (freeF w m).1 ∧ 0 ≤ t ∧ w.1 ≤ t ∧ t < w.2 ∧ ¬ Has m t) (freeF w m).2 ∧ (∀ s ∈ (freeF w m).2, s.2 < (freeF w m).1)
  | 0, m, hl, _, _ => by
    have : m = [] := List.length_eq_zero_iff.1 hl
    subst this
    simp only [freeF, List.foldl_nil]
    exact ⟨by omega, by simp, by simp, Canon.nil fun t h => by omega, by simp⟩
  | n + 1, m, hl, hs, hp => by
    rcases last_cases m with rfl | ⟨i, x, rfl⟩
    · simp at hl
    obtain ⟨p1, p2, p3⟩ := List.pairwise_append.1 hp
    obtain ⟨f0, f1, f2, f3, f4⟩ := freeF_canon w n i (by simpa using hl) (fun s h => hs s (List.mem_append.2 (.inl h))) p1
    have hx := hs x (by simp)
    rw [freeF_snoc]
    have hfx : (freeF w i).1 ≤ x.1 := by
      rcases f2 with e | ⟨s, hs', e⟩
      · omega
      · have := p3 s hs' x (by simp); omega
    obtain ⟨g1, g2⟩ := freeStep_canon (w := w) (x := x) f0 f3 (fun s h => by have := f4 s h; omega)
    have g3 := g2 (fun s h => by have := f4 s h; omega) hx.2
    refine ⟨?_, ?_, .inr ⟨x, by simp, rfl⟩, g1.congr fun t => ?_, g3⟩
    · show 0 ≤ x.2; omega
    · intro s h
      show s.2 ≤ x.2
      rcases List.mem_append.1 h with g | g
      · have := p3 s g x (by simp); omega
      · have : s = x := by simpa using g
        subst this; omega
    · show _ ↔ t < x.2 ∧ _
      rw [has_append, has_one]
      constructor
      · rintro (⟨a1, a2, a3, a4, a5⟩ | ⟨a1, a2, a3, a4⟩)
        · exact ⟨by omega, a2, a3, a4, by rintro (g | g); exact a5 g; omega⟩
        · refine ⟨by omega, by omega, a3, a4, ?_⟩
          rintro (⟨s, hs', b1, b2⟩ | g)
          · have := f1 s hs'; omega
          · omega
      · rintro ⟨a1, a2, a3, a4, a5⟩
        by_cases hq : t < (freeF w i).1
        · exact .inl ⟨hq, a2, a3, a4, fun g => a5 (.inl g)⟩
        · refine .inr ⟨by omega, ?_, a3, a4⟩
          by_cases hq2 : t < x.1
          · exact hq2
          · exact absurd (.inr ⟨by omega, a1⟩) a5
theorem freeF_eq {l : List SpanD} {w : SpanD} (h : ∀ s ∈ l, SpanOk s) (hw : SpanOk w) : (freeF w (mergedOf l ++ [(1799, 1799)])).2 = freeOf l w := by
  have c := mergedOf_canon h
  have hin := mergedOf_in h
  obtain ⟨f0, f1, f2, f3, f4⟩ := freeF_canon w _ (mergedOf l) rfl (fun s hs => by have := hin s hs; omega) c.apart
  rw [freeF_snoc]
  obtain ⟨g1, _⟩ := freeStep_canon (w := w) (x := (1799, 1799)) f0 f3 (fun s h => by have := f4 s h; omega)
  unfold SpanOk TimeOk at hw
  refine g1.uniq ((runsF_canon (fun t => !covB l t) w.1 (w.2 - w.1).toNat).congr fun t => ?_)
  have hb : ((!covB l t) = true) ↔ ¬ Has (mergedOf l) t := by
    rw [← c.has t, ← cov_has]; simp [covB]
  rw [hb]
  constructor
  · rintro ⟨a1, a2, a3⟩
    by_cases hq : t < (freeF w (mergedOf l)).1
    · exact .inl ⟨hq, by omega, a1, by omega, a3⟩
    · exact .inr ⟨by omega, by show t < 1799; omega, a1, by omega⟩
  · rintro (⟨a1, a2, a3, a4, a5⟩ | ⟨a1, a2, a3, a4⟩)
    · exact ⟨a3, by omega, a5⟩
    · exact ⟨a3, by omega, fun ⟨s, hs, b1, b2⟩ => by have := f1 s hs; omega⟩

/-! the number of times -/
def sumLen (l : List SpanD) : Int := (l.map fun s => s.2 - s.1).sum
theorem sumLen_append (l m : List SpanD) : sumLen (l ++ m) = sumLen l + sumLen m := by simp [sumLen]
theorem sumLen_one (x : SpanD) : sumLen [x] = x.2 - x.1 := by simp [sumLen]
theorem sumLen_take (l : List SpanD) (k : Nat) (h : k < l.length) : sumLen (l.take (k + 1)) = sumLen (l.take k) + (l[k].2 - l[k].1) := by
  rw [List.take_succ_eq_append_getElem h, sumLen_append, sumLen_one]
def totF (P : Int → Bool) : Nat → Nat
  | 0 => 0
  | n + 1 => if P (n : Int) then totF P n + 1 else totF P n
theorem totF_le (P : Int → Bool) : ∀ n, totF P n ≤ n
  | 0 => Nat.le_refl _
  | n + 1 => by simp only [totF]; have := totF_le P n; split <;> omega
theorem sumLen_run (l : List SpanD) (t : Int) : sumLen (runStep l t) = sumLen l + 1 := by
  rcases last_cases l with rfl | ⟨i, x, rfl⟩
  · rw [runStep_one, sumLen_one]; simp [sumLen]; omega
  · by_cases he : x.2 = t
    · subst he; rw [runStep_grow, sumLen_append, sumLen_append, sumLen_one, sumLen_one]; simp only; omega
    · rw [runStep_push _ _ _ he, sumLen_append (i ++ [x]), sumLen_one]; simp only; omega
theorem sumLen_runs (P : Int → Bool) : ∀ n : Nat, sumLen (runsF P 0 n) = (totF P n : Int)
  | 0 => by simp [runsF, sumLen, totF]
  | n + 1 => by
    have := sumLen_runs P n
    simp only [runsF, totF, Int.zero_add]
    split
    · rw [sumLen_run]; omega
    · exact this
def totalOf (l : List SpanD) : Nat := totF (covB l) 1800
theorem totalOf_eq {l : List SpanD} (h : ∀ s ∈ l, SpanOk s) : (totalOf l : Int) = sumLen (mergedOf l) := by
  unfold totalOf mergedOf
  rw [sumLen_runs]
  have hz : covB l ((1799 : Nat) : Int) = false := by unfold covB; rw [cov_out h (.inr (by simp))]; simp
  have step : ∀ n : Nat, covB l (n : Int) = false → totF (covB l) (n + 1) = totF (covB l) n := fun n hn => by rw [totF, hn]; simp
  rw [← step 1799 hz]

/-! the most contained time -/
def bestF (c : Nat → Nat) : Nat → Nat
  | 0 => 0
  | n + 1 => if c (bestF c n) < c (n + 1) then n + 1 else bestF c n
theorem bestF_spec (c : Nat → Nat) : ∀ n, bestF c n ≤ n ∧ (∀ j, j ≤ n → c j ≤ c (bestF c n)) ∧ ∀ j, j < bestF c n → c j < c (bestF c n)
  | 0 => ⟨Nat.le_refl _, fun j h => by have : j = 0 := by omega
                                       subst this; exact Nat.le_refl _, fun j h => by simp [bestF] at h⟩
  | n + 1 => by
    obtain ⟨h1, h2, h3⟩ := bestF_spec c n
    simp only [bestF]
    split
    · rename_i hc
      refine ⟨Nat.le_refl _, fun j hj => ?_, fun j hj => ?_⟩
      · by_cases e : j = n + 1
        · rw [e]; exact Nat.le_refl _
        · have := h2 j (by omega); omega
      · have := h2 j (by omega); omega
    · rename_i hc
      refine ⟨by omega, fun j hj => ?_, h3⟩
      by_cases e : j = n + 1
      · rw [e]; omega
      · exact h2 j (by omega)
theorem bestF_uniq (c : Nat → Nat) (n b : Nat) (hb : b ≤ n) (h1 : ∀ j, j ≤ n → c j ≤ c b) (h2 : ∀ j, j < b → c j < c b) : bestF c n = b := by
  obtain ⟨g1, g2, g3⟩ := bestF_spec c n
  have e1 := h1 _ g1
  have e2 := g2 b hb
  by_cases hlt : bestF c n < b
  · have := h2 _ hlt; omega
  · by_cases hgt : b < bestF c n
    · have := g3 _ hgt; omega
    · omega
def covN (l : List SpanD) (t : Nat) : Nat := cov l (t : Int)
def busyT (l : List SpanD) : Nat := bestF (covN l) 1799
def busyN (l : List SpanD) : Nat := covN l (busyT l)
theorem busyT_le (l : List SpanD) : busyT l ≤ 1799 := (bestF_spec _ _).1

def busyStep (l : List SpanD) (q : Int × Int) (x : SpanD) : Int × Int := if q.2 < (cov l x.1 : Int) ∨ ((cov l x.1 : Int) = q.2 ∧ x.1 < q.1) then (x.1, (cov l x.1 : Int)) else q
def busyF (l p : List SpanD) : Int × Int := p.foldl (busyStep l) (0, 0)
theorem busyF_take (l p : List SpanD) (k : Nat) (h : k < p.length) : busyF l (p.take (k + 1)) = busyStep l (busyF l (p.take k)) p[k] := by
  unfold busyF; rw [List.take_succ_eq_append_getElem h, List.foldl_append]; rfl
theorem busyF_inv (l : List SpanD) : ∀ (n : Nat) (p : List SpanD), p.length = n → (∀ s ∈ p, SpanOk s) →
    ((busyF l p = (0, 0)) ∨ (∃ x ∈ p, (busyF l p).1 = x.1 ∧ (busyF l p).2 = (cov l x.1 : Int) ∧ 0 < (busyF l p).2)) ∧ ∀ x ∈ p, (cov l x.1 : Int) ≤ (busyF l p).2 ∧ ((cov l x.1 : Int) = (busyF l p).2 → (busyF l p).1 ≤ x.1)
  | 0, p, hl, _ => by
    have : p = [] := List.length_eq_zero_iff.1 hl
    subst this; exact ⟨.inl rfl, by simp⟩
  | n + 1, p, hl, hs => by
    rcases last_cases p with rfl | ⟨i, x, rfl⟩
    · simp at hl
    obtain ⟨h1, h2⟩ := busyF_inv l n i (by simpa using hl) (fun s h => hs s (List.mem_append.2 (.inl h)))
    have e : busyF l (i ++ [x]) = busyStep l (busyF l i) x := by simp [busyF]
    have hx := hs x (by simp)
    unfold SpanOk TimeOk at hx
    rw [e]
    have hnn : 0 ≤ (busyF l i).2 ∧ ((busyF l i).2 = 0 → (busyF l i).1 = 0) := by
      rcases h1 with g | ⟨y, _, _, _, g⟩
      · rw [g]; simp
      · omega
    generalize busyF l i = q at *
    unfold busyStep
    split
    · rename_i hc
      refine ⟨.inr ⟨x, by simp, rfl, rfl, ?_⟩, fun y hy => ?_⟩
      · show (0 : Int) < _; rcases hc with g | ⟨g1, g2⟩
        · omega
        · by_cases g3 : q.2 = 0
          · have := hnn.2 g3; omega
          · omega
      · show _ ≤ _ ∧ (_ → x.1 ≤ _)
        rcases List.mem_append.1 hy with g | g
        · have := h2 y g
          refine ⟨?_, fun g3 => ?_⟩
          · show (cov l y.1 : Int) ≤ (cov l x.1 : Int); omega
          · have g3' : (cov l y.1 : Int) = (cov l x.1 : Int) := g3
            rcases hc with k | ⟨k1, k2⟩
            · omega
            · have := this.2 (by omega); omega
        · have : y = x := by simpa using g
          subst this; exact ⟨Int.le_refl _, fun _ => Int.le_refl _⟩
    · rename_i hc
      refine ⟨?_, fun y hy => ?_⟩
      · rcases h1 with g | ⟨y, hy, g⟩
        · exact .inl g
        · exact .inr ⟨y, List.mem_append.2 (.inl hy), g⟩
      · rcases List.mem_append.1 hy with g | g
        · exact h2 y g
        · have : y = x := by simpa using g
          subst this; exact ⟨by omega, fun g3 => by omega⟩
/-- who contains a time: one of them begins last, and everyone that contains the time contains that beginning -/
theorem cov_from (l : List SpanD) (t : Int) (h : 0 < cov l t) : ∃ x ∈ l, x.1 ≤ t ∧ cov l t ≤ cov l x.1 := by
  have key : ∀ m : List SpanD, Has m t → ∃ x ∈ m, x.1 ≤ t ∧ t < x.2 ∧ ∀ s ∈ m, s.1 ≤ t → t < s.2 → s.1 ≤ x.1 := by
    intro m
    induction m with
    | nil => intro h; exact absurd h (has_nil _)
    | cons a m ih =>
      intro hm
      by_cases hq : Has m t
      · obtain ⟨x, hx, h1, h2, h3⟩ := ih hq
        by_cases hb : (a.1 ≤ t ∧ t < a.2) ∧ x.1 < a.1
        · refine ⟨a, by simp, hb.1.1, hb.1.2, fun s hs k1 k2 => ?_⟩
          rcases List.mem_cons.1 hs with rfl | hs
          · omega
          · have := h3 s hs k1 k2; omega
        · refine ⟨x, List.mem_cons_of_mem _ hx, h1, h2, fun s hs k1 k2 => ?_⟩
          rcases List.mem_cons.1 hs with rfl | hs
          · omega
          · exact h3 s hs k1 k2
      · rcases (has_cons _ _ _).1 hm with g | g
        · refine ⟨a, by simp, g.1, g.2, fun s hs k1 k2 => ?_⟩
          rcases List.mem_cons.1 hs with rfl | hs
          · omega
          · exact absurd ⟨s, hs, k1, k2⟩ hq
        · exact absurd g hq
  obtain ⟨x, hx, h1, h2, h3⟩ := key l ((cov_has l t).1 h)
  refine ⟨x, hx, h1, ?_⟩
  unfold cov
  refine List.countP_mono_left fun s hs hin => ?_
  simp only [inSpB, Bool.and_eq_true, decide_eq_true_eq] at hin ⊢
  have := h3 s hs hin.1 hin.2
  omega
theorem busyF_eq {l : List SpanD} (h : ∀ s ∈ l, SpanOk s) : busyF l l = ((busyT l : Int), (busyN l : Int)) := by
  obtain ⟨h1, h2⟩ := busyF_inv l l.length l rfl h
  have hall : ∀ t : Int, (cov l t : Int) ≤ (busyF l l).2 := fun t => by
    by_cases h0 : 0 < cov l t
    · obtain ⟨x, hx, _, hc⟩ := cov_from l t h0
      have := (h2 x hx).1; omega
    · rcases h1 with g | ⟨_, _, _, _, g⟩
      · rw [g]; show _ ≤ (0 : Int); omega
      · omega
  rcases h1 with g | ⟨x, hx, g1, g2, g3⟩
  · have hz : ∀ t : Int, cov l t = 0 := fun t => by have := hall t; rw [g] at this; have : (cov l t : Int) ≤ 0 := this; omega
    have e : busyT l = 0 := bestF_uniq _ _ _ (by omega) (fun j _ => by unfold covN; rw [hz, hz]; exact Nat.le_refl _) (fun j hj => by omega)
    rw [g, busyN, e, covN, hz]; rfl
  · have hok := h x hx
    unfold SpanOk TimeOk at hok
    have hxn : ((x.1.toNat : Nat) : Int) = x.1 := by omega
    have e : busyT l = x.1.toNat := by
      refine bestF_uniq _ _ _ (by omega) (fun j _ => ?_) (fun j hj => ?_)
      · have := hall (j : Int); unfold covN; rw [hxn]; omega
      · unfold covN; rw [hxn]
        by_cases hlt : cov l (j : Int) < cov l x.1
        · exact hlt
        · exfalso
          obtain ⟨y, hy, k1, k2⟩ := cov_from l (j : Int) (by omega)
          have := h2 y hy
          have := this.2 (by omega)
          omega
    refine Prod.ext ?_ ?_
    · show _ = ((busyT l : Nat) : Int); rw [g1, e, hxn]
    · show _ = ((busyN l : Nat) : Int); rw [g2, busyN, e, covN, hxn]
end Go.Proofs.Ytmcpafflnccfaaa

namespace Go.Proofs.Ytmcpafflnccfaaa
open Go.RowKit Go.ChangeShapes Go.WideShapes Go.ChangeAt Go.Deep Go.Joins
set_option linter.unusedVariables false

structure TripD where
  id : Int
  line : Int
  start : Int
deriving DecidableEq
def tripV (s : TripD) : Value := .agg #[.int .i64 s.id, .int .i64 s.line, .int .i64 s.start]
def TripWf (s : TripD) : Prop := (Lit.int .i64 s.id).wf = true ∧ (Lit.int .i64 s.line).wf = true ∧ (Lit.int .i64 s.start).wf = true
/-- a slice value of as many trips as xs -/
def TripsAt (w : World) (v : Value) (xs : List TripD) : Prop :=
  ∃ a c, v = .slice a xs.length c ∧ xs.length ≤ c ∧ c ≤ maxLen ∧ ∀ k (hk : k < xs.length), ∃ b off, a = some ⟨b, off, none⟩ ∧ b < w.heap.size ∧ w.cell? ⟨b, off + k * 3, none⟩ = some (.int .i64 xs[k].id) ∧ w.cell? ⟨b, off + k * 3 + 1, none⟩ = some (.int .i64 xs[k].line) ∧ w.cell? ⟨b, off + k * 3 + 2, none⟩ = some (.int .i64 xs[k].start)
theorem TripsAt.below {w w' : World} {v : Value} {xs : List TripD} (h : TripsAt w v xs) {B : Nat} (hB : B = w.heap.size) (hb : Below B w w') : TripsAt w' v xs := by
  subst hB
  obtain ⟨a, c, hv, h1, h2, h3⟩ := h
  refine ⟨a, c, hv, h1, h2, fun k hk => ?_⟩
  obtain ⟨b, off, ha, hlt, c0, c1, c2⟩ := h3 k hk
  exact ⟨b, off, ha, Nat.lt_of_lt_of_le hlt hb.size, bkeep hb c0, bkeep hb c1, bkeep hb c2⟩
theorem trips_open {w : World} {v : Value} {xs : List TripD} (h : TripsAt w v xs) : ∃ a c, v = .slice a xs.length c ∧ xs.length ≤ c ∧ c ≤ 9223372036854775807 ∧
    Hid (∀ k (hk : k < xs.length), ∃ b off, a = some ⟨b, off, none⟩ ∧ b < w.heap.size ∧ w.cell? ⟨b, off + k * 3, none⟩ = some (.int .i64 xs[k].id) ∧ w.cell? ⟨b, off + k * 3 + 1, none⟩ = some (.int .i64 xs[k].line) ∧ w.cell? ⟨b, off + k * 3 + 2, none⟩ = some (.int .i64 xs[k].start)) := by
  obtain ⟨a, c, rfl, h1, h2, h3⟩ := h
  exact ⟨a, c, rfl, h1, h2, h3⟩
theorem TripS_open {w : World} {v : Value} {xs : List TripD} (h : TripsAt w v xs) : ∃ a c, v = .slice a xs.length c := by
  obtain ⟨a, c, rfl, _⟩ := h; exact ⟨a, c, rfl⟩

/-! the cells of trips, one behind the other -/
def tripC : List TripD → List Value
  | [] => []
  | s :: xs => .int .i64 s.id :: .int .i64 s.line :: .int .i64 s.start :: tripC xs
theorem tripC_len : ∀ xs : List TripD, (tripC xs).length = xs.length * 3
  | [] => rfl
  | s :: xs => by simp only [tripC, List.length_cons]; rw [tripC_len xs]; omega
theorem tripC_append : ∀ xs ys : List TripD, tripC (xs ++ ys) = tripC xs ++ tripC ys
  | [], ys => rfl
  | s :: xs, ys => by simp only [tripC, List.cons_append]; rw [tripC_append xs ys]
theorem tripC_get0 : ∀ (xs : List TripD) (k : Nat) (hk : k < xs.length), (tripC xs)[k * 3]? = some (.int .i64 xs[k].id)
  | s :: xs, 0, _ => rfl
  | s :: xs, k + 1, hk => by
    have := tripC_get0 xs k (by simpa using hk)
    rw [show (k + 1) * 3 = k * 3 + 1 + 1 + 1 by omega]
    simpa [tripC] using this
theorem tripC_get1 : ∀ (xs : List TripD) (k : Nat) (hk : k < xs.length), (tripC xs)[k * 3 + 1]? = some (.int .i64 xs[k].line)
  | s :: xs, 0, _ => rfl
  | s :: xs, k + 1, hk => by
    have := tripC_get1 xs k (by simpa using hk)
    rw [show (k + 1) * 3 + 1 = k * 3 + 1 + 1 + 1 + 1 by omega]
    simpa [tripC] using this
theorem tripC_get2 : ∀ (xs : List TripD) (k : Nat) (hk : k < xs.length), (tripC xs)[k * 3 + 2]? = some (.int .i64 xs[k].start)
  | s :: xs, 0, _ => rfl
  | s :: xs, k + 1, hk => by
    have := tripC_get2 xs k (by simpa using hk)
    rw [show (k + 1) * 3 + 2 = k * 3 + 2 + 1 + 1 + 1 by omega]
    simpa [tripC] using this
theorem tripC_set : ∀ (xs : List TripD) (k : Nat) (s : TripD) (hk : k < xs.length), (((tripC xs).set (k * 3) (.int .i64 s.id)).set (k * 3 + 1) (.int .i64 s.line)).set (k * 3 + 2) (.int .i64 s.start) = tripC (xs.set k s)
  | x :: xs, 0, s, _ => rfl
  | x :: xs, k + 1, s, hk => by
    have := tripC_set xs k s (by simpa using hk)
    rw [show (k + 1) * 3 = k * 3 + 1 + 1 + 1 by omega, show k * 3 + 1 + 1 + 1 + 1 = k * 3 + 1 + 1 + 1 + 1 from rfl, show k * 3 + 1 + 1 + 1 + 2 = k * 3 + 2 + 1 + 1 + 1 by omega]
    simpa [tripC] using this
theorem tripC_one : ∀ (w : World) (s : TripD) (t : TypeId), ∀ j x, (tripC [s])[j]? = some x → (w.alloc (.cells #[.int .i64 s.id, .int .i64 s.line, .int .i64 s.start] t)).cell? ((⟨w.heap.size, 0, none⟩ : Addr).add j) = some x := by
  intro w s t j x hx
  rw [addr_add, Nat.zero_add]
  match j, hx with
  | 0, hx => simp [tripC] at hx; subst hx; simp
  | 1, hx => simp [tripC] at hx; subst hx; simp
  | 2, hx => simp [tripC] at hx; subst hx; simp
  | j + 3, hx => simp [tripC] at hx
theorem tripC_cells (xs : List TripD) : ∀ u ∈ tripC xs, u.oneCell' = true := by
  induction xs with
  | nil => simp [tripC]
  | cons s xs ih =>
    intro u hu
    simp only [tripC, List.mem_cons] at hu
    rcases hu with rfl | rfl | rfl | hu
    · rfl
    · rfl
    · rfl
    · exact ih u hu

/-- a row of trips of the call's own, in a block from l to u -/
def TripsIn (l u : Nat) (w : World) (v : Value) (xs : List TripD) : Prop := w.ownsRow l 125 3 v xs.length (tripC xs) ∧ ∀ g, v.ownBlock = some g → g < u
theorem tripsAt_own {w : World} {B : Nat} {e : TypeId} {v : Value} {xs : List TripD} (h : w.ownsRow B e 3 v xs.length (tripC xs)) : TripsAt w v xs := by
  have hc := fun g hg => h.cells (g := g) hg
  have hl := h.lt
  obtain ⟨hn, h2⟩ := h
  rcases h2 with ⟨hv, h0⟩ | ⟨g, cap, cur, hv, hg, hh, h1, h3, h4, h5⟩
  · have : xs = [] := List.eq_nil_of_length_eq_zero h0
    subst this
    exact ⟨none, 0, hv, Nat.le_refl _, by decide, fun k hk => by simp at hk⟩
  · refine ⟨_, cap, hv, h1, h3, fun k hk => ⟨g, 0, rfl, (hl g (by rw [hv]; rfl)).2, ?_, ?_, ?_⟩⟩
    · have := hc g (by rw [hv]; rfl) (k * 3) _ (tripC_get0 xs k hk)
      rw [addr_add] at this; exact this
    · have := hc g (by rw [hv]; rfl) (k * 3 + 1) _ (tripC_get1 xs k hk)
      rw [addr_add] at this; exact this
    · have := hc g (by rw [hv]; rfl) (k * 3 + 2) _ (tripC_get2 xs k hk)
      rw [addr_add] at this; exact this
theorem TripsIn.at {l u : Nat} {w : World} {v : Value} {xs : List TripD} (h : TripsIn l u w v xs) : TripsAt w v xs := tripsAt_own h.1
theorem TripsIn.lo {l u : Nat} {w : World} {v : Value} {xs : List TripD} (h : TripsIn l u w v xs) (g : Nat) (hg : v.ownBlock = some g) : l ≤ g := (h.1.lt g hg).1
theorem TripsIn.later {l u : Nat} {w w' : World} {v : Value} {xs : List TripD} (h : TripsIn l u w v xs) (hb : Below w.heap.size w w') : TripsIn l u w' v xs := ⟨own_later h.1 hb, h.2⟩
theorem TripsIn.out {l u lo hi : Nat} {w w' : World} {v : Value} {xs : List TripD} (h : TripsIn l u w v xs) (ho : Out lo hi w w') (hs : u ≤ lo ∨ hi ≤ l) : TripsIn l u w' v xs :=
  ⟨own_out h.1 ho (fun g hg => by have := h.2 g hg; have := h.lo g hg; omega), h.2⟩
theorem TripsIn.mk {l : Nat} {w : World} {v : Value} {xs : List TripD} (h : w.ownsRow l 125 3 v xs.length (tripC xs)) : TripsIn l w.heap.size w v xs := ⟨h, fun g hg => (h.lt g hg).2⟩
theorem TripsIn.base {l l' u u' : Nat} {w : World} {v : Value} {xs : List TripD} (h : TripsIn l u w v xs) (hl : l' ≤ l) (hu : u ≤ u') : TripsIn l' u' w v xs := ⟨own_base h.1 hl, fun g hg => Nat.lt_of_lt_of_le (h.2 g hg) hu⟩
theorem TripsIn.nil (l u : Nat) (w : World) : TripsIn l u w (.slice none 0 0) [] := ⟨World.ownsRow_nil _ _ _ _, fun g hg => by simp [Value.ownBlock] at hg⟩

section
variable {H : Type} {enc : TypeId × Value → H} {P : Program} {w : World} {base : Nat} {spare : Nat → Bool} {held : Bool}

theorem trips_trod {t e : TypeId} {f0 f1 f2 : Field} {n : Nat} {v : Value} {x : DataW H × List MemPlace} (ht : P.underlying t = some (.slice e)) (he : P.underlying e = some (.struct #[f0, f1, f2]))
    (hone : oneCellFields P #[f0, f1, f2] = true) (hc : P.cellsOf e = 3) (h0 : P.underlying f0.type = some (.int .i64)) (h1 : P.underlying f1.type = some (.int .i64)) (h2 : P.underlying f2.type = some (.int .i64))
    (h : DataW.trod enc P w base spare held n t [v] = some x) : ∃ ls : List TripD, TripsAt w v ls ∧ ∀ l ∈ ls, TripWf l := by
  rcases open_slice ht h with ⟨hcs, _⟩ | ⟨a, len, cap, m, n', D, Pl, hcs, _, hl, hm, hmm, _, hel⟩
  · simp at hcs; subst hcs
    exact ⟨[], ⟨none, 0, rfl, Nat.le_refl _, by decide, fun k hk => by simp at hk⟩, fun x hx => by simp at hx⟩
  · simp at hcs; subst hcs
    have hml : len ≤ m := by rw [hmm]; split <;> omega
    have hsp : ∀ k, k < len → a.spot = none := fun k hk => by
      obtain ⟨cs', hcc, htt⟩ := hel 0 (by omega)
      obtain ⟨_, hcl, hat⟩ := World.cells?_some hcc
      have := hat 0 (by omega)
      have hq : cs'[0]? = some (cs'[0]'(by omega)) := List.getElem?_eq_getElem _
      rw [hq] at this
      have := World.cell?_spot this
      simpa [Addr.add] using this
    have each : ∀ k, k < len → ∃ l : TripD, (w.cell? ⟨a.block, a.off + k * 3, none⟩ = some (.int .i64 l.id) ∧ w.cell? ⟨a.block, a.off + k * 3 + 1, none⟩ = some (.int .i64 l.line) ∧ w.cell? ⟨a.block, a.off + k * 3 + 2, none⟩ = some (.int .i64 l.start)) ∧ TripWf l := fun k hk => by
      obtain ⟨cs', hcc, htt⟩ := hel k (by omega)
      obtain ⟨_, hcl, hat⟩ := World.cells?_some hcc
      obtain ⟨ys, n2, _, _, _, hylen, hg⟩ := DataW.trod_struct he htt
      have hs := hsp k hk
      obtain ⟨b, off, sp⟩ := a
      simp only at hs
      subst hs
      rw [hc] at hcl hat
      match cs', hcl with
      | [c0, c1, c2], _ =>
        obtain ⟨o0, k0⟩ := hone_of hone 0 f0 rfl
        obtain ⟨o1, k1⟩ := hone_of hone 1 f1 rfl
        obtain ⟨o2, k2⟩ := hone_of hone 2 f2 rfl
        have g0 := hg 0 f0 rfl
        have g1 := hg 1 f1 rfl
        have g2 := hg 2 f2 rfl
        rw [o0, k0] at g0
        rw [o1, k1] at g1
        rw [o2, k2] at g2
        simp only [List.drop_zero, List.drop_succ_cons, List.take_succ_cons, List.take_zero] at g0 g1 g2
        have hy : ys.length = 3 := hylen
        rw [List.getElem?_eq_getElem (by omega)] at g0 g1 g2
        obtain ⟨p, hp, _, hpw⟩ := DataW.trod_int h0 g0
        obtain ⟨q, hq, _, hqw⟩ := DataW.trod_int h1 g1
        obtain ⟨r, hr, _, hrw⟩ := DataW.trod_int h2 g2
        simp at hp hq hr
        subst hp hq hr
        refine ⟨⟨p, q, r⟩, ⟨?_, ?_, ?_⟩, hpw, hqw, hrw⟩
        · have := hat 0 (by omega); rw [addr_add, addr_add] at this; simpa [hc] using this
        · have := hat 1 (by omega); rw [addr_add, addr_add] at this; simpa [hc] using this
        · have := hat 2 (by omega); rw [addr_add, addr_add] at this; simpa [hc] using this
    have fam : ∃ F : Nat → TripD, ∀ k, k < len → (w.cell? ⟨a.block, a.off + k * 3, none⟩ = some (.int .i64 (F k).id) ∧ w.cell? ⟨a.block, a.off + k * 3 + 1, none⟩ = some (.int .i64 (F k).line) ∧ w.cell? ⟨a.block, a.off + k * 3 + 2, none⟩ = some (.int .i64 (F k).start)) ∧ TripWf (F k) :=
      ⟨fun k => if hk : k < len then Classical.choose (each k hk) else ⟨0, 0, 0⟩, fun k hk => by simp only [dif_pos hk]; exact Classical.choose_spec (each k hk)⟩
    obtain ⟨F, hF⟩ := fam
    refine ⟨(List.range len).map F, ⟨some a, cap, by simp, by simp; omega, hm, fun k hk => ?_⟩, fun l hl => ?_⟩
    · have hk' : k < len := by simpa using hk
      have e : ((List.range len).map F)[k] = F k := by simp
      have hs := hsp k hk'
      have h3 := hF k hk'
      rw [e]
      obtain ⟨b, off, sp⟩ := a
      simp only at hs
      subst hs
      exact ⟨b, off, rfl, World.block_lt_of_cell? w _ h3.1.1, h3.1.1, h3.1.2.1, h3.1.2.2⟩
    · obtain ⟨k, hk, rfl⟩ := List.mem_map.1 hl
      exact (hF k (List.mem_range.1 hk)).2
end
end Go.Proofs.Ytmcpafflnccfaaa

namespace Go.Proofs.Ytmcpafflnccfaaa
set_option linter.unusedVariables false

structure TTD where
  net : NetD
  trips : List TripD

/-- the minutes of a trip's whole line -/
def allRun (n : NetD) (x : TripD) : Int := ((n.lines[x.line.toNat]?).map (fun l => l.runs.sum)).getD 0
theorem allRun_at {n : NetD} {x : TripD} {i : Nat} (hx : x.line = i) (h : i < n.lines.length) : allRun n x = (n.lines[i]'h).runs.sum := by
  unfold allRun; rw [hx]; simp [h]
def arrF (n : NetD) (x : TripD) : Int := x.start + allRun n x
def CanRun (n : NetD) (x : TripD) : Prop := (0 ≤ x.line ∧ x.line < n.lines.length) ∧ TimeOk x.start ∧ TimeOk (arrF n x)
def TripStep (t : TTD) (k : Nat) (h : k < t.trips.length) : Prop :=
  1 ≤ t.trips[k].id ∧ t.trips[k].id ≤ 999 ∧ CanRun t.net t.trips[k] ∧ ∀ j (hj : j + 1 = k), (t.trips[j]'(by omega)).id < t.trips[k].id
def TripsTo (t : TTD) (k : Nat) : Prop := ∀ j (h : j < t.trips.length), j < k → TripStep t j h
def TTGood (t : TTD) : Prop := NetGood t.net ∧ t.trips.length ≤ 12 ∧ TripsTo t t.trips.length
noncomputable instance (t : TTD) : Decidable (TTGood t) := Classical.propDecidable _
noncomputable def ttB (t : TTD) : Bool := decide (TTGood t)
theorem ttB_yes {t : TTD} (h : TTGood t) : ttB t = true := decide_eq_true h
theorem ttB_no {t : TTD} (h : ¬ TTGood t) : ttB t = false := decide_eq_false h
theorem tripsTo_succ {t : TTD} {k : Nat} (hk : k < t.trips.length) (h : TripsTo t k) (h1 : TripStep t k hk) : TripsTo t (k + 1) := by
  intro j hj hjk
  by_cases e : j = k
  · subst e; exact h1
  · exact h j hj (by omega)
/-- the Id ahead of a place, 0 ahead of the first -/
def lastId (t : TTD) : Nat → Int
  | 0 => 0
  | k + 1 => ((t.trips[k]?).map (fun x => x.id)).getD 0
theorem lastId_succ {t : TTD} {k : Nat} (h : k < t.trips.length) : lastId t (k + 1) = (t.trips[k]'h).id := by simp [lastId, h]
theorem step_of {t : TTD} {k : Nat} (hk : k < t.trips.length) (h : TripsTo t k) (h1 : lastId t k < (t.trips[k]'hk).id) (h2 : (t.trips[k]'hk).id ≤ 999) (h3 : CanRun t.net (t.trips[k]'hk)) : TripStep t k hk := by
  cases k with
  | zero => exact ⟨by simp only [lastId] at h1; omega, h2, h3, fun j hj => by omega⟩
  | succ j =>
    rw [lastId_succ (by omega)] at h1
    have := (h j (by omega) (by omega)).1
    refine ⟨by omega, h2, h3, fun i hi => ?_⟩
    obtain rfl : i = j := by omega
    exact h1
theorem step_last {t : TTD} {k : Nat} (hk : k < t.trips.length) (h : TripStep t k hk) : lastId t k < (t.trips[k]'hk).id := by
  cases k with
  | zero => have := h.1; simp only [lastId]; omega
  | succ j => rw [lastId_succ (by omega)]; exact h.2.2.2 j rfl
theorem ids_lt {t : TTD} (h : TripsTo t t.trips.length) : ∀ (d i : Nat) (h2 : i + d + 1 < t.trips.length), (t.trips[i]'(by omega)).id < (t.trips[i + d + 1]'h2).id
  | 0, i, h2 => (h (i + 1) h2 h2).2.2.2 i rfl
  | d + 1, i, h2 => by
    have h3 := ids_lt h d i (by omega)
    have h4 := (h (i + d + 1 + 1) (by omega) (by omega)).2.2.2 (i + d + 1) rfl
    have e : i + (d + 1) + 1 = i + d + 1 + 1 := by omega
    simp only [e]
    omega
theorem TTGood.asc {t : TTD} (h : TTGood t) (i j : Nat) (hij : i < j) (hj : j < t.trips.length) : (t.trips[i]'(by omega)).id < (t.trips[j]'hj).id := by
  have := ids_lt h.2.2 (j - i - 1) i (by omega)
  have e : i + (j - i - 1) + 1 = j := by omega
  simp only [e] at this
  exact this
theorem TTGood.step {t : TTD} (h : TTGood t) (k : Nat) (hk : k < t.trips.length) : TripStep t k hk := h.2.2 k hk hk
theorem TTGood.line {t : TTD} (h : TTGood t) (k : Nat) (hk : k < t.trips.length) : ∃ i : Nat, (t.trips[k]'hk).line = i ∧ ∃ hi : i < t.net.lines.length, arrF t.net (t.trips[k]'hk) = (t.trips[k]'hk).start + (t.net.lines[i]'hi).runs.sum := by
  have hs := (h.step k hk).2.2.1.1
  obtain ⟨i, hi⟩ := Int.eq_ofNat_of_zero_le hs.1
  have hlt : i < t.net.lines.length := by omega
  exact ⟨i, hi, hlt, by unfold arrF; rw [allRun_at hi hlt]⟩
/-- the place of an Id, or -1 -/
def idIdx (t : TTD) (id : Int) : Int := fstIdx id (t.trips.map (fun x => x.id))
end Go.Proofs.Ytmcpafflnccfaaa

namespace Go.Proofs.Ytmcpafflnccfaaa
open Go.RowKit
set_option linter.unusedVariables false

theorem infoString : (Try.prog.info? 9).map (fun i => (i.zero, i.size, i.bytes)) = some (some (.string ⟨#[]⟩), 1, 16) := by kernel_rfl

/-- the letters of all strings together -/
def sumSz (xs : List ByteArray) : Nat := (xs.map (·.size)).sum
theorem sumSz_take (xs : List ByteArray) (k : Nat) (h : k < xs.length) : sumSz (xs.take (k + 1)) = sumSz (xs.take k) + (xs[k]'h).size := by
  rw [List.take_succ_eq_append_getElem h]; simp only [sumSz, List.map_append, List.sum_append, List.map_cons, List.map_nil, List.sum_cons, List.sum_nil]; omega
theorem sumSz_le (xs : List ByteArray) (k : Nat) : sumSz (xs.take k) ≤ sumSz xs := by
  have : sumSz xs = sumSz (xs.take k) + sumSz (xs.drop k) := by
    conv => lhs; rw [← List.take_append_drop k xs]
    simp only [sumSz, List.map_append, List.sum_append]
  omega

theorem str_at {w : World} {a : Option Addr} {xs : List ByteArray} (h : ∀ k u, (xs.map Value.string)[k]? = some u → ∃ b off, a = some ⟨b, off, none⟩ ∧ b < w.heap.size ∧ w.cell? ⟨b, off + k, none⟩ = some u) (k : Nat) (hk : k < xs.length) :
    ∃ b off, a = some ⟨b, off, none⟩ ∧ b < w.heap.size ∧ w.cell? ⟨b, off + k, none⟩ = some (.string (xs[k]'hk)) := h k _ (by simp [List.getElem?_eq_getElem hk])

set_option maxHeartbeats 1000000 in
theorem szStringS_any (v : Value) (xs : List ByteArray) (left : Int) (w : World) (hr : RowAt w v (xs.map .string)) (hx : ∀ x ∈ xs, x.size ≤ maxLen) (h0 : 0 ≤ left) (h1 : left ≤ 1048576) :
    Calls Try.prog 92 #[v, .int .i64 left] w fun e w' => (∃ r : Int, e = .returned (.int .i64 r) ∧ (r = -1 ∨ (0 ≤ r ∧ (xs.length : Int) + sumSz xs + r = left))) ∧ w = w' := by
  obtain ⟨a, c, rfl, hc, hm, hcell⟩ := hr
  rw [List.length_map] at hc ⊢
  unfold maxLen at hm hx
  have HC := Lib.hid hcell
  clear hcell
  by_cases hneg : left - (xs.length : Int) < 0
  · go_enter Try.func92, Try.ntmps92
    go_wp2
    go_ret
    exact ⟨⟨-1, rfl, .inl rfl⟩, rfl⟩
  · go_enter Try.func92, Try.ntmps92
    go_wp2
    go_loop [1, 5] (fun l i => ∃ k : Nat, k ≤ xs.length ∧ i = .int .i64 k ∧ ∃ r : Int, l = .int .i64 r ∧ 0 ≤ r ∧ Hid ((xs.length : Int) + sumSz (xs.take k) + r = left) ∧ r ≤ 1048576) (fun _ i => xs.length - (RowKit.intOf i).toNat)
    case atStart => exact ⟨0, Nat.zero_le _, rfl, _, rfl, by omega, by show _ = _; simp [sumSz]; omega, by omega⟩
    case round =>
      obtain ⟨k, hk, rfl, r, rfl, hr0, HR, hr1⟩ := hrel
      by_cases hlt : k < xs.length
      · obtain ⟨b, off, rfl, _, hcx⟩ := str_at HC.out k hlt
        have hsz := hx _ (List.getElem_mem hlt)
        have HS := Lib.hid (sumSz_take xs k hlt)
        generalize xs[k] = y at *
        by_cases hn : r - (y.size : Int) < 0
        · go_wp2
          go_ret
          exact ⟨⟨-1, rfl, .inl rfl⟩, rfl⟩
        · go_wp2
          go_round
          case rel => exact ⟨k + 1, by omega, by go_num, _, rfl, by omega, by have := HR.out; have := HS.out; show _ = _; omega, by omega⟩
          case measure => simp [RowKit.intOf]; omega
      · go_wp2
        go_ret
        exact ⟨⟨r, rfl, .inr ⟨hr0, by have := HR.out; rw [List.take_of_length_le (by omega)] at this; exact this⟩⟩, rfl⟩

set_option maxHeartbeats 1000000 in
theorem toStringS_any (v : Value) (xs : List ByteArray) (w : World) (hr : RowAt w v (xs.map .string)) (hn : xs.length ≤ 1048576) :
    Calls Try.prog 95 #[v] w fun e w' => ∃ v', e = .returned v' ∧ w'.ownsRow w.heap.size 9 1 v' xs.length (xs.map .string) ∧ Below w.heap.size w w' := by
  obtain ⟨a, c, rfl, hc, hm, hcell⟩ := hr
  rw [List.length_map] at hc ⊢
  have HC := Lib.hid hcell
  clear hcell
  obtain ⟨i0, hi, hz0, hz1, hz2⟩ := info_parts infoString
  go_enter Try.func95, Try.ntmps95
  go_wp2_with (at_make; refine wpList_make_full _ rfl _ _ 22 rfl w.heap.size 9 i0 (.string ⟨#[]⟩) 1 Try.underlying22 hi hz0 hz1 .i64 .i64 (xs.length : Int) (xs.length : Int) xs.length rfl rfl rfl rfl ?c1 ?c2 ?c3 ?_)
  case c1 => rw [hz2]; omega
  case c2 => unfold maxLen; omega
  case c3 => exact Nat.le_refl _
  intro w1 hown hgrow
  have hbel : Below w.heap.size w w1 := (Below.refl _ _).grown hgrow (Nat.le_refl _) (fun k hk => by cases hk)
  have hzl := own_len hown
  generalize Array.toList (madeCells _ _) = z0 at *
  clear hgrow
  go_wp2
  go_loopw [4] (fun i wr => ∃ k : Nat, k ≤ xs.length ∧ i = .int .i64 k ∧ (∃ zs : List Value, zs.length = xs.length ∧ Hid (zs.take k = (xs.map Value.string).take k) ∧ wr.ownsRow w.heap.size 9 1 (.slice (some ⟨w.heap.size, 0, none⟩) xs.length xs.length) xs.length zs) ∧ Below w.heap.size w wr)
    (fun i _ => xs.length - (RowKit.intOf i).toNat)
  case atStart => exact ⟨0, Nat.zero_le _, rfl, ⟨z0, hzl, rfl, hown⟩, hbel⟩
  case round =>
    obtain ⟨k, hk, rfl, ⟨zs, hzs, HT, hown⟩, hbel⟩ := hrel
    by_cases hlt : k < xs.length
    · obtain ⟨b, off, rfl, hbl, hcx0⟩ := str_at HC.out k hlt
      have hcx : wr.cell? ⟨b, off + k, none⟩ = some (.string xs[k]) := by rw [hbel.cell (p := ⟨b, off + k, none⟩) hbl]; exact hcx0
      have hoc : wr.cell? ⟨w.heap.size, k, none⟩ = some (zs[k]'(by omega)) := by rw [hown.cellAt k (by omega)]; exact List.getElem?_eq_getElem _
      have hof := hown.frozenAt k
      have hown2 := (hown.stored k (.string xs[k])).1
      have HT2 : Hid ((zs.set k (.string xs[k])).take (k + 1) = (xs.map Value.string).take (k + 1)) := by
        have := take_set_succ zs (xs.map Value.string) k (by omega) (by simpa using hlt) HT.out
        show _ = _
        simpa using this
      clear hcx0 hown
      generalize zs[k] = old at *
      go_wp2
      go_roundw
      case rel => exact ⟨k + 1, by omega, by go_num, ⟨_, by simpa using hzs, HT2, hown2⟩, own_stored_below hbel (Nat.le_refl _)⟩
      case measure => simp [RowKit.intOf]; omega
    · go_wp2
      go_ret
      refine ⟨_, rfl, ?_, hbel⟩
      have := HT.out
      rw [List.take_of_length_le (by omega), List.take_of_length_le (by simp; omega)] at this
      rw [← this]; exact hown

set_option maxHeartbeats 1000000 in
theorem eqStringS_same (v v' : Value) (xs : List ByteArray) (w : World) (hr : RowAt w v (xs.map .string)) (hr' : RowAt w v' (xs.map .string)) (hn : xs.length ≤ 1048576) :
    Calls Try.prog 103 #[v, v'] w fun e w' => e = .returned (.bool true) ∧ ∃ m, w' = w.drewN m := by
  obtain ⟨a, c, rfl, hc, hm, hcell⟩ := hr
  obtain ⟨a', c', rfl, hc', hm', hcell'⟩ := hr'
  rw [List.length_map] at *
  have HC := Lib.hid hcell
  have HC' := Lib.hid hcell'
  clear hcell hcell'
  go_enter Try.func103, Try.ntmps103
  go_wp2
  go_loopw [5] (fun i wr => ∃ k : Nat, k ≤ xs.length ∧ i = .int .i64 k ∧ ∃ m, wr = w.drewN m)
    (fun i _ => xs.length - (RowKit.intOf i).toNat)
  case atStart => exact ⟨0, Nat.zero_le _, rfl, 0, rfl⟩
  case round =>
    obtain ⟨k, hk, rfl, m, rfl⟩ := hrel
    by_cases hlt : k < xs.length
    · obtain ⟨b, off, rfl, _, hcx⟩ := str_at HC.out k hlt
      obtain ⟨b', off', rfl, _, hcx'⟩ := str_at HC'.out k hlt
      generalize xs[k] = y at *
      have hk1 : (k : Int) < (xs.length : Int) := by omega
      have hyy : (y.toList == y.toList) = true := by simp
      go_wp2
      go_quiet (fail)
      go_wp2
      go_roundw
      case rel => exact ⟨k + 1, by omega, by go_num, _, rfl⟩
      case measure => simp [RowKit.intOf]; omega
    · go_wp2
      go_ret
      exact ⟨rfl, _, rfl⟩
end Go.Proofs.Ytmcpafflnccfaaa

namespace Go.Proofs.Ytmcpafflnccfaaa
open Go.RowKit Go.ChangeShapes Go.WideShapes Go.ChangeAt Go.Deep Go.Joins

/-- a line's three cells -/
def LineAt (w : World) (b o : Nat) (l : LineD) : Prop :=
  ∃ sv rv, w.cell? ⟨b, o, none⟩ = some (.string l.name) ∧ w.cell? ⟨b, o + 1, none⟩ = some sv ∧ w.cell? ⟨b, o + 2, none⟩ = some rv ∧ RowAt w sv (ints l.stops) ∧ RowAt w rv (ints l.runs)
/-- a line by value -/
def LineV (w : World) (v : Value) (l : LineD) : Prop := ∃ sv rv, v = .agg #[.string l.name, sv, rv] ∧ RowAt w sv (ints l.stops) ∧ RowAt w rv (ints l.runs)
def LinesAt (w : World) (v : Value) (ls : List LineD) : Prop :=
  ∃ a c, v = .slice a ls.length c ∧ ls.length ≤ c ∧ c ≤ maxLen ∧ ∀ k l, ls[k]? = some l → ∃ b off, a = some ⟨b, off, none⟩ ∧ b < w.heap.size ∧ LineAt w b (off + k * 3) l
def NetAt (w : World) (v : Value) (n : NetD) : Prop := ∃ s l, v = .agg #[s, l] ∧ RowAt w s (strs n.stops) ∧ LinesAt w l n.lines

theorem LineAt.below {w w' : World} {b o : Nat} {l : LineD} (h : LineAt w b o l) {B : Nat} (hB : B = w.heap.size) (hb : Below B w w') : LineAt w' b o l := by
  obtain ⟨sv, rv, h1, h2, h3, h4, h5⟩ := h
  have hlt := World.block_lt_of_cell? w _ h1
  subst hB
  exact ⟨sv, rv, by rw [hb.cell (p := ⟨b, o, none⟩) hlt]; exact h1, by rw [hb.cell (p := ⟨b, o + 1, none⟩) hlt]; exact h2, by rw [hb.cell (p := ⟨b, o + 2, none⟩) hlt]; exact h3, h4.below rfl hb, h5.below rfl hb⟩
theorem LineV.below {w w' : World} {v : Value} {l : LineD} (h : LineV w v l) {B : Nat} (hB : B = w.heap.size) (hb : Below B w w') : LineV w' v l := by
  obtain ⟨sv, rv, h1, h4, h5⟩ := h
  exact ⟨sv, rv, h1, h4.below hB hb, h5.below hB hb⟩
theorem LinesAt.below {w w' : World} {v : Value} {ls : List LineD} (h : LinesAt w v ls) {B : Nat} (hB : B = w.heap.size) (hb : Below B w w') : LinesAt w' v ls := by
  obtain ⟨a, c, hv, h1, h2, h3⟩ := h
  refine ⟨a, c, hv, h1, h2, fun k l hl => ?_⟩
  obtain ⟨b, off, ha, hlt, hc⟩ := h3 k l hl
  exact ⟨b, off, ha, Nat.lt_of_lt_of_le hlt (by subst hB; exact hb.size), hc.below hB hb⟩
theorem NetAt.below {w w' : World} {v : Value} {n : NetD} (h : NetAt w v n) {B : Nat} (hB : B = w.heap.size) (hb : Below B w w') : NetAt w' v n := by
  obtain ⟨s, l, hv, h1, h2⟩ := h
  exact ⟨s, l, hv, h1.below hB hb, h2.below hB hb⟩

/-- what memory gives of every letter and number -/
def LineFits (l : LineD) : Prop := l.name.size ≤ maxLen ∧ (∀ z ∈ l.stops, (Lit.int .i64 z).wf = true) ∧ ∀ z ∈ l.runs, (Lit.int .i64 z).wf = true
def NetFits (n : NetD) : Prop := (∀ s ∈ n.stops, s.size ≤ maxLen) ∧ ∀ l ∈ n.lines, LineFits l

section
variable {H : Type} {enc : TypeId × Value → H} {P : Program} {w : World} {base : Nat} {spare : Nat → Bool} {held : Bool}

theorem lines_trod {t e si : TypeId} {f0 f1 f2 : Field} {n : Nat} {v : Value} {x : DataW H × List MemPlace} (ht : P.underlying t = some (.slice e)) (he : P.underlying e = some (.struct #[f0, f1, f2]))
    (hone : oneCellFields P #[f0, f1, f2] = true) (hc : P.cellsOf e = 3) (h0 : P.underlying f0.type = some .string) (h1 : P.underlying f1.type = some (.slice si)) (h2 : P.underlying f2.type = some (.slice si)) (hi : P.underlying si = some (.int .i64)) (hic : P.cellsOf si = 1)
    (h : DataW.trod enc P w base spare held n t [v] = some x) : ∃ ls : List LineD, LinesAt w v ls ∧ ∀ l ∈ ls, LineFits l := by
  rcases open_slice ht h with ⟨hcs, _⟩ | ⟨a, len, cap, m, n', D, Pl, hcs, _, hl, hm, hmm, _, hel⟩
  · simp at hcs; subst hcs
    exact ⟨[], ⟨none, 0, rfl, Nat.le_refl _, by decide, fun k u hu => by simp at hu⟩, fun x hx => by simp at hx⟩
  · simp at hcs; subst hcs
    have hml : len ≤ m := by rw [hmm]; split <;> omega
    have hsp : ∀ k, k < len → a.spot = none := fun k hk => by
      obtain ⟨cs', hcc, htt⟩ := hel 0 (by omega)
      obtain ⟨_, hcl, hat⟩ := World.cells?_some hcc
      have := hat 0 (by omega)
      have hq : cs'[0]? = some (cs'[0]'(by omega)) := List.getElem?_eq_getElem _
      rw [hq] at this
      have := World.cell?_spot this
      simpa [Addr.add] using this
    have each : ∀ k, k < len → ∃ l : LineD, LineAt w a.block (a.off + k * 3) l ∧ LineFits l := fun k hk => by
      obtain ⟨cs', hcc, htt⟩ := hel k (by omega)
      obtain ⟨_, hcl, hat⟩ := World.cells?_some hcc
      obtain ⟨ys, n2, _, _, _, hylen, hg⟩ := DataW.trod_struct he htt
      have hs := hsp k hk
      obtain ⟨b, off, sp⟩ := a
      simp only at hs
      subst hs
      rw [hc] at hcl hat
      match cs', hcl with
      | [c0, c1, c2], _ =>
        obtain ⟨o0, k0⟩ := hone_of hone 0 f0 rfl
        obtain ⟨o1, k1⟩ := hone_of hone 1 f1 rfl
        obtain ⟨o2, k2⟩ := hone_of hone 2 f2 rfl
        have g0 := hg 0 f0 rfl
        have g1 := hg 1 f1 rfl
        have g2 := hg 2 f2 rfl
        rw [o0, k0] at g0
        rw [o1, k1] at g1
        rw [o2, k2] at g2
        simp only [List.drop_zero, List.drop_succ_cons, List.take_succ_cons, List.take_zero] at g0 g1 g2
        have hy : ys.length = 3 := hylen
        rw [List.getElem?_eq_getElem (by omega)] at g0 g1 g2
        obtain ⟨s, hs0, _, hsz⟩ := DataW.trod_string h0 g0
        obtain ⟨zs, hz, hzw⟩ := ints_trod h1 hi hic g1
        obtain ⟨rs, hr, hrw⟩ := ints_trod h2 hi hic g2
        simp at hs0
        subst hs0
        refine ⟨⟨s, zs, rs⟩, ⟨c1, c2, ?_, ?_, ?_, hz, hr⟩, hsz, hzw, hrw⟩
        · have := hat 0 (by omega); rw [addr_add, addr_add] at this; simpa [hc] using this
        · have := hat 1 (by omega); rw [addr_add, addr_add] at this; simpa [hc] using this
        · have := hat 2 (by omega); rw [addr_add, addr_add] at this; simpa [hc] using this
    have fam : ∃ F : Nat → LineD, ∀ k, k < len → LineAt w a.block (a.off + k * 3) (F k) ∧ LineFits (F k) :=
      ⟨fun k => if hk : k < len then Classical.choose (each k hk) else ⟨⟨#[]⟩, [], []⟩, fun k hk => by simp only [dif_pos hk]; exact Classical.choose_spec (each k hk)⟩
    obtain ⟨F, hF⟩ := fam
    refine ⟨(List.range len).map F, ⟨some a, cap, by simp, by simp; omega, hm, fun k l hl => ?_⟩, fun l hl => ?_⟩
    · rw [List.getElem?_map] at hl
      have hk : k < len := by
        by_cases hk : k < len
        · exact hk
        · rw [List.getElem?_eq_none (by simp; omega)] at hl; simp at hl
      rw [List.getElem?_range hk] at hl
      have hl' : F k = l := by simpa using hl
      subst hl'
      have hs := hsp k hk
      have h3 := hF k hk
      obtain ⟨b, off, sp⟩ := a
      simp only at hs
      subst hs
      obtain ⟨_, _, q, _⟩ := h3.1
      exact ⟨b, off, rfl, World.block_lt_of_cell? w _ q, h3.1⟩
    · obtain ⟨k, hk, rfl⟩ := List.mem_map.1 hl
      exact (hF k (List.mem_range.1 hk)).2

theorem net_trod {r : Reach} {b0 : Nat} {t e le si : TypeId} {F0 F1 f0 f1 f2 : Field} {v : Value} {d : DataW H} {p : List MemPlace} (hs : P.underlying t = some (.struct #[F0, F1])) (hone0 : oneCellFields P #[F0, F1] = true) (hC : P.cellsOf t = 2)
    (hF0 : P.underlying F0.type = some (.slice e)) (hes : P.underlying e = some .string) (hec : P.cellsOf e = 1) (hF1 : P.underlying F1.type = some (.slice le)) (he : P.underlying le = some (.struct #[f0, f1, f2]))
    (hone : oneCellFields P #[f0, f1, f2] = true) (hc : P.cellsOf le = 3) (h0 : P.underlying f0.type = some .string) (h1 : P.underlying f1.type = some (.slice si)) (h2 : P.underlying f2.type = some (.slice si)) (hi : P.underlying si = some (.int .i64)) (hic : P.cellsOf si = 1)
    (hv : Value.okWide P w r b0 t v) (h : DataW.Trod enc P w base spare held t v d p) : ∃ n : NetD, NetAt w v n ∧ NetFits n := by
  obtain ⟨v0, v1, y0, y1, m, rfl, _, _, t0, t1⟩ := open_agg2 hs hone0 hC hv h
  obtain ⟨ss, hss, hsf⟩ := strings_trod hF0 hes hec t0
  obtain ⟨ls, hls, hlf⟩ := lines_trod hF1 he hone hc h0 h1 h2 hi hic t1
  exact ⟨⟨ss, ls⟩, ⟨v0, v1, rfl, hss, hls⟩, hsf, hlf⟩
end
end Go.Proofs.Ytmcpafflnccfaaa

namespace Go.Proofs.Ytmcpafflnccfaaa
open Go.RowKit
set_option linter.unusedVariables false

theorem lines_at {w : World} {a : Option Addr} {ls : List LineD} (h : ∀ k l, ls[k]? = some l → ∃ b off, a = some ⟨b, off, none⟩ ∧ b < w.heap.size ∧ LineAt w b (off + k * 3) l) (k : Nat) (hk : k < ls.length) :
    ∃ b off, a = some ⟨b, off, none⟩ ∧ b < w.heap.size ∧ LineAt w b (off + k * 3) (ls[k]'hk) := h k _ (by simp [List.getElem?_eq_getElem hk])

theorem lines_open {w : World} {v : Value} {ls : List LineD} (h : LinesAt w v ls) : ∃ a c, v = .slice a ls.length c ∧ ls.length ≤ c ∧ c ≤ 9223372036854775807 ∧
    Hid (∀ k (hk : k < ls.length), ∃ b off, a = some ⟨b, off, none⟩ ∧ b < w.heap.size ∧ LineAt w b (off + k * 3) (ls[k]'hk)) := by
  obtain ⟨a, c, rfl, h1, h2, h3⟩ := h
  exact ⟨a, c, rfl, h1, h2, lines_at h3⟩

theorem net_open {w : World} {v : Value} {n : NetD} (h : NetAt w v n) : ∃ a c a' c', v = .agg #[.slice a n.stops.length c, .slice a' n.lines.length c'] ∧ RowAt w (.slice a n.stops.length c) (strs n.stops) ∧ LinesAt w (.slice a' n.lines.length c') n.lines := by
  obtain ⟨sv, lv, rfl, hss, hll⟩ := h
  obtain ⟨a, c, rfl, _⟩ := strs_open hss
  obtain ⟨a', c', rfl, _⟩ := lines_open hll
  exact ⟨a, c, a', c', rfl, hss, hll⟩

theorem l2Find_any (v : Value) (xs : List ByteArray) (name : ByteArray) (w : World) (hr : RowAt w v (strs xs)) :
    Calls Try.prog 152 #[v, .string name] w fun e w' => e = .returned (.int .i64 (fstIdx name xs)) ∧ w = w' := by
  obtain ⟨a, c, rfl, hc, hm, hcell⟩ := hr
  rw [strs_len] at *
  unfold maxLen at hm
  have HC := Lib.hid hcell
  clear hcell
  go_enter Try.func152, Try.ntmps152
  go_wp2
  go_loop [5] (fun i => ∃ k : Nat, k ≤ xs.length ∧ i = .int .i64 k ∧ Hid (name ∉ xs.take k)) (fun i => xs.length - (RowKit.intOf i).toNat)
  case atStart => exact ⟨0, Nat.zero_le _, rfl, by show _ ∉ _; simp⟩
  case round =>
    obtain ⟨k, hk, rfl, HN⟩ := hrel
    by_cases hlt : k < xs.length
    · obtain ⟨b, off, rfl, _, hcx⟩ := strs_at HC.out k hlt
      by_cases he : xs[k] = name
      · have HF := Lib.hid (fstIdx_hit k hlt he HN.out)
        have hb : (xs[k].toList == name.toList) = true := by rw [bytes_eq]; simp [he]
        clear he
        generalize xs[k] = y at *
        go_wp2
        go_ret
        exact ⟨ret_int HF.out.symm, rfl⟩
      · have HN2 := Lib.hid (not_take_succ hlt HN.out he)
        have hb : (xs[k].toList == name.toList) = false := by rw [bytes_eq]; simp [he]
        clear he
        generalize xs[k] = y at *
        go_wp2
        go_round
        case rel => exact ⟨k + 1, by omega, by go_num, HN2⟩
        case measure => simp [RowKit.intOf]; omega
    · have HF := Lib.hid (fstIdx_none (not_take_all (by omega) HN.out))
      go_wp2
      go_ret
      exact ⟨ret_int HF.out.symm, rfl⟩

theorem l2Place_any (v : Value) (l : LineD) (stop : Int) (w : World) (hr : LineV w v l) :
    Calls Try.prog 135 #[v, .int .i64 stop] w fun e w' => e = .returned (.int .i64 (fstIdx stop l.stops)) ∧ Below w.heap.size w w' := by
  obtain ⟨sv, rv, rfl, hs, _⟩ := hr
  obtain ⟨a, c, rfl, hc, hm, hcell⟩ := hs
  rw [ints_len] at *
  unfold maxLen at hm
  have HC := Lib.hid hcell
  clear hcell
  generalize l.stops = xs at *
  generalize l.name = nm at *
  go_enter Try.func135, Try.ntmps135
  go_wp2
  go_loop [5] (fun i => ∃ k : Nat, k ≤ xs.length ∧ i = .int .i64 k ∧ Hid (stop ∉ xs.take k)) (fun i => xs.length - (RowKit.intOf i).toNat)
  case atStart => exact ⟨0, Nat.zero_le _, rfl, by show _ ∉ _; simp⟩
  case round =>
    obtain ⟨k, hk, rfl, HN⟩ := hrel
    by_cases hlt : k < xs.length
    · obtain ⟨b, off, rfl, hbl, hcx⟩ := ints_at HC.out k hlt
      by_cases he : xs[k] = stop
      · have HF := Lib.hid (fstIdx_hit k hlt he HN.out)
        have hb : (xs[k] == stop) = true := by simp [he]
        clear he
        generalize xs[k] = y at *
        go_wp2
        go_ret
        exact ⟨ret_int HF.out.symm, (Below.refl _ _).alloc (Nat.le_refl _) _⟩
      · have HN2 := Lib.hid (not_take_succ hlt HN.out he)
        have hb : (xs[k] == stop) = false := by simp [he]
        clear he
        generalize xs[k] = y at *
        go_wp2
        go_round
        case rel => exact ⟨k + 1, by omega, by go_num, HN2⟩
        case measure => simp [RowKit.intOf]; omega
    · have HF := Lib.hid (fstIdx_none (not_take_all (by omega) HN.out))
      go_wp2
      go_ret
      exact ⟨ret_int HF.out.symm, (Below.refl _ _).alloc (Nat.le_refl _) _⟩

theorem l2LineNamed_any (v : Value) (n : NetD) (name : ByteArray) (w : World) (hr : NetAt w v n) :
    Calls Try.prog 154 #[v, .string name] w fun e w' => e = .returned (.int .i64 (fstIdx name (n.lines.map (·.name)))) ∧ Below w.heap.size w w' := by
  obtain ⟨sv, lv, rfl, _, hs⟩ := hr
  obtain ⟨a, c, rfl, hc, hm, hcell⟩ := hs
  unfold maxLen at hm
  have HC := Lib.hid hcell
  clear hcell
  generalize n.lines = ls at *
  go_enter Try.func154, Try.ntmps154
  go_wp2
  go_loop [5] (fun i => ∃ k : Nat, k ≤ ls.length ∧ i = .int .i64 k ∧ Hid (name ∉ (ls.map (·.name)).take k)) (fun i => ls.length - (RowKit.intOf i).toNat)
  case atStart => exact ⟨0, Nat.zero_le _, rfl, by show _ ∉ _; simp⟩
  case round =>
    obtain ⟨k, hk, rfl, HN⟩ := hrel
    by_cases hlt : k < ls.length
    · obtain ⟨b, off, rfl, hbl, _, _, hcx, _⟩ := lines_at HC.out k hlt
      have hlt' : k < (ls.map (·.name)).length := by simpa using hlt
      have hget : (ls.map (·.name))[k]'hlt' = ls[k].name := by simp
      by_cases he : ls[k].name = name
      · have HF := Lib.hid (fstIdx_hit k hlt' (hget.trans he) HN.out)
        have hb : (ls[k].name.toList == name.toList) = true := by rw [bytes_eq]; simp [he]
        clear he hget
        generalize ls[k].name = y at *
        go_wp2
        go_ret
        exact ⟨ret_int HF.out.symm, (Below.refl _ _).alloc (Nat.le_refl _) _⟩
      · have HN2 := Lib.hid (not_take_succ hlt' HN.out (by rw [hget]; exact he))
        have hb : (ls[k].name.toList == name.toList) = false := by rw [bytes_eq]; simp [he]
        clear he hget
        generalize ls[k].name = y at *
        go_wp2
        go_round
        case rel => exact ⟨k + 1, by omega, by go_num, HN2⟩
        case measure => simp [RowKit.intOf]; omega
    · have HF := Lib.hid (fstIdx_none (not_take_all (by simp; omega) HN.out))
      go_wp2
      go_ret
      exact ⟨ret_int HF.out.symm, (Below.refl _ _).alloc (Nat.le_refl _) _⟩
end Go.Proofs.Ytmcpafflnccfaaa

namespace Go.Proofs.Ytmcpafflnccfaaa
open Go.RowKit
set_option linter.unusedVariables false

/-- a line whose rows are the call's own, beside the block b in which it lies -/
def LineOwn (B : Nat) (w : World) (b o : Nat) (l : LineD) : Prop :=
  ∃ sv rv, w.cell? ⟨b, o, none⟩ = some (.string l.name) ∧ w.cell? ⟨b, o + 1, none⟩ = some sv ∧ w.cell? ⟨b, o + 2, none⟩ = some rv ∧ w.ownsRow B 3 1 sv l.stops.length (ints l.stops) ∧ w.ownsRow B 3 1 rv l.runs.length (ints l.runs) ∧
    sv.ownBlock ≠ some b ∧ rv.ownBlock ≠ some b
/-- a line by value, its rows the call's own -/
def LineVOwn (B : Nat) (w : World) (v : Value) (l : LineD) : Prop := ∃ sv rv, v = .agg #[.string l.name, sv, rv] ∧ w.ownsRow B 3 1 sv l.stops.length (ints l.stops) ∧ w.ownsRow B 3 1 rv l.runs.length (ints l.runs)
/-- the rows of n lines that lie in the block g are all different -/
def RowsApart (w : World) (g n : Nat) : Prop := ∀ (j i j' i' : Nat) (v v' : Value), j < n → j' < n → (i = 1 ∨ i = 2) → (i' = 1 ∨ i' = 2) → (j ≠ j' ∨ i ≠ i') → w.cell? ⟨g, j * 3 + i, none⟩ = some v → w.cell? ⟨g, j' * 3 + i', none⟩ = some v' → v.ownBlock = none ∨ v.ownBlock ≠ v'.ownBlock
theorem RowsApart.of_cells {w w' : World} {g n : Nat} (h : RowsApart w g n) (hc : ∀ o, w'.cell? ⟨g, o, none⟩ = w.cell? ⟨g, o, none⟩) : RowsApart w' g n :=
  fun j i j' i' v v' h1 h2 h3 h4 h5 c c' => h j i j' i' v v' h1 h2 h3 h4 h5 ((hc _).symm.trans c) ((hc _).symm.trans c')
def LinesOwn (B : Nat) (w : World) (v : Value) (ls : List LineD) : Prop :=
  ∃ g c cur, v = .slice (some ⟨g, 0, none⟩) ls.length c ∧ B ≤ g ∧ w.heap[g]? = some (.cells cur 123 (0, 0)) ∧ ls.length ≤ c ∧ c ≤ maxLen ∧ cur.size = c * 3 ∧ (∀ k l, ls[k]? = some l → LineOwn B w g (k * 3) l) ∧ RowsApart w g ls.length
def NetOwn (B : Nat) (w : World) (v : Value) (n : NetD) : Prop := ∃ s l B1, v = .agg #[s, l] ∧ w.ownsRow B 9 1 s n.stops.length (strs n.stops) ∧ LinesOwn B1 w l n.lines ∧ B ≤ B1 ∧ ∀ b, s.ownBlock = some b → b < B1

theorem LineOwn.at {B : Nat} {w : World} {b o : Nat} {l : LineD} (h : LineOwn B w b o l) : LineAt w b o l := by
  obtain ⟨sv, rv, h0, h1, h2, h3, h4, _⟩ := h
  exact ⟨sv, rv, h0, h1, h2, rowAt_own h3, rowAt_own h4⟩
theorem LinesOwn.at {B : Nat} {w : World} {v : Value} {ls : List LineD} (h : LinesOwn B w v ls) : LinesAt w v ls := by
  obtain ⟨g, c, cur, hv, hg, hh, h1, h2, h3, h4, h5⟩ := h
  exact ⟨some ⟨g, 0, none⟩, c, hv, h1, h2, fun k l hl => ⟨g, 0, rfl, (Array.getElem?_eq_some_iff.1 hh).1, by rw [Nat.zero_add]; exact (h4 k l hl).at⟩⟩
theorem NetOwn.at {B : Nat} {w : World} {v : Value} {n : NetD} (h : NetOwn B w v n) : NetAt w v n := by
  obtain ⟨s, l, B1, hv, h1, h2, _⟩ := h
  exact ⟨s, l, hv, rowAt_own h1, h2.at⟩
theorem LineVOwn.v {B : Nat} {w : World} {v : Value} {l : LineD} (h : LineVOwn B w v l) : LineV w v l := by
  obtain ⟨sv, rv, hv, h1, h2⟩ := h
  exact ⟨sv, rv, hv, rowAt_own h1, rowAt_own h2⟩
theorem LineOwn.later {B : Nat} {w w' : World} {b o : Nat} {l : LineD} (h : LineOwn B w b o l) (hb : Below w.heap.size w w') : LineOwn B w' b o l := by
  obtain ⟨sv, rv, h0, h1, h2, h3, h4, h5⟩ := h
  exact ⟨sv, rv, bkeep hb h0, bkeep hb h1, bkeep hb h2, own_later h3 hb, own_later h4 hb, h5⟩
theorem LinesOwn.later {B : Nat} {w w' : World} {v : Value} {ls : List LineD} (h : LinesOwn B w v ls) (hb : Below w.heap.size w w') : LinesOwn B w' v ls := by
  obtain ⟨g, c, cur, hv, hg, hh, h1, h2, h3, h4, h5⟩ := h
  exact ⟨g, c, cur, hv, hg, (hb.block g (Array.getElem?_eq_some_iff.1 hh).1).trans hh, h1, h2, h3, fun k l hl => (h4 k l hl).later hb, h5.of_cells fun o => hb.cell (p := ⟨g, o, none⟩) (Array.getElem?_eq_some_iff.1 hh).1⟩
theorem NetOwn.later {B : Nat} {w w' : World} {v : Value} {n : NetD} (h : NetOwn B w v n) (hb : Below w.heap.size w w') : NetOwn B w' v n := by
  obtain ⟨s, l, B1, hv, h1, h2, h3⟩ := h
  exact ⟨s, l, B1, hv, own_later h1 hb, h2.later hb, h3⟩
theorem LineAt.toV {w : World} {b o : Nat} {l : LineD} (h : LineAt w b o l) : ∃ sv rv, w.cell? ⟨b, o, none⟩ = some (.string l.name) ∧ w.cell? ⟨b, o + 1, none⟩ = some sv ∧ w.cell? ⟨b, o + 2, none⟩ = some rv ∧ LineV w (.agg #[.string l.name, sv, rv]) l := by
  obtain ⟨sv, rv, h0, h1, h2, h3, h4⟩ := h
  exact ⟨sv, rv, h0, h1, h2, sv, rv, rfl, h3, h4⟩
theorem LineOwn.far {B : Nat} {w : World} {b o : Nat} {l : LineD} (h : LineOwn B w b o l) (hb : B ≤ b) {p : Addr} (u : Value) (hp : p.block < B) : LineOwn B (w.setCell p u) b o l := by
  obtain ⟨sv, rv, c0, c1, c2, r1, r2, n⟩ := h
  have hc : ∀ o, (w.setCell p u).cell? ⟨b, o, none⟩ = w.cell? ⟨b, o, none⟩ := fun o => World.cell?_setCell_other _ _ _ _ (fun e => by rw [e] at hp; simp at hp; omega)
  exact ⟨sv, rv, (hc _).trans c0, (hc _).trans c1, (hc _).trans c2, ownsRow_setCell_below r1 hp u, ownsRow_setCell_below r2 hp u, n⟩
theorem LinesOwn.far {B : Nat} {w : World} {v : Value} {ls : List LineD} (h : LinesOwn B w v ls) {p : Addr} (u : Value) (hp : p.block < B) : LinesOwn B (w.setCell p u) v ls := by
  obtain ⟨g, c, cur, hv, hg, hh, h1, h2, h3, h4, h5⟩ := h
  exact ⟨g, c, cur, hv, hg, by rw [Below.heap_setCell _ _ _ _ (by omega)]; exact hh, h1, h2, h3, fun k l hl => (h4 k l hl).far hg u hp, h5.of_cells fun o => World.cell?_setCell_other _ _ _ _ (fun e => by rw [e] at hp; simp at hp; omega)⟩
theorem LineOwn.base {B B' : Nat} {w : World} {b o : Nat} {l : LineD} (h : LineOwn B w b o l) (hB : B' ≤ B) : LineOwn B' w b o l := by
  obtain ⟨sv, rv, c0, c1, c2, r1, r2, n⟩ := h
  exact ⟨sv, rv, c0, c1, c2, own_base r1 hB, own_base r2 hB, n⟩
theorem LinesOwn.base {B B' : Nat} {w : World} {v : Value} {ls : List LineD} (h : LinesOwn B w v ls) (hB : B' ≤ B) : LinesOwn B' w v ls := by
  obtain ⟨g, c, cur, hv, hg, hh, h1, h2, h3, h4, h5⟩ := h
  exact ⟨g, c, cur, hv, by omega, hh, h1, h2, h3, fun k l hl => (h4 k l hl).base hB, h5⟩
end Go.Proofs.Ytmcpafflnccfaaa

namespace Go.Proofs.Ytmcpafflnccfaaa
open Go.RowKit
set_option linter.unusedVariables false

theorem infoInt : (Try.prog.info? 3).map (fun i => (i.zero, i.size, i.bytes)) = some (some (.int .i64 0), 1, 8) := by kernel_rfl

theorem szIntS_any (v : Value) (xs : List Int) (left : Int) (w : World) (hr : RowAt w v (ints xs)) (h0 : 0 ≤ left) (h1 : left ≤ 1048576) :
    Calls Try.prog 149 #[v, .int .i64 left] w fun e w' => (∃ r : Int, e = .returned (.int .i64 r) ∧ (r = -1 ∨ (0 ≤ r ∧ (xs.length : Int) + r = left))) ∧ w = w' := by
  obtain ⟨a, c, rfl, hc, hm, HC⟩ := ints_open hr
  clear hr
  by_cases hneg : left - (xs.length : Int) < 0
  · go_enter Try.func149, Try.ntmps149
    go_wp2
    go_ret
    exact ⟨⟨-1, rfl, .inl rfl⟩, rfl⟩
  · go_enter Try.func149, Try.ntmps149
    go_wp2
    go_ret
    exact ⟨⟨_, rfl, .inr ⟨by omega, by omega⟩⟩, rfl⟩

set_option maxHeartbeats 1000000 in
theorem toIntS_any (v : Value) (xs : List Int) (w : World) (hr : RowAt w v (ints xs)) (hn : xs.length ≤ 1048576) :
    Calls Try.prog 150 #[v] w fun e w' => ∃ c, e = .returned (.slice (some ⟨w.heap.size, 0, none⟩) xs.length c) ∧ w'.ownsRow w.heap.size 3 1 (.slice (some ⟨w.heap.size, 0, none⟩) xs.length c) xs.length (ints xs) ∧ Below w.heap.size w w' := by
  obtain ⟨a, c, rfl, hc, hm, HC⟩ := ints_open hr
  clear hr
  obtain ⟨i0, hi, hz0, hz1, hz2⟩ := info_parts infoInt
  go_enter Try.func150, Try.ntmps150
  go_wp2_with (at_make; refine wpList_make_full _ rfl _ _ 51 rfl w.heap.size 3 i0 (.int .i64 0) 1 Try.underlying51 hi hz0 hz1 .i64 .i64 (xs.length : Int) (xs.length : Int) xs.length rfl rfl rfl rfl ?c1 ?c2 ?c3 ?_)
  case c1 => rw [hz2]; omega
  case c2 => unfold maxLen; omega
  case c3 => exact Nat.le_refl _
  intro w1 hown hgrow
  have hbel : Below w.heap.size w w1 := (Below.refl _ _).grown hgrow (Nat.le_refl _) (fun k hk => by cases hk)
  have hzl := own_len hown
  generalize Array.toList (madeCells _ _) = z0 at *
  clear hgrow
  go_wp2
  go_loopw [4] (fun i wr => ∃ k : Nat, k ≤ xs.length ∧ i = .int .i64 k ∧ (∃ zs : List Value, zs.length = xs.length ∧ Hid (zs.take k = (ints xs).take k) ∧ wr.ownsRow w.heap.size 3 1 (.slice (some ⟨w.heap.size, 0, none⟩) xs.length xs.length) xs.length zs) ∧ Below w.heap.size w wr)
    (fun i _ => xs.length - (RowKit.intOf i).toNat)
  case atStart => exact ⟨0, Nat.zero_le _, rfl, ⟨z0, hzl, rfl, hown⟩, hbel⟩
  case round =>
    obtain ⟨k, hk, rfl, ⟨zs, hzs, HT, hown⟩, hbel⟩ := hrel
    by_cases hlt : k < xs.length
    · obtain ⟨b, off, rfl, hbl, hcx0⟩ := HC.out k hlt
      have hcx : wr.cell? ⟨b, off + k, none⟩ = some (.int .i64 xs[k]) := by rw [hbel.cell (p := ⟨b, off + k, none⟩) hbl]; exact hcx0
      have hoc : wr.cell? ⟨w.heap.size, k, none⟩ = some (zs[k]'(by omega)) := by rw [hown.cellAt k (by omega)]; exact List.getElem?_eq_getElem _
      have hof := hown.frozenAt k
      have hown2 := (hown.stored k (.int .i64 xs[k])).1
      have HT2 : Hid ((zs.set k (.int .i64 xs[k])).take (k + 1) = (ints xs).take (k + 1)) := by
        have := take_set_succ zs (ints xs) k (by omega) (by simpa [ints] using hlt) HT.out
        show _ = _
        simpa [ints] using this
      clear hcx0 hown
      generalize zs[k] = old at *
      generalize xs[k] = y at *
      go_wp2
      go_roundw
      case rel => exact ⟨k + 1, by omega, by go_num, ⟨_, by simpa using hzs, HT2, hown2⟩, own_stored_below hbel (Nat.le_refl _)⟩
      case measure => simp [RowKit.intOf]; omega
    · go_wp2
      go_ret
      refine ⟨xs.length, rfl, ?_, hbel⟩
      have := HT.out
      rw [List.take_of_length_le (by omega), List.take_of_length_le (by simp [ints]; omega)] at this
      rw [← this]; exact hown

set_option maxHeartbeats 1000000 in
theorem eqIntS_same (v v' : Value) (xs : List Int) (w : World) (hr : RowAt w v (ints xs)) (hr' : RowAt w v' (ints xs)) :
    Calls Try.prog 26 #[v, v'] w fun e w' => e = .returned (.bool true) ∧ Below w.heap.size w w' := by
  obtain ⟨a, c, rfl, hc, hm, HC⟩ := ints_open hr
  obtain ⟨a', c', rfl, hc', hm', HC'⟩ := ints_open hr'
  clear hr hr'
  go_enter Try.func26, Try.ntmps26
  go_wp2
  go_loopw [5] (fun i wr => ∃ k : Nat, k ≤ xs.length ∧ i = .int .i64 k ∧ ∃ m, wr = w.drewN m)
    (fun i _ => xs.length - (RowKit.intOf i).toNat)
  case atStart => exact ⟨0, Nat.zero_le _, rfl, 0, rfl⟩
  case round =>
    obtain ⟨k, hk, rfl, m, rfl⟩ := hrel
    by_cases hlt : k < xs.length
    · obtain ⟨b, off, rfl, _, hcx⟩ := HC.out k hlt
      obtain ⟨b', off', rfl, _, hcx'⟩ := HC'.out k hlt
      generalize xs[k] = y at *
      have hk1 : (k : Int) < (xs.length : Int) := by omega
      have hyy : (y != y) = false := by simp
      go_wp2
      go_quiet (fail)
      go_wp2
      go_roundw
      case rel => exact ⟨k + 1, by omega, by go_num, _, rfl⟩
      case measure => simp [RowKit.intOf]; omega
    · go_wp2
      go_ret
      exact ⟨rfl, Dr.below ⟨m, rfl⟩⟩

set_option maxHeartbeats 1000000 in
theorem markIntS_own (v : Value) (xs : List Int) (k : Int) (B : Nat) (w : World) (hr : w.ownsRow B 3 1 v xs.length (ints xs)) (hn : xs.length ≤ 1048576) (hk0 : 0 ≤ k) (hk : k ≤ 1073741824) :
    Calls Try.prog 27 #[v, .int .i64 k] w fun e w' => e = .returned (.int .i64 (k + xs.length)) ∧ w'.ownsRow B 3 1 v xs.length (ints (countUp k xs.length)) ∧ w.grownBy w' v.ownBlock := by
  obtain ⟨a, c, rfl⟩ := own_shape hr
  have HO := Lib.hid hr
  clear hr
  go_enter Try.func27, Try.ntmps27
  go_wp2
  go_loopw [1, 5] (fun q i wr => ∃ j : Nat, j ≤ xs.length ∧ i = .int .i64 j ∧ q = .int .i64 (k + j) ∧ (∃ zs : List Value, zs.length = xs.length ∧ Hid (zs.take j = (ints (countUp k xs.length)).take j) ∧ Hid (wr.ownsRow B 3 1 (.slice a xs.length c) xs.length zs)) ∧ Hid (w.grownBy wr (Value.ownBlock (.slice a xs.length c))))
    (fun _ i _ => xs.length - (RowKit.intOf i).toNat)
  case atStart => exact ⟨0, Nat.zero_le _, rfl, by simp, ⟨_, ints_len xs, rfl, HO.out⟩, World.grownBy.refl _ _⟩
  case round =>
    obtain ⟨j, hj, rfl, rfl, ⟨zs, hzs, HT, HOwn⟩, HG⟩ := hrel
    by_cases hlt : j < xs.length
    · obtain ⟨_, h2⟩ := HOwn.out
      rcases h2 with ⟨hv, h0⟩ | ⟨g, cap, cur, hv, hg, hblk, h3, h4, h5, h6⟩
      · omega
      simp at hv
      obtain ⟨rfl, rfl⟩ := hv
      have hown := HOwn.out
      have hoc : wr.cell? ⟨g, j, none⟩ = some (zs[j]'(by omega)) := by rw [hown.cellAt j (by omega)]; exact List.getElem?_eq_getElem _
      have hof := hown.frozenAt j
      have HOwn2 := Lib.hid (hown.stored j (.int .i64 (k + j))).1
      have HT2 : Hid ((zs.set j (.int .i64 (k + j))).take (j + 1) = (ints (countUp k xs.length)).take (j + 1)) := by
        have hl2 : j < (ints (countUp k xs.length)).length := by rw [ints_len, countUp_len]; exact hlt
        have := take_set_succ zs (ints (countUp k xs.length)) j (by omega) hl2 HT.out
        have e : (ints (countUp k xs.length))[j]'hl2 = .int .i64 (k + j) := by simp only [ints, List.getElem_map]; rw [countUp_get]
        rw [e] at this; exact this
      have HG2 : Hid (w.grownBy (wr.setCell ⟨g, j, none⟩ (.int .i64 (k + j))) (some g)) :=
        ⟨HG.out.os, HG.out.tape, HG.out.output, by have := HG.out.size; simp [World.setCell]; omega, fun q hq hne => by
          rw [Below.heap_setCell _ _ _ _ (fun e => hne (by rw [e]))]; exact HG.out.block q hq hne⟩
      clear HG
      clear hown hblk h4 h5 h6
      generalize zs[j] = old at *
      go_wp2
      go_roundw
      case rel => exact ⟨j + 1, by omega, by go_num, by go_num, ⟨_, by simpa using hzs, HT2, HOwn2⟩, HG2⟩
      case measure => simp [RowKit.intOf]; omega
    · have hjl : j = xs.length := by omega
      subst hjl
      go_wp2
      go_ret
      refine ⟨rfl, ?_, HG.out⟩
      have := HT.out
      rw [List.take_of_length_le (by omega), List.take_of_length_le (by rw [ints_len, countUp_len]; omega)] at this
      rw [← this]; exact HOwn.out

theorem heldIntS_own (v : Value) (k : Int) (n : Nat) (w : World) (hr : RowAt w v (ints (countUp k n))) (hn : n ≤ 1048576) (hk0 : 0 ≤ k) (hk : k ≤ 1073741824) :
    Calls Try.prog 28 #[v, .int .i64 k] w fun e w' => e = .returned (.int .i64 (k + n)) ∧ w = w' := by
  obtain ⟨a, c, rfl, hc, hm, HC⟩ := ints_open hr
  rw [countUp_len] at *
  clear hr
  go_enter Try.func28, Try.ntmps28
  go_wp2
  go_loop [1, 5] (fun q i => ∃ j : Nat, j ≤ n ∧ i = .int .i64 j ∧ q = .int .i64 (k + j)) (fun _ i => n - (RowKit.intOf i).toNat)
  case atStart => exact ⟨0, Nat.zero_le _, rfl, by simp⟩
  case round =>
    obtain ⟨j, hj, rfl, rfl⟩ := hrel
    by_cases hlt : j < n
    · obtain ⟨b, off, rfl, _, hcx⟩ := HC.out j (by rw [countUp_len]; exact hlt)
      rw [countUp_get] at hcx
      have hne : (k + (j : Int) != k + (j : Int)) = false := by simp
      go_wp2
      go_round
      case rel => exact ⟨j + 1, by omega, by go_num, by go_num⟩
      case measure => simp [RowKit.intOf]; omega
    · have hjl : j = n := by omega
      subst hjl
      go_wp2
      go_ret
      exact ⟨rfl, rfl⟩
end Go.Proofs.Ytmcpafflnccfaaa

namespace Go.Proofs.Ytmcpafflnccfaaa
open Go.RowKit
set_option linter.unusedVariables false

theorem l1In_yes (a lo hi : Int) (w : World) (h : lo ≤ a ∧ a ≤ hi) : Calls Try.prog 66 #[.int .i64 a, .int .i64 lo, .int .i64 hi] w fun e w' => e = .returned (.bool true) ∧ w = w' := by
  obtain ⟨h1, h2⟩ := h
  go_enter Try.func66, Try.ntmps66
  go_wp2
  go_ret
  exact ⟨rfl, rfl⟩
theorem l1In_no (a lo hi : Int) (w : World) (h : ¬ (lo ≤ a ∧ a ≤ hi)) : Calls Try.prog 66 #[.int .i64 a, .int .i64 lo, .int .i64 hi] w fun e w' => e = .returned (.bool false) ∧ w = w' := by
  by_cases h1 : lo ≤ a
  · have h2 : ¬ a ≤ hi := fun g => h ⟨h1, g⟩
    clear h
    go_enter Try.func66, Try.ntmps66
    go_wp2
    go_ret
    exact ⟨rfl, rfl⟩
  · clear h
    go_enter Try.func66, Try.ntmps66
    go_wp2
    go_ret
    exact ⟨rfl, rfl⟩
end Go.Proofs.Ytmcpafflnccfaaa

namespace Go.Proofs.Ytmcpafflnccfaaa
open Go.RowKit Go.Maps

def memB {α : Type} [DecidableEq α] (x : α) (S : List α) : Bool := decide (x ∈ S)
theorem memB_yes {α : Type} [DecidableEq α] {x : α} {S : List α} (h : x ∈ S) : memB x S = true := decide_eq_true h
theorem memB_no {α : Type} [DecidableEq α] {x : α} {S : List α} (h : x ∉ S) : memB x S = false := decide_eq_false h

/-- block b is a map from k to bools (element type e) that holds true at the keys of S and at no others -/
def SetOf {α : Type} [DecidableEq α] (P : Program) (k e : TypeId) (lit : α → Lit) (b : Nat) (S : List α) (w : World) : Prop :=
  ∃ D : DataW Unit, w.ownsMap P k (plainElem P e) b S.length D ∧ IsMap D ∧ (∀ x, D.atKey (lit x) (.lit (.bool false)) = .lit (.bool (memB x S))) ∧ ∀ x, has D (lit x) = memB x S

section
variable {α : Type} [DecidableEq α] {P : Program} {k e t : TypeId} {lit : α → Lit} {b : Nat} {S : List α} {w : World}

theorem SetOf.made (w : World) (P : Program) (k e : TypeId) (lit : α → Lit) : SetOf P k e lit w.heap.size [] (w.alloc (.map #[] 0)) :=
  ⟨.map [], World.ownsMap_made w P k _, isMap_empty, fun x => by simp [DataW.atKey, memB], fun x => by simp [has, memB]⟩

theorem SetOf.lt (h : SetOf P k e lit b S w) : b < w.heap.size := by obtain ⟨_, h, _⟩ := h; exact h.lt
theorem SetOf.kept {w' : World} {row : Option Nat} (h : SetOf P k e lit b S w) (hg : w.grownBy w' row) (hne : some b ≠ row) : SetOf P k e lit b S w' := by
  obtain ⟨D, h1, h2, h3⟩ := h; exact ⟨D, h1.kept hg hne, h2, h3⟩
theorem SetOf.block {w' : World} (h : SetOf P k e lit b S w) (hb : w'.heap[b]? = w.heap[b]?) : SetOf P k e lit b S w' := by
  obtain ⟨D, ⟨es, cl, g1, g2, g3, g4⟩, h2, h3⟩ := h; exact ⟨D, ⟨es, cl, hb.trans g1, g2, g3, g4⟩, h2, h3⟩

theorem SetOf.look (h : SetOf P k e lit b S w) (K : Keyed P k) (ht : P.underlying t = some (.map k e)) (he : P.underlying e = some .bool) (hz : (zeroValue e).run P w = .ok (.bool false) w)
    {key : Value} {x : α} (hkey : keyOf P k key = some (lit x)) : (Instr.lookup t (.map (some b)) key false).run P w = .ok (.bool (memB x S)) w := by
  obtain ⟨D, h1, _, h3⟩ := h
  obtain ⟨v, ps, hrun, hv⟩ := h1.lookup K ht hz (plainElem_bool he false) hkey
  rw [h3.1] at hv
  have hv' : v = .bool (memB x S) := by
    unfold plainElem at hv
    rw [he] at hv
    cases v <;> simp at hv
    rw [hv.1]
  rw [hrun, hv']

theorem SetOf.put (h : SetOf P k e lit b S w) (K : Keyed P k) (ht : P.underlying t = some (.map k e)) (he : P.underlying e = some .bool) (hinj : ∀ x y, lit x = lit y → x = y) (hn : S.length < maxLen)
    {key : Value} {x : α} (hkey : keyOf P k key = some (lit x)) : ∃ w', (Instr.mapUpdate t (.map (some b)) key (.bool true)).run P w = .ok () w' ∧ SetOf P k e lit b (S ++ [x]) w' ∧ w.grownBy w' (some b) := by
  obtain ⟨D, h1, h2, h3⟩ := h
  obtain ⟨w', hrun, hown, hg⟩ := h1.update K ht hn hkey (plainElem_bool he true)
  refine ⟨w', hrun, ⟨_, by simpa using hown, h2.put _ _, fun y => ?_, fun y => ?_⟩, hg⟩
  · by_cases hxy : y = x
    · subst hxy
      rw [atKey_put_same h2 (K.key hkey)]; simp [memB]
    · rw [atKey_put_other (fun e => hxy (hinj _ _ e)), h3.1]; simp [hxy, memB]
  · by_cases hxy : y = x
    · subst hxy
      rw [has_put_same h2 (K.key hkey)]; simp [memB]
    · rw [has_put_other (fun e => hxy (hinj _ _ e)), h3.2]; simp [hxy, memB]
end

/-- the two kinds of keys -/
def sLit (s : ByteArray) : Lit := .string s.data.toList
def iLit (n : Int) : Lit := .int .i64 n
theorem sLit_inj (x y : ByteArray) (h : sLit x = sLit y) : x = y := by
  cases x; cases y; simp [sLit] at h; rw [h]
theorem iLit_inj (x y : Int) (h : iLit x = iLit y) : x = y := by simpa [iLit] using h
end Go.Proofs.Ytmcpafflnccfaaa

namespace Go.Proofs.Ytmcpafflnccfaaa
open Go.RowKit
set_option linter.unusedVariables false

def IntsSmall (xs : List Int) : Prop := xs.length ≤ 1048576

theorem toIntS_x (v : Value) (xs : List Int) (w : World) (hr : RowAt w v (ints xs)) (hs : IntsSmall xs) :
    Calls Try.prog 150 #[v] w fun e w' => ∃ a c, e = .returned (.slice a xs.length c) ∧ IntsIn w.heap.size w'.heap.size w' (.slice a xs.length c) xs ∧ Below w.heap.size w w' :=
  (toIntS_any v xs w hr hs).mono fun e w' ⟨c, he, ho, hb⟩ => ⟨_, c, he, IntsIn.mk ho, hb⟩

theorem eqIntS_x (v v' : Value) (xs : List Int) (w : World) (hr : RowAt w v (ints xs)) (hr' : RowAt w v' (ints xs)) (hs : IntsSmall xs) :
    Calls Try.prog 26 #[v, v'] w fun e w' => e = .returned (.bool true) ∧ Below w.heap.size w w' := eqIntS_same v v' xs w hr hr'

/-- numbers that hold marks from k on -/
def IntsMk (k : Int) (w : World) (v : Value) (xs : List Int) : Prop := RowAt w v (ints (countUp k xs.length))
theorem IntsMk.later {k : Int} {w w' : World} {v : Value} {xs : List Int} (h : IntsMk k w v xs) (hb : Below w.heap.size w w') : IntsMk k w' v xs := RowAt.below h rfl hb

theorem markIntS_x (v : Value) (xs : List Int) (k : Int) (l u : Nat) (w : World) (hr : IntsIn l u w v xs) (hl : l ≤ w.heap.size) (hs : IntsSmall xs) (hk0 : 0 ≤ k) (hk : k ≤ 1073741824) :
    Calls Try.prog 27 #[v, .int .i64 k] w fun e w' => e = .returned (.int .i64 (k + (xs.length : Int))) ∧ IntsMk k w' v xs ∧ w.grownBy w' v.ownBlock ∧ Out l u w w' :=
  (markIntS_own v xs k l w hr.1 hs hk0 hk).mono fun e w' ⟨he, ho, hg⟩ => ⟨he, rowAt_own (n := xs.length) ho, hg, Out.of_grown hg hl (fun g hg' => ⟨hr.lo g hg', hr.2 g hg'⟩)⟩

theorem heldIntS_x (v : Value) (xs : List Int) (k : Int) (w : World) (hr : IntsMk k w v xs) (hs : IntsSmall xs) (hk0 : 0 ≤ k) (hk : k ≤ 1073741824) :
    Calls Try.prog 28 #[v, .int .i64 k] w fun e w' => e = .returned (.int .i64 (k + (xs.length : Int))) ∧ Below w.heap.size w w' :=
  (heldIntS_own v k xs.length w hr hs hk0 hk).mono fun e w' ⟨he, hw⟩ => ⟨he, by subst hw; exact Below.refl _ _⟩
end Go.Proofs.Ytmcpafflnccfaaa

namespace Go.Proofs.Ytmcpafflnccfaaa
open Go.RowKit
set_option linter.unusedVariables false

theorem l4Time_any (t : Int) (w : World) : Calls Try.prog 126 #[.int .i64 t] w fun e w' => e = .returned (.bool (timeB t)) ∧ w = w' := by
  by_cases h : TimeOk t
  · have H := Lib.hid (l1In_yes t 0 1799 w h)
    rw [timeB_yes h]
    go_enter Try.func126, Try.ntmps126
    go_wp2_with (go_at_call 66; refine H.out.mono ?_; rintro e w' ⟨rfl, rfl⟩)
    go_ret
    exact ⟨rfl, rfl⟩
  · have H := Lib.hid (l1In_no t 0 1799 w h)
    rw [timeB_no h]
    go_enter Try.func126, Try.ntmps126
    go_wp2_with (go_at_call 66; refine H.out.mono ?_; rintro e w' ⟨rfl, rfl⟩)
    go_ret
    exact ⟨rfl, rfl⟩
theorem implValidTime_any (t : Int) (w : World) : Calls Try.prog 91 #[.int .i64 t] w fun e w' => e = .returned (.bool (timeB t)) ∧ w = w' := by
  by_cases h0 : 0 ≤ t
  · by_cases h1 : t ≤ 1799
    · rw [timeB_yes ⟨h0, h1⟩]
      go_enter Try.func91, Try.ntmps91
      go_wp2
      go_ret
      exact ⟨rfl, rfl⟩
    · rw [timeB_no fun h => h1 h.2]
      go_enter Try.func91, Try.ntmps91
      go_wp2
      go_ret
      exact ⟨rfl, rfl⟩
  · rw [timeB_no fun h => h0 h.1]
    go_enter Try.func91, Try.ntmps91
    go_wp2
    go_ret
    exact ⟨rfl, rfl⟩
end Go.Proofs.Ytmcpafflnccfaaa
