/-
  JOINED TEXTS, each under its own namespace line: Slices, In, Plain1, Ints, Text.
-/
import Derived.WalkKit
import Derived.SliceStrings
import Derived.Laws.OwnMore
import Derived.Below
import Derived.Deep.QuietTactic
import Derived.ProofKit
import Derived.DataReads
import Derived.Test.YtffcgblionlhhaaRows
import Derived.WalkLawsBesides
import Derived.LoopTactic
import Derived.Lib.Hide
import Derived.OwnWalk
import Derived.Laws.NewBlocks
import Derived.Deep.Slices
import Derived.Deep.Fields
import Derived.Lib.SmallJoins
import Derived.ChangeSame
import Derived.BigQuiet
namespace Go.Proofs.Ytffcgblionlhhaa
open Go.RowKit Go.ChangeShapes Go.WideShapes Go.ChangeAt

/-- a slice value of as many elements as xs, whose cells hold xs -/
def RowAt (w : World) (v : Value) (xs : List Value) : Prop :=
  ∃ a c, v = .slice a xs.length c ∧ xs.length ≤ c ∧ c ≤ maxLen ∧ ∀ k u, xs[k]? = some u → ∃ b off, a = some ⟨b, off, none⟩ ∧ b < w.heap.size ∧ w.cell? ⟨b, off + k, none⟩ = some u

theorem RowAt.below {w w' : World} {v : Value} {xs : List Value} (h : RowAt w v xs) {B : Nat} (hB : B = w.heap.size) (hb : Below B w w') : RowAt w' v xs := by
  subst hB
  obtain ⟨a, c, hv, h1, h2, h3⟩ := h
  refine ⟨a, c, hv, h1, h2, fun k u hu => ?_⟩
  obtain ⟨b, off, ha, hlt, hc⟩ := h3 k u hu
  exact ⟨b, off, ha, Nat.lt_of_lt_of_le hlt hb.size, by rw [hb.cell (p := ⟨b, off + k, none⟩) hlt]; exact hc⟩

theorem RowAt.drewN {w : World} {v : Value} {xs : List Value} (h : RowAt w v xs) (m : Nat) : RowAt (w.drewN m) v xs := h

theorem addr_add (g o j : Nat) : (⟨g, o, none⟩ : Addr).add j = ⟨g, o + j, none⟩ := by
  by_cases h0 : j = 0
  · subst h0; simp [Addr.add]
  · simp [Addr.add, h0]

theorem rowAt_own {w : World} {B : Nat} {e : TypeId} {v : Value} {n : Nat} {xs : List Value} (h : w.ownsRow B e 1 v n xs) : RowAt w v xs := by
  have hc := fun g hg => h.cells (g := g) hg
  have hl := h.lt
  obtain ⟨hn, h2⟩ := h
  rcases h2 with ⟨hv, h0⟩ | ⟨g, cap, cur, hv, hg, hh, h1, h3, h4, h5⟩
  · subst h0
    have : xs = [] := List.eq_nil_of_length_eq_zero (by omega)
    subst this
    exact ⟨none, 0, hv, Nat.le_refl _, by decide, fun k u hu => by simp at hu⟩
  · have hn' : xs.length = n := by omega
    refine ⟨_, cap, by rw [hn']; exact hv, by omega, h3, fun k u hu => ⟨g, 0, rfl, (hl g (by rw [hv]; rfl)).2, ?_⟩⟩
    have := hc g (by rw [hv]; rfl) k u hu
    rw [addr_add] at this
    exact this

/-- what came in as a slice of strings reads as a row -/
theorem rowAt_strings {H : Type} {enc : TypeId × Value → H} {P : Program} {W : World} {base base' : Nat} {spare : Nat → Bool} {held : Bool} {t e : TypeId} {v : Value} {d : DataW H} {p : List MemPlace} (ht : P.underlying t = some (.slice e)) (he : P.underlying e = some .string) (hc : P.cellsOf e = 1)
    (hv : Value.okWide P W .any base t v) (h : DataW.Trod enc P W base' spare held t v d p) : ∃ xs : List ByteArray, RowAt W v (xs.map .string) ∧ ∀ x ∈ xs, x.size ≤ maxLen := by
  obtain ⟨a, len, cap, rfl⟩ := okWide_slice ht hv
  obtain ⟨fuel, hf⟩ := h
  rcases open_strings ht he hc hf with ⟨hcs, _⟩ | ⟨a', len', cap', ss, hcs, _, hl, hm, hz, _, hcell, hws⟩
  · simp [Value.cells] at hcs
    obtain ⟨rfl, rfl, rfl⟩ := hcs
    exact ⟨[], ⟨none, 0, rfl, Nat.le_refl _, by decide, fun k u hu => by simp at hu⟩, fun x hx => by simp at hx⟩
  · simp [Value.cells] at hcs
    obtain ⟨rfl, rfl, rfl⟩ := hcs
    have hss : len ≤ ss.length := by rw [hz]; split <;> omega
    refine ⟨ss.take len, ⟨some a', cap, by simp [Nat.min_eq_left hss], by simp; omega, hm, fun k u hu => ?_⟩, fun x hx => hws x (List.mem_of_mem_take hx)⟩
    rw [List.getElem?_map, List.getElem?_take] at hu
    split at hu
    · rename_i hk
      have hk' : k < ss.length := by omega
      rw [List.getElem?_eq_getElem hk'] at hu
      have hcl := hcell k hk'
      obtain ⟨b, off, sp⟩ := a'
      have hsp : sp = none := by
        have := World.cell?_spot (hcell 0 (by omega))
        simpa [Addr.add] using this
      subst hsp
      rw [addr_add] at hcl
      have hu' : Value.string (ss[k]) = u := by simpa using hu
      refine ⟨b, off, rfl, World.block_lt_of_cell? W _ hcl, ?_⟩
      rw [hcl, ← hu']
      simp [List.getD, List.getElem?_eq_getElem hk']
    · simp at hu

/-- only draws lie between two worlds -/
def Dr (w wr : World) : Prop := ∃ m, wr = w.drewN m
theorem Dr.refl (w : World) : Dr w w := ⟨0, rfl⟩
theorem Dr.step {w wr : World} (h : Dr w wr) (n : Nat) : Dr w (wr.drewN n) := by obtain ⟨m, rfl⟩ := h; exact ⟨m + n, by rw [World.drewN_drewN]⟩
theorem Dr.cell {w wr : World} (h : Dr w wr) (a : Addr) : wr.cell? a = w.cell? a := by obtain ⟨m, rfl⟩ := h; rfl
theorem Dr.out {w wr : World} (h : Dr w wr) : ∃ m, wr = w.drewN m := h
theorem quietL {P : Program} {f : FuncId} {args : Array Value} {w : World} {n : Nat} {v : Value} (h : Calls P f args (w.drewN n) fun e w' => e = .returned v ∧ w.drewN n = w') :
    Calls P f args (w.drewN n) fun e w'' => e = .returned v ∧ ∃ m, w'' = w.drewN m := h.mono fun _ _ ⟨he, hm⟩ => ⟨he, n, hm.symm⟩
theorem quietM {P : Program} {f : FuncId} {args : Array Value} {w : World} {m n : Nat} {v : Value} (h : ∀ W : World, Calls P f args W fun e w' => e = .returned v ∧ W = w') :
    Calls P f args (w.drewN (m + n)) fun e w'' => e = .returned v ∧ ∃ n, w'' = w.drewN (m + n) := (h _).mono fun _ _ ⟨he, hm⟩ => ⟨he, n, hm.symm⟩
theorem Dr.below {w wr : World} (h : Dr w wr) : Below w.heap.size w wr := by
  obtain ⟨m, rfl⟩ := h
  exact ⟨rfl, rfl, rfl, Nat.le_refl _, fun _ _ => rfl⟩
end Go.Proofs.Ytffcgblionlhhaa

namespace Go.Proofs.Ytffcgblionlhhaa
open Go.RowKit
set_option linter.unusedVariables false

theorem l1In_yes (a lo hi : Int) (w : World) (h : lo ≤ a ∧ a ≤ hi) : Calls Try.prog 110 #[.int .i64 a, .int .i64 lo, .int .i64 hi] w fun e w' => e = .returned (.bool true) ∧ w = w' := by
  obtain ⟨h1, h2⟩ := h
  go_enter Try.func110, Try.ntmps110
  go_wp2
  go_ret
  exact ⟨rfl, rfl⟩
theorem l1In_no (a lo hi : Int) (w : World) (h : ¬ (lo ≤ a ∧ a ≤ hi)) : Calls Try.prog 110 #[.int .i64 a, .int .i64 lo, .int .i64 hi] w fun e w' => e = .returned (.bool false) ∧ w = w' := by
  by_cases h1 : lo ≤ a
  · have h2 : ¬ a ≤ hi := fun g => h ⟨h1, g⟩
    clear h
    go_enter Try.func110, Try.ntmps110
    go_wp2
    go_ret
    exact ⟨rfl, rfl⟩
  · clear h
    go_enter Try.func110, Try.ntmps110
    go_wp2
    go_ret
    exact ⟨rfl, rfl⟩
end Go.Proofs.Ytffcgblionlhhaa

namespace Go.Proofs.Ytffcgblionlhhaa
open Go.RowKit

/-- the checksum of a list of bytes -/
def sumL (l : List UInt8) : Int := l.foldl (fun h c => (41 * h + (c.toNat : Int) + 1) % 999979) 7

theorem sumL_snoc (l : List UInt8) (c : UInt8) : sumL (l ++ [c]) = (41 * sumL l + (c.toNat : Int) + 1) % 999979 := by
  simp [sumL, List.foldl_append]

theorem sumL_bd (l : List UInt8) : 0 ≤ sumL l ∧ sumL l < 999979 := by
  rcases List.eq_nil_or_concat l with rfl | ⟨t, c, rfl⟩
  · decide
  · rw [List.concat_eq_append, sumL_snoc]; omega

theorem take_snoc (s : ByteArray) (k : Nat) (h : k < s.size) : s.data.toList.take (k + 1) = s.data.toList.take k ++ [s[k]] := by
  rw [List.take_succ_eq_append_getElem (by simpa using h)]; rfl

theorem ret_int {k : IntKind} {a b : Int} (h : a = b) : Ending.returned (.int k a) = .returned (.int k b) := by rw [h]
theorem ret_int_b {k : IntKind} {a b : Int} {c : Bool} (h : a = b) : Ending.returned (.tuple #[.int k a, .bool c]) = .returned (.tuple #[.int k b, .bool c]) := by rw [h]
theorem ret_bool {a b : Bool} (h : a = b) : Ending.returned (.bool a) = .returned (.bool b) := by rw [h]
theorem byte_lt (s : ByteArray) (k : Nat) (h : k < s.size) : ((s[k]'h).toNat : Int) < 256 := by have := (s[k]'h).toNat_lt; omega
end Go.Proofs.Ytffcgblionlhhaa

namespace Go.Proofs.Ytffcgblionlhhaa
open Go.RowKit Go.ChangeShapes Go.WideShapes Go.ChangeAt Go.Deep Go.Joins
set_option linter.unusedVariables false

def strs (xs : List ByteArray) : List Value := xs.map Value.string
def ints (zs : List Int) : List Value := zs.map (Value.int .i64)
theorem strs_len (xs : List ByteArray) : (strs xs).length = xs.length := List.length_map ..
theorem ints_len (xs : List Int) : (ints xs).length = xs.length := List.length_map ..
theorem strs_at {w : World} {a : Option Addr} {xs : List ByteArray} (h : ∀ k u, (strs xs)[k]? = some u → ∃ b off, a = some ⟨b, off, none⟩ ∧ b < w.heap.size ∧ w.cell? ⟨b, off + k, none⟩ = some u) (k : Nat) (hk : k < xs.length) :
    ∃ b off, a = some ⟨b, off, none⟩ ∧ b < w.heap.size ∧ w.cell? ⟨b, off + k, none⟩ = some (.string (xs[k]'hk)) := h k _ (by simp [strs, List.getElem?_eq_getElem hk])
theorem ints_at {w : World} {a : Option Addr} {xs : List Int} (h : ∀ k u, (ints xs)[k]? = some u → ∃ b off, a = some ⟨b, off, none⟩ ∧ b < w.heap.size ∧ w.cell? ⟨b, off + k, none⟩ = some u) (k : Nat) (hk : k < xs.length) :
    ∃ b off, a = some ⟨b, off, none⟩ ∧ b < w.heap.size ∧ w.cell? ⟨b, off + k, none⟩ = some (.int .i64 (xs[k]'hk)) := h k _ (by simp [ints, List.getElem?_eq_getElem hk])
theorem strs_open {w : World} {v : Value} {xs : List ByteArray} (h : RowAt w v (strs xs)) : ∃ a c, v = .slice a xs.length c ∧ xs.length ≤ c ∧ c ≤ 9223372036854775807 ∧
    Hid (∀ k (hk : k < xs.length), ∃ b off, a = some ⟨b, off, none⟩ ∧ b < w.heap.size ∧ w.cell? ⟨b, off + k, none⟩ = some (.string (xs[k]'hk))) := by
  obtain ⟨a, c, rfl, h1, h2, h3⟩ := h
  simp only [strs_len] at *
  exact ⟨a, c, rfl, h1, h2, strs_at h3⟩
theorem ints_open {w : World} {v : Value} {xs : List Int} (h : RowAt w v (ints xs)) : ∃ a c, v = .slice a xs.length c ∧ xs.length ≤ c ∧ c ≤ 9223372036854775807 ∧
    Hid (∀ k (hk : k < xs.length), ∃ b off, a = some ⟨b, off, none⟩ ∧ b < w.heap.size ∧ w.cell? ⟨b, off + k, none⟩ = some (.int .i64 (xs[k]'hk))) := by
  obtain ⟨a, c, rfl, h1, h2, h3⟩ := h
  simp only [ints_len] at *
  exact ⟨a, c, rfl, h1, h2, ints_at h3⟩
theorem not_take_succ {α : Type} {x : α} {xs : List α} {k : Nat} (hk : k < xs.length) (h : x ∉ xs.take k) (hne : xs[k] ≠ x) : x ∉ xs.take (k + 1) := by
  rw [List.take_succ_eq_append_getElem hk]; intro hm
  rcases List.mem_append.1 hm with g | g
  · exact h g
  · exact hne (by simpa using g : x = xs[k]).symm
theorem not_take_all {α : Type} {x : α} {xs : List α} {k : Nat} (hk : xs.length ≤ k) (h : x ∉ xs.take k) : x ∉ xs := by rwa [List.take_of_length_le hk] at h
theorem bkeep {w w' : World} {p : Addr} {x : Value} (hb : Below w.heap.size w w') (h : w.cell? p = some x) : w'.cell? p = some x := by
  rw [hb.cell (World.block_lt_of_cell? w _ h)]; exact h
theorem acell {w : World} {p : Addr} {x : Value} (h : w.cell? p = some x) (o : Obj) : (w.alloc o).cell? p = some x := by
  rw [((Below.refl w.heap.size w).alloc (Nat.le_refl _) o).cell (World.block_lt_of_cell? w _ h)]; exact h
theorem own_block {w w' : World} {B : Nat} {e : TypeId} {sz : Nat} {v : Value} {n : Nat} {xs : List Value} (h : w.ownsRow B e sz v n xs) (hb : ∀ g, v.ownBlock = some g → w'.heap[g]? = w.heap[g]?) : w'.ownsRow B e sz v n xs := by
  obtain ⟨h1, h2⟩ := h
  refine ⟨h1, ?_⟩
  rcases h2 with h2 | ⟨g, cap, cur, hv, hg, hh, r⟩
  · exact .inl h2
  · exact .inr ⟨g, cap, cur, hv, hg, (hb g (by rw [hv]; rfl)).trans hh, r⟩
theorem own_later {w w' : World} {B : Nat} {e : TypeId} {sz : Nat} {v : Value} {n : Nat} {xs : List Value} (h : w.ownsRow B e sz v n xs) (hb : Below w.heap.size w w') : w'.ownsRow B e sz v n xs :=
  own_block h (fun g hg => hb.block g (h.lt g hg).2)
theorem own_base {w : World} {B B' : Nat} {e : TypeId} {sz : Nat} {v : Value} {n : Nat} {xs : List Value} (h : w.ownsRow B e sz v n xs) (hB : B' ≤ B) : w.ownsRow B' e sz v n xs := by
  obtain ⟨h1, h2⟩ := h
  refine ⟨h1, ?_⟩
  rcases h2 with h2 | ⟨g, cap, cur, hv, hg, r⟩
  · exact .inl h2
  · exact .inr ⟨g, cap, cur, hv, Nat.le_trans hB hg, r⟩
theorem own_other {w : World} {B : Nat} {e : TypeId} {sz : Nat} {v : Value} {n : Nat} {xs : List Value} (h : w.ownsRow B e sz v n xs) {p : Addr} (hp : v.ownBlock ≠ some p.block) (u : Value) : (w.setCell p u).ownsRow B e sz v n xs :=
  own_block h (fun g hg => Below.heap_setCell w p u g (fun e => hp (by rw [hg, e])))
theorem take_set_succ {α : Type} (zs ys : List α) (k : Nat) (h : k < zs.length) (hy : k < ys.length) (he : zs.take k = ys.take k) : (zs.set k ys[k]).take (k + 1) = ys.take (k + 1) := by
  rw [List.take_succ_eq_append_getElem (by simpa using h), List.take_succ_eq_append_getElem hy, List.take_set_of_le (Nat.le_refl _), he]
  simp
theorem own_len {w : World} {B : Nat} {e : TypeId} {v : Value} {n : Nat} {xs : List Value} (h : w.ownsRow B e 1 v n xs) : xs.length = n := by have := h.1; omega
theorem own_stored_below {B : Nat} {w wr : World} {g k : Nat} {u : Value} (hb : Below B w wr) (hg : B ≤ g) : Below B w (wr.setCell ⟨g, k, none⟩ u) := hb.setCell (p := ⟨g, k, none⟩) hg u
theorem fkeep {w w' : World} {p : Addr} (hb : Below w.heap.size w w') (hlt : p.block < w.heap.size) (h : w.frozen? p = false) : w'.frozen? p = false := by rw [hb.frozen hlt]; exact h
theorem bcell {W w1 : World} (hb : Below W.heap.size W w1) : (∀ b o, b < W.heap.size → w1.cell? ⟨b, o, none⟩ = W.cell? ⟨b, o, none⟩) ∧ (∀ b o, b < W.heap.size → w1.frozen? ⟨b, o, none⟩ = W.frozen? ⟨b, o, none⟩) :=
  ⟨fun b o h => hb.cell (p := ⟨b, o, none⟩) h, fun b o h => hb.frozen (p := ⟨b, o, none⟩) h⟩
theorem set_other {w : World} {b i o : Nat} {u : Value} (h : i ≠ o) : (w.setCell ⟨b, i, none⟩ u).cell? ⟨b, o, none⟩ = w.cell? ⟨b, o, none⟩ :=
  World.cell?_setCell_other _ _ _ _ (fun e => h (congrArg Addr.off e))
theorem set_same {w : World} {b o : Nat} {u z : Value} (h : w.cell? ⟨b, o, none⟩ = some z) : (w.setCell ⟨b, o, none⟩ u).cell? ⟨b, o, none⟩ = some u :=
  World.cell?_setCell_same' _ _ _ (by rw [h]; rfl)
theorem own_shape {w : World} {B : Nat} {e : TypeId} {sz : Nat} {v : Value} {n : Nat} {xs : List Value} (h : w.ownsRow B e sz v n xs) : ∃ a c, v = .slice a n c := by
  obtain ⟨_, h2⟩ := h
  rcases h2 with ⟨hv, hn⟩ | ⟨g, cap, cur, hv, _⟩
  · subst hn; exact ⟨_, _, hv⟩
  · exact ⟨_, _, hv⟩
/-- only blocks from lo to hi, and new ones, differ -/
structure Out (lo hi : Nat) (w w' : World) : Prop where
  below : Below lo w w'
  above : ∀ b, hi ≤ b → b < w.heap.size → w'.heap[b]? = w.heap[b]?
theorem Out.refl (lo hi : Nat) (w : World) : Out lo hi w w := ⟨Below.refl _ _, fun _ _ _ => rfl⟩
theorem Out.trans {lo hi : Nat} {a b c : World} (h : Out lo hi a b) (k : Out lo hi b c) : Out lo hi a c :=
  ⟨h.below.trans k.below, fun i hi' hl => (k.above i hi' (Nat.lt_of_lt_of_le hl h.below.size)).trans (h.above i hi' hl)⟩
theorem Out.of_below {lo hi : Nat} {w w' : World} (h : Below w.heap.size w w') (hl : lo ≤ w.heap.size) : Out lo hi w w' := ⟨h.mono hl, fun b _ hb => h.block b hb⟩
theorem Out.setCell {lo hi : Nat} {w w' : World} (h : Out lo hi w w') {p : Addr} (h1 : lo ≤ p.block) (h2 : p.block < hi) (u : Value) : Out lo hi w (w'.setCell p u) :=
  ⟨h.below.setCell h1 u, fun b hb hl => by rw [Below.heap_setCell _ _ _ _ (by omega)]; exact h.above b hb hl⟩
theorem Out.cell {lo hi : Nat} {w w' : World} (h : Out lo hi w w') {p : Addr} (hp : p.block < lo ∨ hi ≤ p.block) {x : Value} (hc : w.cell? p = some x) : w'.cell? p = some x := by
  have hlt := World.block_lt_of_cell? w _ hc
  rcases hp with hp | hp
  · rw [h.below.cell hp]; exact hc
  · rw [World.cell?_of_block (w := w) (h.above p.block hp hlt)]; exact hc
theorem Out.block {lo hi : Nat} {w w' : World} (h : Out lo hi w w') {b : Nat} (hb : b < lo ∨ hi ≤ b) (hl : b < w.heap.size) : w'.heap[b]? = w.heap[b]? := by
  rcases hb with hb | hb
  · exact h.below.block b hb
  · exact h.above b hb hl
theorem own_out {lo hi B : Nat} {w w' : World} {e : TypeId} {sz : Nat} {v : Value} {n : Nat} {xs : List Value} (h : w.ownsRow B e sz v n xs) (ho : Out lo hi w w') (hb : ∀ g, v.ownBlock = some g → g < lo ∨ hi ≤ g) : w'.ownsRow B e sz v n xs :=
  own_block h (fun g hg => ho.block (hb g hg) (h.lt g hg).2)
/-- a row of which every cell lies apart from the marked blocks -/
theorem RowAt.out {lo hi : Nat} {w w' : World} {v : Value} {xs : List Value} (h : RowAt w v xs) (ho : Out lo hi w w') (hb : ∀ g, v.ownBlock = some g → g < lo ∨ hi ≤ g) : RowAt w' v xs := by
  obtain ⟨a, c, hv, h1, h2, h3⟩ := h
  refine ⟨a, c, hv, h1, h2, fun k u hu => ?_⟩
  obtain ⟨b, off, ha, hlt, hc⟩ := h3 k u hu
  exact ⟨b, off, ha, Nat.lt_of_lt_of_le hlt ho.below.size, ho.cell (p := ⟨b, off + k, none⟩) (hb b (by rw [hv, ha]; rfl)) hc⟩
theorem Out.of_grown {lo hi : Nat} {w w' : World} {row : Option Nat} (h : w.grownBy w' row) (hl : lo ≤ w.heap.size) (hr : ∀ g, row = some g → lo ≤ g ∧ g < hi) : Out lo hi w w' :=
  ⟨⟨h.os, h.tape, h.output, h.size, fun b hb => h.block b (by omega) (fun e => by have := (hr b e.symm).1; omega)⟩, fun b hb hlt => h.block b hlt (fun e => by have := (hr b e.symm).2; omega)⟩
def countUp (k : Int) : Nat → List Int
  | 0 => []
  | n + 1 => countUp k n ++ [k + n]
theorem countUp_len (k : Int) : ∀ n, (countUp k n).length = n
  | 0 => rfl
  | n + 1 => by simp [countUp, countUp_len k n]
theorem countUp_get (k : Int) : ∀ n j (h : j < (countUp k n).length), (countUp k n)[j] = k + j
  | 0, j, h => by simp [countUp] at h
  | n + 1, j, h => by
    simp only [countUp]
    rw [List.getElem_append]
    have hl := countUp_len k n
    split
    · exact countUp_get k n j (by assumption)
    · have : j = n := by simp [countUp, hl] at h; omega
      subst this
      simp


theorem one_new (w : World) (u : Value) {t : TypeId} : ∀ j x, [u][j]? = some x → (w.alloc (.cells #[u] t)).cell? ((⟨w.heap.size, 0, none⟩ : Addr).add j) = some x := by
  intro j x hx
  cases j with
  | zero => simp at hx; subst hx; simp [Addr.add]
  | succ j => simp at hx
theorem one_newN (w : World) (u : Value) (m : Nat) (hm : m = w.heap.size) {t : TypeId} : ∀ j x, [u][j]? = some x → (w.alloc (.cells #[u] t)).cell? ((⟨m, 0, none⟩ : Addr).add j) = some x := by
  subst hm; exact one_new w u

/-- a row of numbers of the call's own, in a block from l to u -/
def IntsIn (l u : Nat) (w : World) (v : Value) (xs : List Int) : Prop := w.ownsRow l 3 1 v xs.length (ints xs) ∧ ∀ g, v.ownBlock = some g → g < u
theorem IntsIn.at {l u : Nat} {w : World} {v : Value} {xs : List Int} (h : IntsIn l u w v xs) : RowAt w v (ints xs) := rowAt_own h.1
theorem IntsIn.lo {l u : Nat} {w : World} {v : Value} {xs : List Int} (h : IntsIn l u w v xs) (g : Nat) (hg : v.ownBlock = some g) : l ≤ g := (h.1.lt g hg).1
theorem IntsIn.later {l u : Nat} {w w' : World} {v : Value} {xs : List Int} (h : IntsIn l u w v xs) (hb : Below w.heap.size w w') : IntsIn l u w' v xs := ⟨own_later h.1 hb, h.2⟩
theorem IntsIn.out {l u lo hi : Nat} {w w' : World} {v : Value} {xs : List Int} (h : IntsIn l u w v xs) (ho : Out lo hi w w') (hs : u ≤ lo ∨ hi ≤ l) : IntsIn l u w' v xs :=
  ⟨own_out h.1 ho (fun g hg => by have := h.2 g hg; have := h.lo g hg; omega), h.2⟩
theorem IntsIn.mk {l : Nat} {w : World} {v : Value} {xs : List Int} (h : w.ownsRow l 3 1 v xs.length (ints xs)) : IntsIn l w.heap.size w v xs := ⟨h, fun g hg => (h.lt g hg).2⟩
theorem IntsIn.base {l l' u u' : Nat} {w : World} {v : Value} {xs : List Int} (h : IntsIn l u w v xs) (hl : l' ≤ l) (hu : u ≤ u') : IntsIn l' u' w v xs := ⟨own_base h.1 hl, fun g hg => Nat.lt_of_lt_of_le (h.2 g hg) hu⟩
theorem IntsIn.nil (l u : Nat) (w : World) : IntsIn l u w (.slice none 0 0) [] := ⟨World.ownsRow_nil _ _ _ _, fun g hg => by simp [Value.ownBlock] at hg⟩
theorem IntS_open {w : World} {v : Value} {xs : List Int} (h : RowAt w v (ints xs)) : ∃ a c, v = .slice a xs.length c := by
  obtain ⟨a, c, hv, _⟩ := h
  rw [ints_len] at hv
  exact ⟨a, c, hv⟩

/-- the cells of a block from i on -/
def CellsF (w : World) (b : Nat) : Nat → List Value → Prop
  | _, [] => True
  | i, v :: vs => w.cell? ⟨b, i, none⟩ = some v ∧ CellsF w b (i + 1) vs
theorem CellsF.keep {w w' : World} {b : Nat} (hb : Below w.heap.size w w') : ∀ {i : Nat} {vs : List Value}, CellsF w b i vs → CellsF w' b i vs
  | _, [], _ => trivial
  | _, _ :: _, ⟨h, t⟩ => ⟨bkeep hb h, CellsF.keep hb t⟩
theorem CellsF.out {lo hi : Nat} {w w' : World} {b : Nat} (ho : Out lo hi w w') (hs : b < lo ∨ hi ≤ b) : ∀ {i : Nat} {vs : List Value}, CellsF w b i vs → CellsF w' b i vs
  | _, [], _ => trivial
  | i, _ :: _, ⟨h, t⟩ => ⟨ho.cell (p := ⟨b, i, none⟩) hs h, CellsF.out ho hs t⟩

section
variable {H : Type} {enc : TypeId × Value → H} {P : Program} {w : World} {base : Nat} {spare : Nat → Bool} {held : Bool}
theorem strings_trod {t e : TypeId} {n : Nat} {v : Value} {x : DataW H × List MemPlace} (ht : P.underlying t = some (.slice e)) (he : P.underlying e = some .string) (hc : P.cellsOf e = 1)
    (h : DataW.trod enc P w base spare held n t [v] = some x) : ∃ xs : List ByteArray, RowAt w v (strs xs) ∧ ∀ s ∈ xs, s.size ≤ maxLen := by
  rcases open_strings ht he hc h with ⟨hcs, _⟩ | ⟨a, len, cap, ss, hcs, _, hl, hm, hz, _, hcell, hws⟩
  · simp at hcs; subst hcs
    exact ⟨[], ⟨none, 0, rfl, Nat.le_refl _, by decide, fun k u hu => by simp [strs] at hu⟩, fun x hx => by simp at hx⟩
  · simp at hcs; subst hcs
    have hss : len ≤ ss.length := by rw [hz]; split <;> omega
    refine ⟨ss.take len, ⟨some a, cap, by simp [strs, Nat.min_eq_left hss], by simp [strs]; omega, hm, fun k u hu => ?_⟩, fun x hx => hws x (List.mem_of_mem_take hx)⟩
    rw [strs, List.getElem?_map, List.getElem?_take] at hu
    split at hu
    · rename_i hk
      have hk' : k < ss.length := by omega
      rw [List.getElem?_eq_getElem hk'] at hu
      have hcl := hcell k hk'
      obtain ⟨b, off, sp⟩ := a
      have hsp : sp = none := by
        have := World.cell?_spot (hcell 0 (by omega))
        simpa [Addr.add] using this
      subst hsp
      rw [addr_add] at hcl
      have hu' : Value.string (ss[k]) = u := by simpa using hu
      refine ⟨b, off, rfl, World.block_lt_of_cell? w _ hcl, ?_⟩
      rw [hcl, ← hu']
      simp [List.getD, List.getElem?_eq_getElem hk']
    · simp at hu
theorem ints_trod {t e : TypeId} {n : Nat} {v : Value} {x : DataW H × List MemPlace} (ht : P.underlying t = some (.slice e)) (he : P.underlying e = some (.int .i64)) (hc : P.cellsOf e = 1)
    (h : DataW.trod enc P w base spare held n t [v] = some x) : ∃ zs : List Int, RowAt w v (ints zs) ∧ ∀ z ∈ zs, (Lit.int .i64 z).wf = true := by
  rcases open_ints ht he hc h with ⟨hcs, _⟩ | ⟨a, len, cap, ss, hcs, _, hl, hm, hz, _, hcell, hws⟩
  · simp at hcs; subst hcs
    exact ⟨[], ⟨none, 0, rfl, Nat.le_refl _, by decide, fun k u hu => by simp [ints] at hu⟩, fun x hx => by simp at hx⟩
  · simp at hcs; subst hcs
    have hss : len ≤ ss.length := by rw [hz]; split <;> omega
    refine ⟨ss.take len, ⟨some a, cap, by simp [ints, Nat.min_eq_left hss], by simp [ints]; omega, hm, fun k u hu => ?_⟩, fun x hx => hws x (List.mem_of_mem_take hx)⟩
    rw [ints, List.getElem?_map, List.getElem?_take] at hu
    split at hu
    · rename_i hk
      have hk' : k < ss.length := by omega
      rw [List.getElem?_eq_getElem hk'] at hu
      have hcl := hcell k hk'
      obtain ⟨b, off, sp⟩ := a
      have hsp : sp = none := by
        have := World.cell?_spot (hcell 0 (by omega))
        simpa [Addr.add] using this
      subst hsp
      rw [addr_add] at hcl
      have hu' : Value.int .i64 (ss[k]) = u := by simpa using hu
      refine ⟨b, off, rfl, World.block_lt_of_cell? w _ hcl, ?_⟩
      rw [hcl, ← hu']
      simp [List.getD, List.getElem?_eq_getElem hk']
    · simp at hu
end
end Go.Proofs.Ytffcgblionlhhaa

namespace Go.Proofs.Ytffcgblionlhhaa
open Go.RowKit
set_option linter.unusedVariables false

theorem infoString : (Try.prog.info? 9).map (fun i => (i.zero, i.size, i.bytes)) = some (some (.string ⟨#[]⟩), 1, 16) := by kernel_rfl

/-- the letters of all strings together -/
def sumSz (xs : List ByteArray) : Nat := (xs.map (·.size)).sum
theorem sumSz_take (xs : List ByteArray) (k : Nat) (h : k < xs.length) : sumSz (xs.take (k + 1)) = sumSz (xs.take k) + (xs[k]'h).size := by
  rw [List.take_succ_eq_append_getElem h]; simp only [sumSz, List.map_append, List.sum_append, List.map_cons, List.map_nil, List.sum_cons, List.sum_nil]; omega
theorem sumSz_le (xs : List ByteArray) (k : Nat) : sumSz (xs.take k) ≤ sumSz xs := by
  have : sumSz xs = sumSz (xs.take k) + sumSz (xs.drop k) := by
    conv => lhs; rw [← List.take_append_drop k xs]
    simp only [sumSz, List.map_append, List.sum_append]
  omega

theorem str_at {w : World} {a : Option Addr} {xs : List ByteArray} (h : ∀ k u, (xs.map Value.string)[k]? = some u → ∃ b off, a = some ⟨b, off, none⟩ ∧ b < w.heap.size ∧ w.cell? ⟨b, off + k, none⟩ = some u) (k : Nat) (hk : k < xs.length) :
    ∃ b off, a = some ⟨b, off, none⟩ ∧ b < w.heap.size ∧ w.cell? ⟨b, off + k, none⟩ = some (.string (xs[k]'hk)) := h k _ (by simp [List.getElem?_eq_getElem hk])

set_option maxHeartbeats 1000000 in
theorem szStringS_any (v : Value) (xs : List ByteArray) (left : Int) (w : World) (hr : RowAt w v (xs.map .string)) (hx : ∀ x ∈ xs, x.size ≤ maxLen) (h0 : 0 ≤ left) (h1 : left ≤ 1048576) :
    Calls Try.prog 128 #[v, .int .i64 left] w fun e w' => (∃ r : Int, e = .returned (.int .i64 r) ∧ (r = -1 ∨ (0 ≤ r ∧ (xs.length : Int) + sumSz xs + r = left))) ∧ w = w' := by
  obtain ⟨a, c, rfl, hc, hm, hcell⟩ := hr
  rw [List.length_map] at hc ⊢
  unfold maxLen at hm hx
  have HC := Lib.hid hcell
  clear hcell
  by_cases hneg : left - (xs.length : Int) < 0
  · go_enter Try.func128, Try.ntmps128
    go_wp2
    go_ret
    exact ⟨⟨-1, rfl, .inl rfl⟩, rfl⟩
  · go_enter Try.func128, Try.ntmps128
    go_wp2
    go_loop [1, 5] (fun l i => ∃ k : Nat, k ≤ xs.length ∧ i = .int .i64 k ∧ ∃ r : Int, l = .int .i64 r ∧ 0 ≤ r ∧ Hid ((xs.length : Int) + sumSz (xs.take k) + r = left) ∧ r ≤ 1048576) (fun _ i => xs.length - (RowKit.intOf i).toNat)
    case atStart => exact ⟨0, Nat.zero_le _, rfl, _, rfl, by omega, by show _ = _; simp [sumSz]; omega, by omega⟩
    case round =>
      obtain ⟨k, hk, rfl, r, rfl, hr0, HR, hr1⟩ := hrel
      by_cases hlt : k < xs.length
      · obtain ⟨b, off, rfl, _, hcx⟩ := str_at HC.out k hlt
        have hsz := hx _ (List.getElem_mem hlt)
        have HS := Lib.hid (sumSz_take xs k hlt)
        generalize xs[k] = y at *
        by_cases hn : r - (y.size : Int) < 0
        · go_wp2
          go_ret
          exact ⟨⟨-1, rfl, .inl rfl⟩, rfl⟩
        · go_wp2
          go_round
          case rel => exact ⟨k + 1, by omega, by go_num, _, rfl, by omega, by have := HR.out; have := HS.out; show _ = _; omega, by omega⟩
          case measure => simp [RowKit.intOf]; omega
      · go_wp2
        go_ret
        exact ⟨⟨r, rfl, .inr ⟨hr0, by have := HR.out; rw [List.take_of_length_le (by omega)] at this; exact this⟩⟩, rfl⟩

set_option maxHeartbeats 1000000 in
theorem toStringS_any (v : Value) (xs : List ByteArray) (w : World) (hr : RowAt w v (xs.map .string)) (hn : xs.length ≤ 1048576) :
    Calls Try.prog 130 #[v] w fun e w' => ∃ v', e = .returned v' ∧ w'.ownsRow w.heap.size 9 1 v' xs.length (xs.map .string) ∧ Below w.heap.size w w' := by
  obtain ⟨a, c, rfl, hc, hm, hcell⟩ := hr
  rw [List.length_map] at hc ⊢
  have HC := Lib.hid hcell
  clear hcell
  obtain ⟨i0, hi, hz0, hz1, hz2⟩ := info_parts infoString
  go_enter Try.func130, Try.ntmps130
  go_wp2_with (at_make; refine wpList_make_full _ rfl _ _ 26 rfl w.heap.size 9 i0 (.string ⟨#[]⟩) 1 Try.underlying26 hi hz0 hz1 .i64 .i64 (xs.length : Int) (xs.length : Int) xs.length rfl rfl rfl rfl ?c1 ?c2 ?c3 ?_)
  case c1 => rw [hz2]; omega
  case c2 => unfold maxLen; omega
  case c3 => exact Nat.le_refl _
  intro w1 hown hgrow
  have hbel : Below w.heap.size w w1 := (Below.refl _ _).grown hgrow (Nat.le_refl _) (fun k hk => by cases hk)
  have hzl := own_len hown
  generalize Array.toList (madeCells _ _) = z0 at *
  clear hgrow
  go_wp2
  go_loopw [4] (fun i wr => ∃ k : Nat, k ≤ xs.length ∧ i = .int .i64 k ∧ (∃ zs : List Value, zs.length = xs.length ∧ Hid (zs.take k = (xs.map Value.string).take k) ∧ wr.ownsRow w.heap.size 9 1 (.slice (some ⟨w.heap.size, 0, none⟩) xs.length xs.length) xs.length zs) ∧ Below w.heap.size w wr)
    (fun i _ => xs.length - (RowKit.intOf i).toNat)
  case atStart => exact ⟨0, Nat.zero_le _, rfl, ⟨z0, hzl, rfl, hown⟩, hbel⟩
  case round =>
    obtain ⟨k, hk, rfl, ⟨zs, hzs, HT, hown⟩, hbel⟩ := hrel
    by_cases hlt : k < xs.length
    · obtain ⟨b, off, rfl, hbl, hcx0⟩ := str_at HC.out k hlt
      have hcx : wr.cell? ⟨b, off + k, none⟩ = some (.string xs[k]) := by rw [hbel.cell (p := ⟨b, off + k, none⟩) hbl]; exact hcx0
      have hoc : wr.cell? ⟨w.heap.size, k, none⟩ = some (zs[k]'(by omega)) := by rw [hown.cellAt k (by omega)]; exact List.getElem?_eq_getElem _
      have hof := hown.frozenAt k
      have hown2 := (hown.stored k (.string xs[k])).1
      have HT2 : Hid ((zs.set k (.string xs[k])).take (k + 1) = (xs.map Value.string).take (k + 1)) := by
        have := take_set_succ zs (xs.map Value.string) k (by omega) (by simpa using hlt) HT.out
        show _ = _
        simpa using this
      clear hcx0 hown
      generalize zs[k] = old at *
      go_wp2
      go_roundw
      case rel => exact ⟨k + 1, by omega, by go_num, ⟨_, by simpa using hzs, HT2, hown2⟩, own_stored_below hbel (Nat.le_refl _)⟩
      case measure => simp [RowKit.intOf]; omega
    · go_wp2
      go_ret
      refine ⟨_, rfl, ?_, hbel⟩
      have := HT.out
      rw [List.take_of_length_le (by omega), List.take_of_length_le (by simp; omega)] at this
      rw [← this]; exact hown

set_option maxHeartbeats 1000000 in
theorem eqStringS_same (v v' : Value) (xs : List ByteArray) (w : World) (hr : RowAt w v (xs.map .string)) (hr' : RowAt w v' (xs.map .string)) (hn : xs.length ≤ 1048576) :
    Calls Try.prog 90 #[v, v'] w fun e w' => e = .returned (.bool true) ∧ ∃ m, w' = w.drewN m := by
  obtain ⟨a, c, rfl, hc, hm, hcell⟩ := hr
  obtain ⟨a', c', rfl, hc', hm', hcell'⟩ := hr'
  rw [List.length_map] at *
  have HC := Lib.hid hcell
  have HC' := Lib.hid hcell'
  clear hcell hcell'
  go_enter Try.func90, Try.ntmps90
  go_wp2
  go_loopw [5] (fun i wr => ∃ k : Nat, k ≤ xs.length ∧ i = .int .i64 k ∧ ∃ m, wr = w.drewN m)
    (fun i _ => xs.length - (RowKit.intOf i).toNat)
  case atStart => exact ⟨0, Nat.zero_le _, rfl, 0, rfl⟩
  case round =>
    obtain ⟨k, hk, rfl, m, rfl⟩ := hrel
    by_cases hlt : k < xs.length
    · obtain ⟨b, off, rfl, _, hcx⟩ := str_at HC.out k hlt
      obtain ⟨b', off', rfl, _, hcx'⟩ := str_at HC'.out k hlt
      generalize xs[k] = y at *
      have hk1 : (k : Int) < (xs.length : Int) := by omega
      have hyy : (y.toList == y.toList) = true := by simp
      go_wp2
      go_quiet (fail)
      go_wp2
      go_roundw
      case rel => exact ⟨k + 1, by omega, by go_num, _, rfl⟩
      case measure => simp [RowKit.intOf]; omega
    · go_wp2
      go_ret
      exact ⟨rfl, _, rfl⟩
end Go.Proofs.Ytffcgblionlhhaa
