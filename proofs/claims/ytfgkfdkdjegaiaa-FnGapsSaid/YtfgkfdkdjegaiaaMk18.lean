/-
  JOINED TEXTS, each under its own namespace line: NetIn, StrsX.
-/
import Derived.Test.YtfgkfdkdjegaiaaMk17
import Derived.Test.YtfgkfdkdjegaiaaMk10
namespace Go.Proofs.Ytfgkfdkdjegaiaa
open Go.RowKit
set_option linter.unusedVariables false

theorem LineOwn.blocks {B : Nat} {w w' : World} {b o : Nat} {l : LineD} (h : LineOwn B w b o l) (hB : B ≤ b) (hb : ∀ q, B ≤ q → q < w.heap.size → w'.heap[q]? = w.heap[q]?) : LineOwn B w' b o l := by
  obtain ⟨sv, rv, c0, c1, c2, r1, r2, n⟩ := h
  have hbl : w'.heap[b]? = w.heap[b]? := hb b hB (World.block_lt_of_cell? w _ c0)
  have hc : ∀ o, w'.cell? ⟨b, o, none⟩ = w.cell? ⟨b, o, none⟩ := fun o => World.cell?_of_block (w := w) (a := ⟨b, o, none⟩) hbl
  exact ⟨sv, rv, (hc _).trans c0, (hc _).trans c1, (hc _).trans c2, own_block r1 (fun g hg => hb g (r1.lt g hg).1 (r1.lt g hg).2), own_block r2 (fun g hg => hb g (r2.lt g hg).1 (r2.lt g hg).2), n⟩
theorem LinesOwn.blocks {B : Nat} {w w' : World} {v : Value} {ls : List LineD} (h : LinesOwn B w v ls) (hb : ∀ q, B ≤ q → q < w.heap.size → w'.heap[q]? = w.heap[q]?) : LinesOwn B w' v ls := by
  obtain ⟨g, c, cur, hv, hg, hh, h1, h2, h3, h4, h5⟩ := h
  have hbl : w'.heap[g]? = w.heap[g]? := hb g hg (Array.getElem?_eq_some_iff.1 hh).1
  exact ⟨g, c, cur, hv, hg, hbl.trans hh, h1, h2, h3, fun k l hl => (h4 k l hl).blocks hg hb, h5.of_cells fun o => World.cell?_of_block (w := w) (a := ⟨g, o, none⟩) hbl⟩
theorem NetOwn.blocks {B : Nat} {w w' : World} {v : Value} {n : NetD} (h : NetOwn B w v n) (hb : ∀ q, B ≤ q → q < w.heap.size → w'.heap[q]? = w.heap[q]?) : NetOwn B w' v n := by
  obtain ⟨s, l, B1, hv, h1, h2, h3, h4⟩ := h
  exact ⟨s, l, B1, hv, own_block h1 (fun g hg => hb g (h1.lt g hg).1 (h1.lt g hg).2), h2.blocks (fun q hq => hb q (by omega)), h3, h4⟩
theorem NetOwn.base {B B' : Nat} {w : World} {v : Value} {n : NetD} (h : NetOwn B w v n) (hB : B' ≤ B) : NetOwn B' w v n := by
  obtain ⟨s, l, B1, hv, h1, h2, h3, h4⟩ := h
  exact ⟨s, l, B1, hv, own_base h1 hB, h2, by omega, h4⟩
theorem LineShape.blocks {B hi : Nat} {w w' : World} {g o p q : Nat} (h : LineShape B hi w g o p q) (hB : B ≤ g) (hgh : g < hi) (hb : ∀ q, B ≤ q → q < hi → q < w.heap.size → w'.heap[q]? = w.heap[q]?) : LineShape B hi w' g o p q := by
  obtain ⟨nm, sv, rv, s, r, c0, c1, c2, e1, e2, r1, r2, n1, n2, b1, b2⟩ := h
  have hbl : w'.heap[g]? = w.heap[g]? := hb g hB hgh (World.block_lt_of_cell? w _ c0)
  have hc : ∀ o, w'.cell? ⟨g, o, none⟩ = w.cell? ⟨g, o, none⟩ := fun o => World.cell?_of_block (w := w) (a := ⟨g, o, none⟩) hbl
  exact ⟨nm, sv, rv, s, r, (hc _).trans c0, (hc _).trans c1, (hc _).trans c2, e1, e2, own_block r1 (fun g hg => hb g (r1.lt g hg).1 (b1 g hg) (r1.lt g hg).2), own_block r2 (fun g hg => hb g (r2.lt g hg).1 (b2 g hg) (r2.lt g hg).2), n1, n2, b1, b2⟩
theorem LinesShape.blocks {B hi : Nat} {w w' : World} {v : Value} {ls : List LineD} (h : LinesShape B hi w v ls) (hb : ∀ q, B ≤ q → q < hi → q < w.heap.size → w'.heap[q]? = w.heap[q]?) : LinesShape B hi w' v ls := by
  obtain ⟨g, c, cur, hv, hg, hgh, hh, h1, h2, h3, h5⟩ := h
  have hbl : w'.heap[g]? = w.heap[g]? := hb g hg hgh (Array.getElem?_eq_some_iff.1 hh).1
  exact ⟨g, c, cur, hv, hg, hgh, hbl.trans hh, h1, h2, fun j hj => (h3 j hj).blocks hg hgh hb, h5.of_cells fun o => World.cell?_of_block (w := w) (a := ⟨g, o, none⟩) hbl⟩
theorem NetShape.blocks {B hi : Nat} {w w' : World} {v : Value} {n : NetD} (h : NetShape B hi w v n) (hb : ∀ q, B ≤ q → q < hi → q < w.heap.size → w'.heap[q]? = w.heap[q]?) : NetShape B hi w' v n := by
  obtain ⟨s, l, B1, hv, h1, h2, h3, h4, h5⟩ := h
  exact ⟨s, l, B1, hv, own_block h1 (fun g hg => hb g (h1.lt g hg).1 (by have := h5 g hg; omega) (h1.lt g hg).2), h2.blocks (fun q hq => hb q (by omega)), h3, h4, h5⟩

theorem Out.wide {lo hi lo' hi' : Nat} {w w' : World} (h : Out lo hi w w') (h1 : lo' ≤ lo) (h2 : hi ≤ hi') : Out lo' hi' w w' := ⟨h.below.mono h1, fun b h3 h4 => h.above b (by omega) h4⟩
end Go.Proofs.Ytfgkfdkdjegaiaa

namespace Go.Proofs.Ytfgkfdkdjegaiaa
open Go.RowKit
set_option linter.unusedVariables false

def StrsSmall (xs : List ByteArray) : Prop := xs.length ≤ 1048576
/-- a row of strings of the call's own, in a block from l to u -/
def StrsIn (l u : Nat) (w : World) (v : Value) (xs : List ByteArray) : Prop := w.ownsRow l 9 1 v xs.length (strs xs) ∧ ∀ g, v.ownBlock = some g → g < u
theorem StrsIn.at {l u : Nat} {w : World} {v : Value} {xs : List ByteArray} (h : StrsIn l u w v xs) : RowAt w v (strs xs) := rowAt_own h.1
theorem StrsIn.lo {l u : Nat} {w : World} {v : Value} {xs : List ByteArray} (h : StrsIn l u w v xs) (g : Nat) (hg : v.ownBlock = some g) : l ≤ g := (h.1.lt g hg).1
theorem StrsIn.later {l u : Nat} {w w' : World} {v : Value} {xs : List ByteArray} (h : StrsIn l u w v xs) (hb : Below w.heap.size w w') : StrsIn l u w' v xs := ⟨own_later h.1 hb, h.2⟩
theorem StrsIn.out {l u lo hi : Nat} {w w' : World} {v : Value} {xs : List ByteArray} (h : StrsIn l u w v xs) (ho : Out lo hi w w') (hs : u ≤ lo ∨ hi ≤ l) : StrsIn l u w' v xs :=
  ⟨own_out h.1 ho (fun g hg => by have := h.2 g hg; have := h.lo g hg; omega), h.2⟩
theorem StrsIn.mk {l : Nat} {w : World} {v : Value} {xs : List ByteArray} (h : w.ownsRow l 9 1 v xs.length (strs xs)) : StrsIn l w.heap.size w v xs := ⟨h, fun g hg => (h.lt g hg).2⟩
theorem StrsIn.base {l l' u u' : Nat} {w : World} {v : Value} {xs : List ByteArray} (h : StrsIn l u w v xs) (hl : l' ≤ l) (hu : u ≤ u') : StrsIn l' u' w v xs := ⟨own_base h.1 hl, fun g hg => Nat.lt_of_lt_of_le (h.2 g hg) hu⟩
theorem StringS_open {w : World} {v : Value} {xs : List ByteArray} (h : RowAt w v (strs xs)) : ∃ a c, v = .slice a xs.length c := by
  obtain ⟨a, c, hv, _⟩ := h
  rw [strs_len] at hv
  exact ⟨a, c, hv⟩

theorem eqStringS_x (v v' : Value) (xs : List ByteArray) (w : World) (hr : RowAt w v (strs xs)) (hr' : RowAt w v' (strs xs)) (hs : StrsSmall xs) :
    Calls Try.prog 89 #[v, v'] w fun e w' => e = .returned (.bool true) ∧ Below w.heap.size w w' :=
  (eqStringS_same v v' xs w hr hr' hs).mono fun e w' ⟨he, m, hm⟩ => ⟨he, Dr.below ⟨m, hm⟩⟩

/-- strings that hold marks from k on -/
def StrsMk (k : Int) (w : World) (v : Value) (xs : List ByteArray) : Prop := RowAt w v (strs (marksL k.toNat xs.length))
theorem StrsMk.later {k : Int} {w w' : World} {v : Value} {xs : List ByteArray} (h : StrsMk k w v xs) (hb : Below w.heap.size w w') : StrsMk k w' v xs := RowAt.below h rfl hb

theorem markStringS_x (v : Value) (xs : List ByteArray) (k : Int) (l u : Nat) (w : World) (hr : StrsIn l u w v xs) (hl : l ≤ w.heap.size) (hs : StrsSmall xs) (hk0 : 0 < k) (hk : k ≤ 4194304) :
    Calls Try.prog 92 #[v, .int .i64 k] w fun e w' => e = .returned (.int .i64 (k + (xs.length : Int))) ∧ StrsMk k w' v xs ∧ w.grownBy w' v.ownBlock ∧ Out l u w w' := by
  obtain ⟨n, rfl⟩ := Int.eq_ofNat_of_zero_le (Int.le_of_lt hk0)
  exact (markStringS_own v xs n l w hr.1 hs (by omega) (by omega)).mono fun e w' ⟨he, ho, hg⟩ => ⟨by rw [he]; simp, by rw [StrsMk, Int.toNat_natCast]; exact rowAt_own (n := xs.length) ho, hg, Out.of_grown hg hl (fun g hg' => ⟨hr.lo g hg', hr.2 g hg'⟩)⟩

end Go.Proofs.Ytfgkfdkdjegaiaa
