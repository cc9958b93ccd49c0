/-
  JOINED TEXTS, each under its own namespace line: NetIn, LinesMk.
-/
import Derived.Test.YtehpeifaknbcnaaMk24
import Derived.Test.YtehpeifaknbcnaaText
import Derived.Test.YtehpeifaknbcnaaMk01
import Derived.Lib.ItoaNum
import Derived.Lib.ItoaLen
import Derived.Lib.IndexMore
import Derived.Laws.Concat
import Derived.Laws.Strings
import Derived.Laws.IdiomStrings
import Derived.Deep.RegionHeld3
import Derived.BigQuiet
import Derived.Laws.Entries
import Derived.Test.YtehpeifaknbcnaaMk04
namespace Go.Proofs.Ytehpeifaknbcnaa
open Go.RowKit
set_option linter.unusedVariables false

theorem LineOwn.blocks {B : Nat} {w w' : World} {b o : Nat} {l : LineD} (h : LineOwn B w b o l) (hB : B ≤ b) (hb : ∀ q, B ≤ q → q < w.heap.size → w'.heap[q]? = w.heap[q]?) : LineOwn B w' b o l := by
  obtain ⟨sv, rv, c0, c1, c2, r1, r2, n⟩ := h
  have hbl : w'.heap[b]? = w.heap[b]? := hb b hB (World.block_lt_of_cell? w _ c0)
  have hc : ∀ o, w'.cell? ⟨b, o, none⟩ = w.cell? ⟨b, o, none⟩ := fun o => World.cell?_of_block (w := w) (a := ⟨b, o, none⟩) hbl
  exact ⟨sv, rv, (hc _).trans c0, (hc _).trans c1, (hc _).trans c2, own_block r1 (fun g hg => hb g (r1.lt g hg).1 (r1.lt g hg).2), own_block r2 (fun g hg => hb g (r2.lt g hg).1 (r2.lt g hg).2), n⟩
theorem LinesOwn.blocks {B : Nat} {w w' : World} {v : Value} {ls : List LineD} (h : LinesOwn B w v ls) (hb : ∀ q, B ≤ q → q < w.heap.size → w'.heap[q]? = w.heap[q]?) : LinesOwn B w' v ls := by
  obtain ⟨g, c, cur, hv, hg, hh, h1, h2, h3, h4, h5⟩ := h
  have hbl : w'.heap[g]? = w.heap[g]? := hb g hg (Array.getElem?_eq_some_iff.1 hh).1
  exact ⟨g, c, cur, hv, hg, hbl.trans hh, h1, h2, h3, fun k l hl => (h4 k l hl).blocks hg hb, h5.of_cells fun o => World.cell?_of_block (w := w) (a := ⟨g, o, none⟩) hbl⟩
theorem NetOwn.blocks {B : Nat} {w w' : World} {v : Value} {n : NetD} (h : NetOwn B w v n) (hb : ∀ q, B ≤ q → q < w.heap.size → w'.heap[q]? = w.heap[q]?) : NetOwn B w' v n := by
  obtain ⟨s, l, B1, hv, h1, h2, h3, h4⟩ := h
  exact ⟨s, l, B1, hv, own_block h1 (fun g hg => hb g (h1.lt g hg).1 (h1.lt g hg).2), h2.blocks (fun q hq => hb q (by omega)), h3, h4⟩
theorem NetOwn.base {B B' : Nat} {w : World} {v : Value} {n : NetD} (h : NetOwn B w v n) (hB : B' ≤ B) : NetOwn B' w v n := by
  obtain ⟨s, l, B1, hv, h1, h2, h3, h4⟩ := h
  exact ⟨s, l, B1, hv, own_base h1 hB, h2, by omega, h4⟩
theorem LineShape.blocks {B hi : Nat} {w w' : World} {g o p q : Nat} (h : LineShape B hi w g o p q) (hB : B ≤ g) (hgh : g < hi) (hb : ∀ q, B ≤ q → q < hi → q < w.heap.size → w'.heap[q]? = w.heap[q]?) : LineShape B hi w' g o p q := by
  obtain ⟨nm, sv, rv, s, r, c0, c1, c2, e1, e2, r1, r2, n1, n2, b1, b2⟩ := h
  have hbl : w'.heap[g]? = w.heap[g]? := hb g hB hgh (World.block_lt_of_cell? w _ c0)
  have hc : ∀ o, w'.cell? ⟨g, o, none⟩ = w.cell? ⟨g, o, none⟩ := fun o => World.cell?_of_block (w := w) (a := ⟨g, o, none⟩) hbl
  exact ⟨nm, sv, rv, s, r, (hc _).trans c0, (hc _).trans c1, (hc _).trans c2, e1, e2, own_block r1 (fun g hg => hb g (r1.lt g hg).1 (b1 g hg) (r1.lt g hg).2), own_block r2 (fun g hg => hb g (r2.lt g hg).1 (b2 g hg) (r2.lt g hg).2), n1, n2, b1, b2⟩
theorem LinesShape.blocks {B hi : Nat} {w w' : World} {v : Value} {ls : List LineD} (h : LinesShape B hi w v ls) (hb : ∀ q, B ≤ q → q < hi → q < w.heap.size → w'.heap[q]? = w.heap[q]?) : LinesShape B hi w' v ls := by
  obtain ⟨g, c, cur, hv, hg, hgh, hh, h1, h2, h3, h5⟩ := h
  have hbl : w'.heap[g]? = w.heap[g]? := hb g hg hgh (Array.getElem?_eq_some_iff.1 hh).1
  exact ⟨g, c, cur, hv, hg, hgh, hbl.trans hh, h1, h2, fun j hj => (h3 j hj).blocks hg hgh hb, h5.of_cells fun o => World.cell?_of_block (w := w) (a := ⟨g, o, none⟩) hbl⟩
theorem NetShape.blocks {B hi : Nat} {w w' : World} {v : Value} {n : NetD} (h : NetShape B hi w v n) (hb : ∀ q, B ≤ q → q < hi → q < w.heap.size → w'.heap[q]? = w.heap[q]?) : NetShape B hi w' v n := by
  obtain ⟨s, l, B1, hv, h1, h2, h3, h4, h5⟩ := h
  exact ⟨s, l, B1, hv, own_block h1 (fun g hg => hb g (h1.lt g hg).1 (by have := h5 g hg; omega) (h1.lt g hg).2), h2.blocks (fun q hq => hb q (by omega)), h3, h4, h5⟩

end Go.Proofs.Ytehpeifaknbcnaa

namespace Go.Proofs.Ytehpeifaknbcnaa
open Go.RowKit
set_option linter.unusedVariables false

theorem row_grown {w w' : World} {v : Value} {xs : List Value} {row : Option Nat} (h : RowAt w v xs) (hg : w.grownBy w' row) (hne : v.ownBlock = none ∨ v.ownBlock ≠ row) : RowAt w' v xs := by
  obtain ⟨a, c, hv, h1, h2, h3⟩ := h
  refine ⟨a, c, hv, h1, h2, fun k u hu => ?_⟩
  obtain ⟨b, off, ha, hlt, hc⟩ := h3 k u hu
  have ho : v.ownBlock = some b := by rw [hv, ha]; rfl
  refine ⟨b, off, ha, Nat.lt_of_lt_of_le hlt hg.size, gcell hg hc (fun e => ?_)⟩
  rcases hne with h0 | h0
  · rw [ho] at h0; cases h0
  · exact h0 (by rw [ho, e])
theorem LineAt.grown {w w' : World} {g o : Nat} {l : LineD} {row : Option Nat} (h : LineAt w g o l) (hg : w.grownBy w' row) (hne : row ≠ some g)
    (hs : ∀ v i, (i = 1 ∨ i = 2) → w.cell? ⟨g, o + i, none⟩ = some v → v.ownBlock = none ∨ v.ownBlock ≠ row) : LineAt w' g o l := by
  obtain ⟨sv, rv, c0, c1, c2, r1, r2⟩ := h
  exact ⟨sv, rv, gcell hg c0 hne, gcell hg c1 hne, gcell hg c2 hne, row_grown r1 hg (hs sv 1 (.inl rfl) c1), row_grown r2 hg (hs rv 2 (.inr rfl) c2)⟩
theorem row_keep {w W : World} {v : Value} {xs : List Value} (h : RowAt w v xs) (hz : w.heap.size ≤ W.heap.size) (hb : ∀ b, v.ownBlock = some b → b < w.heap.size → W.heap[b]? = w.heap[b]?) : RowAt W v xs := by
  obtain ⟨a, c, hv, h1, h2, h3⟩ := h
  refine ⟨a, c, hv, h1, h2, fun k u hu => ?_⟩
  obtain ⟨b, off, ha, hlt, hc⟩ := h3 k u hu
  have ho : v.ownBlock = some b := by rw [hv, ha]; rfl
  exact ⟨b, off, ha, Nat.lt_of_lt_of_le hlt hz, by rw [World.cell?_of_block (w := w) (a := ⟨b, off + k, none⟩) (hb b ho hlt)]; exact hc⟩
theorem LineAt.keepIn {B hi : Nat} {w W : World} {g o p q : Nat} {l : LineD} (h : LineAt w g o l) (hsh : LineShape B hi w g o p q) (hg : B ≤ g) (hgh : g < hi) (hgw : g < w.heap.size) (hz : w.heap.size ≤ W.heap.size) (hq : ∀ q, B ≤ q → q < hi → q < w.heap.size → W.heap[q]? = w.heap[q]?) : LineAt W g o l := by
  obtain ⟨sv, rv, c0, c1, c2, r1, r2⟩ := h
  obtain ⟨nm, sv', rv', s, r, d0, d1, d2, _, _, o1, o2, n1, n2, b1, b2⟩ := hsh
  have e1 : sv' = sv := by rw [c1] at d1; exact (Option.some.inj d1).symm
  have e2 : rv' = rv := by rw [c2] at d2; exact (Option.some.inj d2).symm
  subst e1; subst e2
  have hc : ∀ o, W.cell? ⟨g, o, none⟩ = w.cell? ⟨g, o, none⟩ := fun o => World.cell?_of_block (w := w) (a := ⟨g, o, none⟩) (hq g hg hgh hgw)
  exact ⟨sv', rv', (hc _).trans c0, (hc _).trans c1, (hc _).trans c2, row_keep r1 hz (fun b hb hlt => hq b (o1.lt b hb).1 (b1 b hb) hlt), row_keep r2 hz (fun b hb hlt => hq b (o2.lt b hb).1 (b2 b hb) hlt)⟩
end Go.Proofs.Ytehpeifaknbcnaa
