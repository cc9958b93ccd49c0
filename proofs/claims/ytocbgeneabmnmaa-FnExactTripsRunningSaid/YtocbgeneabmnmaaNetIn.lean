/-
  PLAIN WORDS, of no program: networks that lie in blocks from l to u, untouched since they were made.
-/
import Derived.Test.YtocbgeneabmnmaaMarkLines
namespace Go.Proofs.Ytocbgeneabmnmaa
open Go.RowKit
set_option linter.unusedVariables false

theorem LineOwn.blocks {B : Nat} {w w' : World} {b o : Nat} {l : LineD} (h : LineOwn B w b o l) (hB : B ≤ b) (hb : ∀ q, B ≤ q → q < w.heap.size → w'.heap[q]? = w.heap[q]?) : LineOwn B w' b o l := by
  obtain ⟨sv, rv, c0, c1, c2, r1, r2, n⟩ := h
  have hbl : w'.heap[b]? = w.heap[b]? := hb b hB (World.block_lt_of_cell? w _ c0)
  have hc : ∀ o, w'.cell? ⟨b, o, none⟩ = w.cell? ⟨b, o, none⟩ := fun o => World.cell?_of_block (w := w) (a := ⟨b, o, none⟩) hbl
  exact ⟨sv, rv, (hc _).trans c0, (hc _).trans c1, (hc _).trans c2, own_block r1 (fun g hg => hb g (r1.lt g hg).1 (r1.lt g hg).2), own_block r2 (fun g hg => hb g (r2.lt g hg).1 (r2.lt g hg).2), n⟩
theorem LinesOwn.blocks {B : Nat} {w w' : World} {v : Value} {ls : List LineD} (h : LinesOwn B w v ls) (hb : ∀ q, B ≤ q → q < w.heap.size → w'.heap[q]? = w.heap[q]?) : LinesOwn B w' v ls := by
  obtain ⟨g, c, cur, hv, hg, hh, h1, h2, h3, h4, h5⟩ := h
  have hbl : w'.heap[g]? = w.heap[g]? := hb g hg (Array.getElem?_eq_some_iff.1 hh).1
  exact ⟨g, c, cur, hv, hg, hbl.trans hh, h1, h2, h3, fun k l hl => (h4 k l hl).blocks hg hb, h5.of_cells fun o => World.cell?_of_block (w := w) (a := ⟨g, o, none⟩) hbl⟩
theorem NetOwn.blocks {B : Nat} {w w' : World} {v : Value} {n : NetD} (h : NetOwn B w v n) (hb : ∀ q, B ≤ q → q < w.heap.size → w'.heap[q]? = w.heap[q]?) : NetOwn B w' v n := by
  obtain ⟨s, l, B1, hv, h1, h2, h3, h4⟩ := h
  exact ⟨s, l, B1, hv, own_block h1 (fun g hg => hb g (h1.lt g hg).1 (h1.lt g hg).2), h2.blocks (fun q hq => hb q (by omega)), h3, h4⟩
theorem NetOwn.base {B B' : Nat} {w : World} {v : Value} {n : NetD} (h : NetOwn B w v n) (hB : B' ≤ B) : NetOwn B' w v n := by
  obtain ⟨s, l, B1, hv, h1, h2, h3, h4⟩ := h
  exact ⟨s, l, B1, hv, own_base h1 hB, h2, by omega, h4⟩
theorem LineShape.blocks {B hi : Nat} {w w' : World} {g o p q : Nat} (h : LineShape B hi w g o p q) (hB : B ≤ g) (hgh : g < hi) (hb : ∀ q, B ≤ q → q < hi → q < w.heap.size → w'.heap[q]? = w.heap[q]?) : LineShape B hi w' g o p q := by
  obtain ⟨nm, sv, rv, s, r, c0, c1, c2, e1, e2, r1, r2, n1, n2, b1, b2⟩ := h
  have hbl : w'.heap[g]? = w.heap[g]? := hb g hB hgh (World.block_lt_of_cell? w _ c0)
  have hc : ∀ o, w'.cell? ⟨g, o, none⟩ = w.cell? ⟨g, o, none⟩ := fun o => World.cell?_of_block (w := w) (a := ⟨g, o, none⟩) hbl
  exact ⟨nm, sv, rv, s, r, (hc _).trans c0, (hc _).trans c1, (hc _).trans c2, e1, e2, own_block r1 (fun g hg => hb g (r1.lt g hg).1 (b1 g hg) (r1.lt g hg).2), own_block r2 (fun g hg => hb g (r2.lt g hg).1 (b2 g hg) (r2.lt g hg).2), n1, n2, b1, b2⟩
theorem LinesShape.blocks {B hi : Nat} {w w' : World} {v : Value} {ls : List LineD} (h : LinesShape B hi w v ls) (hb : ∀ q, B ≤ q → q < hi → q < w.heap.size → w'.heap[q]? = w.heap[q]?) : LinesShape B hi w' v ls := by
  obtain ⟨g, c, cur, hv, hg, hgh, hh, h1, h2, h3, h5⟩ := h
  have hbl : w'.heap[g]? = w.heap[g]? := hb g hg hgh (Array.getElem?_eq_some_iff.1 hh).1
  exact ⟨g, c, cur, hv, hg, hgh, hbl.trans hh, h1, h2, fun j hj => (h3 j hj).blocks hg hgh hb, h5.of_cells fun o => World.cell?_of_block (w := w) (a := ⟨g, o, none⟩) hbl⟩
theorem NetShape.blocks {B hi : Nat} {w w' : World} {v : Value} {n : NetD} (h : NetShape B hi w v n) (hb : ∀ q, B ≤ q → q < hi → q < w.heap.size → w'.heap[q]? = w.heap[q]?) : NetShape B hi w' v n := by
  obtain ⟨s, l, B1, hv, h1, h2, h3, h4, h5⟩ := h
  exact ⟨s, l, B1, hv, own_block h1 (fun g hg => hb g (h1.lt g hg).1 (by have := h5 g hg; omega) (h1.lt g hg).2), h2.blocks (fun q hq => hb q (by omega)), h3, h4, h5⟩

/-- a network in blocks from l to u, its rows made -/
def NetInB (l u : Nat) (w : World) (v : Value) (n : NetD) : Prop := ∃ w0 l0, l ≤ l0 ∧ NetOwn l0 w0 v n ∧ w0.heap.size ≤ u ∧ w0.heap.size ≤ w.heap.size ∧ ∀ q, l0 ≤ q → q < w0.heap.size → w.heap[q]? = w0.heap[q]?
theorem NetInB.own {l u : Nat} {w : World} {v : Value} {n : NetD} (h : NetInB l u w v n) : NetOwn l w v n := by
  obtain ⟨w0, l0, h1, h2, h3, h4, h5⟩ := h
  exact (h2.blocks h5).base h1
theorem NetInB.at {l u : Nat} {w : World} {v : Value} {n : NetD} (h : NetInB l u w v n) : NetAt w v n := h.own.at
theorem NetInB.mk {l : Nat} {w : World} {v : Value} {n : NetD} (h : NetOwn l w v n) : NetInB l w.heap.size w v n := ⟨w, l, Nat.le_refl _, h, Nat.le_refl _, Nat.le_refl _, fun _ _ _ => rfl⟩
theorem NetInB.later {l u : Nat} {w w' : World} {v : Value} {n : NetD} (h : NetInB l u w v n) (hb : Below w.heap.size w w') : NetInB l u w' v n := by
  obtain ⟨w0, l0, h1, h2, h3, h4, h5⟩ := h
  exact ⟨w0, l0, h1, h2, h3, Nat.le_trans h4 hb.size, fun q hq hl => (hb.block q (by omega)).trans (h5 q hq hl)⟩
theorem NetInB.keep {l u : Nat} {w w' : World} {v : Value} {n : NetD} (h : NetInB l u w v n) (hz : w.heap.size ≤ w'.heap.size) (hq : ∀ q, l ≤ q → q < u → q < w.heap.size → w'.heap[q]? = w.heap[q]?) : NetInB l u w' v n := by
  obtain ⟨w0, l0, h1, h2, h3, h4, h5⟩ := h
  exact ⟨w0, l0, h1, h2, h3, Nat.le_trans h4 hz, fun q h6 h7 => (hq q (by omega) (by omega) (by omega)).trans (h5 q h6 h7)⟩
theorem NetInB.base {l l' u u' : Nat} {w : World} {v : Value} {n : NetD} (h : NetInB l u w v n) (hl : l' ≤ l) (hu : u ≤ u') : NetInB l' u' w v n := by
  obtain ⟨w0, l0, h1, h2, h3, h4, h5⟩ := h
  exact ⟨w0, l0, by omega, h2, by omega, h4, h5⟩
theorem NetInB.shape {l u : Nat} {w : World} {v : Value} {n : NetD} (h : NetInB l u w v n) : ∃ l0 u0, l ≤ l0 ∧ u0 ≤ u ∧ u0 ≤ w.heap.size ∧ NetShape l0 u0 w v n := by
  obtain ⟨w0, l0, h1, h2, h3, h4, h5⟩ := h
  exact ⟨l0, w0.heap.size, h1, h3, h4, (h2.shape (Nat.le_refl _)).blocks (fun q hq hl _ => h5 q hq hl)⟩

/-- a network in blocks from l to u, or the zero value -/
def NetIn (l u : Nat) (w : World) (v : Value) (n : NetD) : Prop := NetInB l u w v n ∨ (v = .agg #[.slice none 0 0, .slice none 0 0] ∧ n = ⟨[], []⟩)
theorem netAt_zero (w : World) : NetAt w (.agg #[.slice none 0 0, .slice none 0 0]) ⟨[], []⟩ :=
  ⟨_, _, rfl, ⟨none, 0, rfl, Nat.le_refl _, by decide, fun k u hu => by simp [strs] at hu⟩, ⟨none, 0, rfl, Nat.le_refl _, by decide, fun k u hu => by simp at hu⟩⟩
theorem NetIn.at {l u : Nat} {w : World} {v : Value} {n : NetD} (h : NetIn l u w v n) : NetAt w v n := by
  rcases h with h | ⟨rfl, rfl⟩
  · exact h.at
  · exact netAt_zero w
theorem NetIn.mk {l : Nat} {w : World} {v : Value} {n : NetD} (h : NetOwn l w v n) : NetIn l w.heap.size w v n := .inl (.mk h)
theorem NetIn.zero (l u : Nat) (w : World) : NetIn l u w (.agg #[.slice none 0 0, .slice none 0 0]) ⟨[], []⟩ := .inr ⟨rfl, rfl⟩
theorem NetIn.later {l u : Nat} {w w' : World} {v : Value} {n : NetD} (h : NetIn l u w v n) (hb : Below w.heap.size w w') : NetIn l u w' v n := h.imp (·.later hb) id
theorem NetIn.keep {l u : Nat} {w w' : World} {v : Value} {n : NetD} (h : NetIn l u w v n) (hz : w.heap.size ≤ w'.heap.size) (hq : ∀ q, l ≤ q → q < u → q < w.heap.size → w'.heap[q]? = w.heap[q]?) : NetIn l u w' v n := h.imp (·.keep hz hq) id
theorem NetIn.out {l u lo hi : Nat} {w w' : World} {v : Value} {n : NetD} (h : NetIn l u w v n) (ho : Out lo hi w w') (hs : u ≤ lo ∨ hi ≤ l) : NetIn l u w' v n :=
  h.keep ho.below.size fun q h1 h2 h3 => ho.block (by omega) h3
theorem NetIn.base {l l' u u' : Nat} {w : World} {v : Value} {n : NetD} (h : NetIn l u w v n) (hl : l' ≤ l) (hu : u ≤ u') : NetIn l' u' w v n := h.imp (·.base hl hu) id
theorem Out.wide {lo hi lo' hi' : Nat} {w w' : World} (h : Out lo hi w w') (h1 : lo' ≤ lo) (h2 : hi ≤ hi') : Out lo' hi' w w' := ⟨h.below.mono h1, fun b h3 h4 => h.above b (by omega) h4⟩
end Go.Proofs.Ytocbgeneabmnmaa
