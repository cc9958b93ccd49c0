import Derived.Test.YtehpeifaknbcnaaNetIn
import Derived.Test.YtehpeifaknbcnaaText
import Derived.Test.YtehpeifaknbcnaaPlain1
import Derived.Lib.ItoaNum
import Derived.Lib.ItoaLen
import Derived.Lib.IndexMore
import Derived.Laws.Concat
import Derived.Laws.Strings
import Derived.Laws.IdiomStrings
import Derived.Deep.RegionHeld3
import Derived.BigQuiet
import Derived.Laws.Entries
import Derived.Test.YtehpeifaknbcnaaIntsX
namespace Go.Proofs.Ytehpeifaknbcnaa
open Go.RowKit
set_option linter.unusedVariables false

theorem row_grown {w w' : World} {v : Value} {xs : List Value} {row : Option Nat} (h : RowAt w v xs) (hg : w.grownBy w' row) (hne : v.ownBlock = none ∨ v.ownBlock ≠ row) : RowAt w' v xs := by
  obtain ⟨a, c, hv, h1, h2, h3⟩ := h
  refine ⟨a, c, hv, h1, h2, fun k u hu => ?_⟩
  obtain ⟨b, off, ha, hlt, hc⟩ := h3 k u hu
  have ho : v.ownBlock = some b := by rw [hv, ha]; rfl
  refine ⟨b, off, ha, Nat.lt_of_lt_of_le hlt hg.size, gcell hg hc (fun e => ?_)⟩
  rcases hne with h0 | h0
  · rw [ho] at h0; cases h0
  · exact h0 (by rw [ho, e])
theorem LineAt.grown {w w' : World} {g o : Nat} {l : LineD} {row : Option Nat} (h : LineAt w g o l) (hg : w.grownBy w' row) (hne : row ≠ some g)
    (hs : ∀ v i, (i = 1 ∨ i = 2) → w.cell? ⟨g, o + i, none⟩ = some v → v.ownBlock = none ∨ v.ownBlock ≠ row) : LineAt w' g o l := by
  obtain ⟨sv, rv, c0, c1, c2, r1, r2⟩ := h
  exact ⟨sv, rv, gcell hg c0 hne, gcell hg c1 hne, gcell hg c2 hne, row_grown r1 hg (hs sv 1 (.inl rfl) c1), row_grown r2 hg (hs rv 2 (.inr rfl) c2)⟩
theorem row_keep {w W : World} {v : Value} {xs : List Value} (h : RowAt w v xs) (hz : w.heap.size ≤ W.heap.size) (hb : ∀ b, v.ownBlock = some b → b < w.heap.size → W.heap[b]? = w.heap[b]?) : RowAt W v xs := by
  obtain ⟨a, c, hv, h1, h2, h3⟩ := h
  refine ⟨a, c, hv, h1, h2, fun k u hu => ?_⟩
  obtain ⟨b, off, ha, hlt, hc⟩ := h3 k u hu
  have ho : v.ownBlock = some b := by rw [hv, ha]; rfl
  exact ⟨b, off, ha, Nat.lt_of_lt_of_le hlt hz, by rw [World.cell?_of_block (w := w) (a := ⟨b, off + k, none⟩) (hb b ho hlt)]; exact hc⟩
theorem LineAt.keepIn {B hi : Nat} {w W : World} {g o p q : Nat} {l : LineD} (h : LineAt w g o l) (hsh : LineShape B hi w g o p q) (hg : B ≤ g) (hgh : g < hi) (hgw : g < w.heap.size) (hz : w.heap.size ≤ W.heap.size) (hq : ∀ q, B ≤ q → q < hi → q < w.heap.size → W.heap[q]? = w.heap[q]?) : LineAt W g o l := by
  obtain ⟨sv, rv, c0, c1, c2, r1, r2⟩ := h
  obtain ⟨nm, sv', rv', s, r, d0, d1, d2, _, _, o1, o2, n1, n2, b1, b2⟩ := hsh
  have e1 : sv' = sv := by rw [c1] at d1; exact (Option.some.inj d1).symm
  have e2 : rv' = rv := by rw [c2] at d2; exact (Option.some.inj d2).symm
  subst e1; subst e2
  have hc : ∀ o, W.cell? ⟨g, o, none⟩ = w.cell? ⟨g, o, none⟩ := fun o => World.cell?_of_block (w := w) (a := ⟨g, o, none⟩) (hq g hg hgh hgw)
  exact ⟨sv', rv', (hc _).trans c0, (hc _).trans c1, (hc _).trans c2, row_keep r1 hz (fun b hb hlt => hq b (o1.lt b hb).1 (b1 b hb) hlt), row_keep r2 hz (fun b hb hlt => hq b (o2.lt b hb).1 (b2 b hb) hlt)⟩
end Go.Proofs.Ytehpeifaknbcnaa
