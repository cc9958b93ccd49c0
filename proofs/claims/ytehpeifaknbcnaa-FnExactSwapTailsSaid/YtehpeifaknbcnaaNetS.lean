import Derived.Test.YtehpeifaknbcnaaLinesMk
namespace Go.Proofs.Ytehpeifaknbcnaa
open Go.RowKit
set_option linter.unusedVariables false

def LinesClear (w : World) (v : Value) (x : Nat) : Prop := ∀ g n c, v = .slice (some ⟨g, 0, none⟩) n c → x ≠ g ∧ ∀ j i v', j < n → (i = 1 ∨ i = 2) → w.cell? ⟨g, j * 3 + i, none⟩ = some v' → v'.ownBlock ≠ some x
theorem LineShape.base {B hi B' hi' : Nat} {w : World} {g o p q : Nat} (h : LineShape B hi w g o p q) (hB : B' ≤ B) (hh : hi ≤ hi') : LineShape B' hi' w g o p q := by
  obtain ⟨nm, sv, rv, s, r, c0, c1, c2, e1, e2, r1, r2, n1, n2, b1, b2⟩ := h
  exact ⟨nm, sv, rv, s, r, c0, c1, c2, e1, e2, own_base r1 hB, own_base r2 hB, n1, n2, fun b hb => Nat.lt_of_lt_of_le (b1 b hb) hh, fun b hb => Nat.lt_of_lt_of_le (b2 b hb) hh⟩
theorem LinesShape.base {B hi B' hi' : Nat} {w : World} {v : Value} {ls : List LineD} (h : LinesShape B hi w v ls) (hB : B' ≤ B) (hh : hi ≤ hi') : LinesShape B' hi' w v ls := by
  obtain ⟨g, c, cur, hv, hg, hgh, hblk, h1, h2, h3, h4⟩ := h
  exact ⟨g, c, cur, hv, by omega, by omega, hblk, h1, h2, fun j hj => (h3 j hj).base hB hh, h4⟩
theorem LinesShape.grownC {B hi : Nat} {w w' : World} {v : Value} {ls : List LineD} {row : Option Nat} (h : LinesShape B hi w v ls) (hg : w.grownBy w' row) (hr : ∀ b, row = some b → LinesClear w v b) : LinesShape B hi w' v ls := by
  obtain ⟨g, c, cur, hv, hgB, hgh, hh, h1, h2, h4, h5⟩ := h
  have hglt := (Array.getElem?_eq_some_iff.1 hh).1
  have hne : row ≠ some g := fun e => (hr g e g _ _ hv).1 rfl
  refine ⟨g, c, cur, hv, hgB, hgh, (hg.block g hglt (fun e => hne e.symm)).trans hh, h1, h2, fun j hj => (h4 j hj).grown hg hne (fun x i hi hc => ?_), h5.grown hg hne hglt⟩
  by_cases hx : x.ownBlock = none
  · exact .inl hx
  · refine .inr fun e => ?_
    obtain ⟨b, hb⟩ := Option.ne_none_iff_exists'.1 hx
    rw [hb] at e
    exact (hr b e.symm g _ _ hv).2 j i x hj hi hc hb
theorem LinesAt.keepIn {B hi : Nat} {w W : World} {v : Value} {ls : List LineD} (h : LinesAt w v ls) (hs : LinesShape B hi w v ls) (hz : w.heap.size ≤ W.heap.size) (hq : ∀ q, B ≤ q → q < hi → q < w.heap.size → W.heap[q]? = w.heap[q]?) : LinesAt W v ls := by
  obtain ⟨a, c, hv, h1, h2, h3⟩ := h
  obtain ⟨g, c', cur, hv', hg, hgh, hblk, _, _, hsh, _⟩ := hs
  have hgw := (Array.getElem?_eq_some_iff.1 hblk).1
  rw [hv] at hv'
  simp at hv'
  obtain ⟨rfl, rfl⟩ := hv'
  refine ⟨_, c, hv, h1, h2, fun k l hl => ?_⟩
  obtain ⟨b, off, ha, hlt, hla⟩ := h3 k l hl
  simp at ha
  obtain ⟨rfl, rfl⟩ := ha
  have hk := (List.getElem?_eq_some_iff.1 hl).1
  rw [Nat.zero_add] at hla
  exact ⟨g, 0, rfl, Nat.lt_of_lt_of_le hlt hz, by rw [Nat.zero_add]; exact hla.keepIn (hsh k hk) hg hgh hgw hz hq⟩

def NetS (l u : Nat) (w : World) (v : Value) (n : NetD) : Prop := ∃ s lv, v = .agg #[s, lv] ∧ w.ownsRow l 9 1 s n.stops.length (strs n.stops) ∧ (∀ b, s.ownBlock = some b → b < u) ∧ LinesShape l u w lv n.lines ∧ LinesAt w lv n.lines ∧ ∀ b, s.ownBlock = some b → LinesClear w lv b
theorem NetS.at {l u : Nat} {w : World} {v : Value} {n : NetD} (h : NetS l u w v n) : NetAt w v n := by
  obtain ⟨s, lv, hv, h1, _, _, h2, _⟩ := h
  exact ⟨s, lv, hv, rowAt_own h1, h2⟩
theorem NetS.keep {l u : Nat} {w w' : World} {v : Value} {n : NetD} (h : NetS l u w v n) (hz : w.heap.size ≤ w'.heap.size) (hq : ∀ q, l ≤ q → q < u → q < w.heap.size → w'.heap[q]? = w.heap[q]?) : NetS l u w' v n := by
  obtain ⟨s, lv, hv, h1, h2, h3, h4, h5⟩ := h
  refine ⟨s, lv, hv, own_block h1 (fun g hg => hq g (h1.lt g hg).1 (h2 g hg) (h1.lt g hg).2), h2, h3.blocks hq, h4.keepIn h3 hz hq, fun b hb g n' c hc => ?_⟩
  obtain ⟨e1, e2⟩ := h5 b hb g n' c hc
  refine ⟨e1, fun j i v' hj hi hcell => e2 j i v' hj hi ?_⟩
  obtain ⟨g', c', cur, hv', hg, hgh, hblk, _⟩ := h3
  rw [hc] at hv'
  simp at hv'
  obtain ⟨rfl, _, _⟩ := hv'
  rw [← World.cell?_of_block (w := w) (a := ⟨g, j * 3 + i, none⟩) (hq g hg hgh (Array.getElem?_eq_some_iff.1 hblk).1)]
  exact hcell
theorem NetS.base {l u l' u' : Nat} {w : World} {v : Value} {n : NetD} (h : NetS l u w v n) (hl : l' ≤ l) (hu : u ≤ u') : NetS l' u' w v n := by
  obtain ⟨s, lv, hv, h1, h2, h3, h4, h5⟩ := h
  exact ⟨s, lv, hv, own_base h1 hl, fun b hb => Nat.lt_of_lt_of_le (h2 b hb) hu, h3.base hl hu, h4, h5⟩
theorem NetOwn.s {B : Nat} {w : World} {v : Value} {n : NetD} (h : NetOwn B w v n) : NetS B w.heap.size w v n := by
  obtain ⟨s, lv, B1, hv, h1, h2, h3, h4⟩ := h
  refine ⟨s, lv, hv, h1, fun b hb => (h1.lt b hb).2, (h2.shape (Nat.le_refl _)).base h3 (Nat.le_refl _), h2.at, fun b hb g n' c hc => ?_⟩
  obtain ⟨g', c', cur, hv', hg, hblk, _, _, _, hall, _⟩ := h2
  rw [hc] at hv'
  simp at hv'
  obtain ⟨rfl, hn, _⟩ := hv'
  have hbB := h4 b hb
  refine ⟨by omega, fun j i v' hj hi hcell e => ?_⟩
  obtain ⟨sv, rv, c0, c1, c2, r1, r2, _⟩ := hall j _ (List.getElem?_eq_getElem (show j < n.lines.length by omega))
  rcases hi with rfl | rfl
  · rw [c1] at hcell; cases hcell; have := (r1.lt b e).1; omega
  · rw [c2] at hcell; cases hcell; have := (r2.lt b e).1; omega

def NetIn (l u : Nat) (w : World) (v : Value) (n : NetD) : Prop := NetS l u w v n ∨ (v = .agg #[.slice none 0 0, .slice none 0 0] ∧ n = ⟨[], []⟩)
theorem netAt_zero (w : World) : NetAt w (.agg #[.slice none 0 0, .slice none 0 0]) ⟨[], []⟩ :=
  ⟨_, _, rfl, ⟨none, 0, rfl, Nat.le_refl _, by decide, fun k u hu => by simp [strs] at hu⟩, ⟨none, 0, rfl, Nat.le_refl _, by decide, fun k u hu => by simp at hu⟩⟩
theorem NetIn.at {l u : Nat} {w : World} {v : Value} {n : NetD} (h : NetIn l u w v n) : NetAt w v n := by
  rcases h with h | ⟨rfl, rfl⟩
  · exact h.at
  · exact netAt_zero w
theorem NetIn.mk {l : Nat} {w : World} {v : Value} {n : NetD} (h : NetOwn l w v n) : NetIn l w.heap.size w v n := .inl h.s
theorem NetIn.zero (l u : Nat) (w : World) : NetIn l u w (.agg #[.slice none 0 0, .slice none 0 0]) ⟨[], []⟩ := .inr ⟨rfl, rfl⟩
theorem NetIn.keep {l u : Nat} {w w' : World} {v : Value} {n : NetD} (h : NetIn l u w v n) (hz : w.heap.size ≤ w'.heap.size) (hq : ∀ q, l ≤ q → q < u → q < w.heap.size → w'.heap[q]? = w.heap[q]?) : NetIn l u w' v n := h.imp (·.keep hz hq) id
theorem NetIn.later {l u : Nat} {w w' : World} {v : Value} {n : NetD} (h : NetIn l u w v n) (hb : Below w.heap.size w w') : NetIn l u w' v n := h.keep hb.size fun q _ _ h3 => hb.block q h3
theorem NetIn.out {l u lo hi : Nat} {w w' : World} {v : Value} {n : NetD} (h : NetIn l u w v n) (ho : Out lo hi w w') (hs : u ≤ lo ∨ hi ≤ l) : NetIn l u w' v n :=
  h.keep ho.below.size fun q h1 h2 h3 => ho.block (by omega) h3
theorem NetIn.base {l l' u u' : Nat} {w : World} {v : Value} {n : NetD} (h : NetIn l u w v n) (hl : l' ≤ l) (hu : u ≤ u') : NetIn l' u' w v n := h.imp (·.base hl hu) id
end Go.Proofs.Ytehpeifaknbcnaa
