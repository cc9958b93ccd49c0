import Derived.Test.YtehpeifaknbcnaaFind
import Derived.OwnWalk
import Derived.Laws.NewBlocks
namespace Go.Proofs.Ytehpeifaknbcnaa
open Go.RowKit
set_option linter.unusedVariables false

def LineOwn (B : Nat) (w : World) (b o : Nat) (l : LineD) : Prop :=
  ∃ sv rv, w.cell? ⟨b, o, none⟩ = some (.string l.name) ∧ w.cell? ⟨b, o + 1, none⟩ = some sv ∧ w.cell? ⟨b, o + 2, none⟩ = some rv ∧ w.ownsRow B 3 1 sv l.stops.length (ints l.stops) ∧ w.ownsRow B 3 1 rv l.runs.length (ints l.runs) ∧
    sv.ownBlock ≠ some b ∧ rv.ownBlock ≠ some b

def RowsApart (w : World) (g n : Nat) : Prop := ∀ (j i j' i' : Nat) (v v' : Value), j < n → j' < n → (i = 1 ∨ i = 2) → (i' = 1 ∨ i' = 2) → (j ≠ j' ∨ i ≠ i') → w.cell? ⟨g, j * 3 + i, none⟩ = some v → w.cell? ⟨g, j' * 3 + i', none⟩ = some v' → v.ownBlock = none ∨ v.ownBlock ≠ v'.ownBlock
theorem RowsApart.of_cells {w w' : World} {g n : Nat} (h : RowsApart w g n) (hc : ∀ o, w'.cell? ⟨g, o, none⟩ = w.cell? ⟨g, o, none⟩) : RowsApart w' g n :=
  fun j i j' i' v v' h1 h2 h3 h4 h5 c c' => h j i j' i' v v' h1 h2 h3 h4 h5 ((hc _).symm.trans c) ((hc _).symm.trans c')
def LinesOwn (B : Nat) (w : World) (v : Value) (ls : List LineD) : Prop :=
  ∃ g c cur, v = .slice (some ⟨g, 0, none⟩) ls.length c ∧ B ≤ g ∧ w.heap[g]? = some (.cells cur 119 (0, 0)) ∧ ls.length ≤ c ∧ c ≤ maxLen ∧ cur.size = c * 3 ∧ (∀ k l, ls[k]? = some l → LineOwn B w g (k * 3) l) ∧ RowsApart w g ls.length
def NetOwn (B : Nat) (w : World) (v : Value) (n : NetD) : Prop := ∃ s l B1, v = .agg #[s, l] ∧ w.ownsRow B 9 1 s n.stops.length (strs n.stops) ∧ LinesOwn B1 w l n.lines ∧ B ≤ B1 ∧ ∀ b, s.ownBlock = some b → b < B1

theorem LineOwn.at {B : Nat} {w : World} {b o : Nat} {l : LineD} (h : LineOwn B w b o l) : LineAt w b o l := by
  obtain ⟨sv, rv, h0, h1, h2, h3, h4, _⟩ := h
  exact ⟨sv, rv, h0, h1, h2, rowAt_own h3, rowAt_own h4⟩
theorem LinesOwn.at {B : Nat} {w : World} {v : Value} {ls : List LineD} (h : LinesOwn B w v ls) : LinesAt w v ls := by
  obtain ⟨g, c, cur, hv, hg, hh, h1, h2, h3, h4, h5⟩ := h
  exact ⟨some ⟨g, 0, none⟩, c, hv, h1, h2, fun k l hl => ⟨g, 0, rfl, (Array.getElem?_eq_some_iff.1 hh).1, by rw [Nat.zero_add]; exact (h4 k l hl).at⟩⟩
theorem NetOwn.at {B : Nat} {w : World} {v : Value} {n : NetD} (h : NetOwn B w v n) : NetAt w v n := by
  obtain ⟨s, l, B1, hv, h1, h2, _⟩ := h
  exact ⟨s, l, hv, rowAt_own h1, h2.at⟩
theorem LineOwn.later {B : Nat} {w w' : World} {b o : Nat} {l : LineD} (h : LineOwn B w b o l) (hb : Below w.heap.size w w') : LineOwn B w' b o l := by
  obtain ⟨sv, rv, h0, h1, h2, h3, h4, h5⟩ := h
  exact ⟨sv, rv, bkeep hb h0, bkeep hb h1, bkeep hb h2, own_later h3 hb, own_later h4 hb, h5⟩
theorem LinesOwn.later {B : Nat} {w w' : World} {v : Value} {ls : List LineD} (h : LinesOwn B w v ls) (hb : Below w.heap.size w w') : LinesOwn B w' v ls := by
  obtain ⟨g, c, cur, hv, hg, hh, h1, h2, h3, h4, h5⟩ := h
  exact ⟨g, c, cur, hv, hg, (hb.block g (Array.getElem?_eq_some_iff.1 hh).1).trans hh, h1, h2, h3, fun k l hl => (h4 k l hl).later hb, h5.of_cells fun o => hb.cell (p := ⟨g, o, none⟩) (Array.getElem?_eq_some_iff.1 hh).1⟩
theorem NetOwn.later {B : Nat} {w w' : World} {v : Value} {n : NetD} (h : NetOwn B w v n) (hb : Below w.heap.size w w') : NetOwn B w' v n := by
  obtain ⟨s, l, B1, hv, h1, h2, h3⟩ := h
  exact ⟨s, l, B1, hv, own_later h1 hb, h2.later hb, h3⟩
theorem LineAt.toV {w : World} {b o : Nat} {l : LineD} (h : LineAt w b o l) : ∃ sv rv, w.cell? ⟨b, o, none⟩ = some (.string l.name) ∧ w.cell? ⟨b, o + 1, none⟩ = some sv ∧ w.cell? ⟨b, o + 2, none⟩ = some rv ∧ LineV w (.agg #[.string l.name, sv, rv]) l := by
  obtain ⟨sv, rv, h0, h1, h2, h3, h4⟩ := h
  exact ⟨sv, rv, h0, h1, h2, sv, rv, rfl, h3, h4⟩
theorem LineOwn.far {B : Nat} {w : World} {b o : Nat} {l : LineD} (h : LineOwn B w b o l) (hb : B ≤ b) {p : Addr} (u : Value) (hp : p.block < B) : LineOwn B (w.setCell p u) b o l := by
  obtain ⟨sv, rv, c0, c1, c2, r1, r2, n⟩ := h
  have hc : ∀ o, (w.setCell p u).cell? ⟨b, o, none⟩ = w.cell? ⟨b, o, none⟩ := fun o => World.cell?_setCell_other _ _ _ _ (fun e => by rw [e] at hp; simp at hp; omega)
  exact ⟨sv, rv, (hc _).trans c0, (hc _).trans c1, (hc _).trans c2, ownsRow_setCell_below r1 hp u, ownsRow_setCell_below r2 hp u, n⟩
theorem LinesOwn.far {B : Nat} {w : World} {v : Value} {ls : List LineD} (h : LinesOwn B w v ls) {p : Addr} (u : Value) (hp : p.block < B) : LinesOwn B (w.setCell p u) v ls := by
  obtain ⟨g, c, cur, hv, hg, hh, h1, h2, h3, h4, h5⟩ := h
  exact ⟨g, c, cur, hv, hg, by rw [Below.heap_setCell _ _ _ _ (by omega)]; exact hh, h1, h2, h3, fun k l hl => (h4 k l hl).far hg u hp, h5.of_cells fun o => World.cell?_setCell_other _ _ _ _ (fun e => by rw [e] at hp; simp at hp; omega)⟩
theorem LineOwn.base {B B' : Nat} {w : World} {b o : Nat} {l : LineD} (h : LineOwn B w b o l) (hB : B' ≤ B) : LineOwn B' w b o l := by
  obtain ⟨sv, rv, c0, c1, c2, r1, r2, n⟩ := h
  exact ⟨sv, rv, c0, c1, c2, own_base r1 hB, own_base r2 hB, n⟩
theorem LinesOwn.base {B B' : Nat} {w : World} {v : Value} {ls : List LineD} (h : LinesOwn B w v ls) (hB : B' ≤ B) : LinesOwn B' w v ls := by
  obtain ⟨g, c, cur, hv, hg, hh, h1, h2, h3, h4, h5⟩ := h
  exact ⟨g, c, cur, hv, by omega, hh, h1, h2, h3, fun k l hl => (h4 k l hl).base hB, h5⟩
end Go.Proofs.Ytehpeifaknbcnaa
