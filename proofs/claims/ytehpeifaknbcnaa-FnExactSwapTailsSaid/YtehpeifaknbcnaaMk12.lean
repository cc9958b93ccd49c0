/-
  JOINED TEXTS, each under its own namespace line: Own, To.
-/
import Derived.Test.YtehpeifaknbcnaaMk11
import Derived.OwnWalk
import Derived.Laws.NewBlocks
import Derived.Test.YtehpeifaknbcnaaMk10
import Derived.LoopTactic
import Derived.Test.YtehpeifaknbcnaaMk04
namespace Go.Proofs.Ytehpeifaknbcnaa
open Go.RowKit
set_option linter.unusedVariables false

def LineOwn (B : Nat) (w : World) (b o : Nat) (l : LineD) : Prop :=
  ∃ sv rv, w.cell? ⟨b, o, none⟩ = some (.string l.name) ∧ w.cell? ⟨b, o + 1, none⟩ = some sv ∧ w.cell? ⟨b, o + 2, none⟩ = some rv ∧ w.ownsRow B 3 1 sv l.stops.length (ints l.stops) ∧ w.ownsRow B 3 1 rv l.runs.length (ints l.runs) ∧
    sv.ownBlock ≠ some b ∧ rv.ownBlock ≠ some b

def RowsApart (w : World) (g n : Nat) : Prop := ∀ (j i j' i' : Nat) (v v' : Value), j < n → j' < n → (i = 1 ∨ i = 2) → (i' = 1 ∨ i' = 2) → (j ≠ j' ∨ i ≠ i') → w.cell? ⟨g, j * 3 + i, none⟩ = some v → w.cell? ⟨g, j' * 3 + i', none⟩ = some v' → v.ownBlock = none ∨ v.ownBlock ≠ v'.ownBlock
theorem RowsApart.of_cells {w w' : World} {g n : Nat} (h : RowsApart w g n) (hc : ∀ o, w'.cell? ⟨g, o, none⟩ = w.cell? ⟨g, o, none⟩) : RowsApart w' g n :=
  fun j i j' i' v v' h1 h2 h3 h4 h5 c c' => h j i j' i' v v' h1 h2 h3 h4 h5 ((hc _).symm.trans c) ((hc _).symm.trans c')
def LinesOwn (B : Nat) (w : World) (v : Value) (ls : List LineD) : Prop :=
  ∃ g c cur, v = .slice (some ⟨g, 0, none⟩) ls.length c ∧ B ≤ g ∧ w.heap[g]? = some (.cells cur 119 (0, 0)) ∧ ls.length ≤ c ∧ c ≤ maxLen ∧ cur.size = c * 3 ∧ (∀ k l, ls[k]? = some l → LineOwn B w g (k * 3) l) ∧ RowsApart w g ls.length
def NetOwn (B : Nat) (w : World) (v : Value) (n : NetD) : Prop := ∃ s l B1, v = .agg #[s, l] ∧ w.ownsRow B 9 1 s n.stops.length (strs n.stops) ∧ LinesOwn B1 w l n.lines ∧ B ≤ B1 ∧ ∀ b, s.ownBlock = some b → b < B1

theorem LineOwn.at {B : Nat} {w : World} {b o : Nat} {l : LineD} (h : LineOwn B w b o l) : LineAt w b o l := by
  obtain ⟨sv, rv, h0, h1, h2, h3, h4, _⟩ := h
  exact ⟨sv, rv, h0, h1, h2, rowAt_own h3, rowAt_own h4⟩
theorem LinesOwn.at {B : Nat} {w : World} {v : Value} {ls : List LineD} (h : LinesOwn B w v ls) : LinesAt w v ls := by
  obtain ⟨g, c, cur, hv, hg, hh, h1, h2, h3, h4, h5⟩ := h
  exact ⟨some ⟨g, 0, none⟩, c, hv, h1, h2, fun k l hl => ⟨g, 0, rfl, (Array.getElem?_eq_some_iff.1 hh).1, by rw [Nat.zero_add]; exact (h4 k l hl).at⟩⟩
theorem NetOwn.at {B : Nat} {w : World} {v : Value} {n : NetD} (h : NetOwn B w v n) : NetAt w v n := by
  obtain ⟨s, l, B1, hv, h1, h2, _⟩ := h
  exact ⟨s, l, hv, rowAt_own h1, h2.at⟩
theorem LineOwn.later {B : Nat} {w w' : World} {b o : Nat} {l : LineD} (h : LineOwn B w b o l) (hb : Below w.heap.size w w') : LineOwn B w' b o l := by
  obtain ⟨sv, rv, h0, h1, h2, h3, h4, h5⟩ := h
  exact ⟨sv, rv, bkeep hb h0, bkeep hb h1, bkeep hb h2, own_later h3 hb, own_later h4 hb, h5⟩
theorem LinesOwn.later {B : Nat} {w w' : World} {v : Value} {ls : List LineD} (h : LinesOwn B w v ls) (hb : Below w.heap.size w w') : LinesOwn B w' v ls := by
  obtain ⟨g, c, cur, hv, hg, hh, h1, h2, h3, h4, h5⟩ := h
  exact ⟨g, c, cur, hv, hg, (hb.block g (Array.getElem?_eq_some_iff.1 hh).1).trans hh, h1, h2, h3, fun k l hl => (h4 k l hl).later hb, h5.of_cells fun o => hb.cell (p := ⟨g, o, none⟩) (Array.getElem?_eq_some_iff.1 hh).1⟩
theorem NetOwn.later {B : Nat} {w w' : World} {v : Value} {n : NetD} (h : NetOwn B w v n) (hb : Below w.heap.size w w') : NetOwn B w' v n := by
  obtain ⟨s, l, B1, hv, h1, h2, h3⟩ := h
  exact ⟨s, l, B1, hv, own_later h1 hb, h2.later hb, h3⟩
theorem LineAt.toV {w : World} {b o : Nat} {l : LineD} (h : LineAt w b o l) : ∃ sv rv, w.cell? ⟨b, o, none⟩ = some (.string l.name) ∧ w.cell? ⟨b, o + 1, none⟩ = some sv ∧ w.cell? ⟨b, o + 2, none⟩ = some rv ∧ LineV w (.agg #[.string l.name, sv, rv]) l := by
  obtain ⟨sv, rv, h0, h1, h2, h3, h4⟩ := h
  exact ⟨sv, rv, h0, h1, h2, sv, rv, rfl, h3, h4⟩
theorem LineOwn.far {B : Nat} {w : World} {b o : Nat} {l : LineD} (h : LineOwn B w b o l) (hb : B ≤ b) {p : Addr} (u : Value) (hp : p.block < B) : LineOwn B (w.setCell p u) b o l := by
  obtain ⟨sv, rv, c0, c1, c2, r1, r2, n⟩ := h
  have hc : ∀ o, (w.setCell p u).cell? ⟨b, o, none⟩ = w.cell? ⟨b, o, none⟩ := fun o => World.cell?_setCell_other _ _ _ _ (fun e => by rw [e] at hp; simp at hp; omega)
  exact ⟨sv, rv, (hc _).trans c0, (hc _).trans c1, (hc _).trans c2, ownsRow_setCell_below r1 hp u, ownsRow_setCell_below r2 hp u, n⟩
theorem LinesOwn.far {B : Nat} {w : World} {v : Value} {ls : List LineD} (h : LinesOwn B w v ls) {p : Addr} (u : Value) (hp : p.block < B) : LinesOwn B (w.setCell p u) v ls := by
  obtain ⟨g, c, cur, hv, hg, hh, h1, h2, h3, h4, h5⟩ := h
  exact ⟨g, c, cur, hv, hg, by rw [Below.heap_setCell _ _ _ _ (by omega)]; exact hh, h1, h2, h3, fun k l hl => (h4 k l hl).far hg u hp, h5.of_cells fun o => World.cell?_setCell_other _ _ _ _ (fun e => by rw [e] at hp; simp at hp; omega)⟩
theorem LineOwn.base {B B' : Nat} {w : World} {b o : Nat} {l : LineD} (h : LineOwn B w b o l) (hB : B' ≤ B) : LineOwn B' w b o l := by
  obtain ⟨sv, rv, c0, c1, c2, r1, r2, n⟩ := h
  exact ⟨sv, rv, c0, c1, c2, own_base r1 hB, own_base r2 hB, n⟩
theorem LinesOwn.base {B B' : Nat} {w : World} {v : Value} {ls : List LineD} (h : LinesOwn B w v ls) (hB : B' ≤ B) : LinesOwn B' w v ls := by
  obtain ⟨g, c, cur, hv, hg, hh, h1, h2, h3, h4, h5⟩ := h
  exact ⟨g, c, cur, hv, by omega, hh, h1, h2, h3, fun k l hl => (h4 k l hl).base hB, h5⟩
end Go.Proofs.Ytehpeifaknbcnaa

namespace Go.Proofs.Ytehpeifaknbcnaa
open Go.RowKit
set_option linter.unusedVariables false

theorem infoLine : (Try.prog.info? 119).map (fun i => (i.zero, i.size, i.bytes)) = some (some (.agg #[.string ⟨#[]⟩, .slice none 0 0, .slice none 0 0]), 3, 64) := by kernel_rfl

set_option maxHeartbeats 1000000 in
theorem toLine_any (v : Value) (l : LineD) (w : World) (hr : LineV w v l) (hn : l.stops.length ≤ 1048576) (hn' : l.runs.length ≤ 1048576) :
    Calls Try.prog 93 #[v] w fun e w' => ∃ g1 c1 g2 c2, e = .returned (.agg #[.string l.name, .slice (some ⟨g1, 0, none⟩) l.stops.length c1, .slice (some ⟨g2, 0, none⟩) l.runs.length c2]) ∧
      w'.ownsRow w.heap.size 3 1 (.slice (some ⟨g1, 0, none⟩) l.stops.length c1) l.stops.length (ints l.stops) ∧ w'.ownsRow w.heap.size 3 1 (.slice (some ⟨g2, 0, none⟩) l.runs.length c2) l.runs.length (ints l.runs) ∧ g1 < g2 ∧ Below w.heap.size w w' := by
  obtain ⟨sv, rv, rfl, hs, hrr⟩ := hr
  obtain ⟨a, c, rfl, hc, hm, HC⟩ := ints_open hs
  obtain ⟨a', c', rfl, hc', hm', HC'⟩ := ints_open hrr
  have HS := Lib.hid (fun W (hW : Below w.heap.size w W) => toIntS_any _ _ W (hs.below rfl hW) hn)
  have HR := Lib.hid (fun W (hW : Below w.heap.size w W) => toIntS_any _ _ W (hrr.below rfl hW) hn')
  clear hs hrr
  go_enter Try.func93, Try.ntmps93
  go_wp2_with fail
  go_at_call 67
  refine (HS.out _ ?hb).mono ?_
  case hb => exact (((Below.refl _ _).alloc (Nat.le_refl _) _).alloc (by simp) _).alloc (by simp; omega) _
  rintro e w1 ⟨c1, rfl, hown1, hb1⟩
  have HB1 : Hid (Below w.heap.size w w1) := ((((Below.refl _ _).alloc (Nat.le_refl _) _).alloc (by simp) _).alloc (by simp; omega) _).trans (hb1.mono (by simp; omega))
  have hz1 : w.heap.size + 3 ≤ w1.heap.size := by have := hb1.size; simp at this; omega
  have hg12 : w.heap.size + 1 + 1 + 1 < w1.heap.size := by have := (hown1.lt _ rfl).2; simpa using this
  have p0 : w1.cell? ⟨w.heap.size + 1 + 1, 0, none⟩ = some (.string l.name) := bkeep hb1 (by go_simp)
  have p1 : w1.cell? ⟨w.heap.size + 1 + 1, 1, none⟩ = some (.slice none 0 0) := bkeep hb1 (by go_simp)
  have p2 : w1.cell? ⟨w.heap.size + 1 + 1, 2, none⟩ = some (.slice none 0 0) := bkeep hb1 (by go_simp)
  have r0 : w1.cell? ⟨w.heap.size + 1, 0, none⟩ = some (.string ⟨#[]⟩) := bkeep hb1 (by go_simp)
  have r1 : w1.cell? ⟨w.heap.size + 1, 1, none⟩ = some (.slice none 0 0) := bkeep hb1 (by go_simp)
  have r2 : w1.cell? ⟨w.heap.size + 1, 2, none⟩ = some (.slice none 0 0) := bkeep hb1 (by go_simp)
  have x2 : w1.cell? ⟨w.heap.size, 2, none⟩ = some (.slice a' l.runs.length c') := bkeep hb1 (by go_simp)
  have f1 : w1.frozen? ⟨w.heap.size + 1 + 1, 1, none⟩ = false := fkeep hb1 (by go_simp) (by go_simp)
  have f2 : w1.frozen? ⟨w.heap.size + 1 + 1, 2, none⟩ = false := fkeep hb1 (by go_simp) (by go_simp)
  have f3 : ∀ o, w1.frozen? ⟨w.heap.size + 1, o, none⟩ = false := fun o => fkeep hb1 (by simp) (by go_simp)
  simp only [World.size_alloc] at hown1
  have HO1 := Lib.hid hown1
  clear hown1 hb1
  go_wp2_with fail
  go_at_call 67
  refine (HR.out _ ?hb2).mono ?_
  case hb2 => exact Below.setCell (p := ⟨_, _, none⟩) HB1.out (by simp; omega) _
  rintro e w2 ⟨c2, rfl, hown2, hb2⟩
  have q0 : w2.cell? ⟨w.heap.size + 1 + 1, 0, none⟩ = some (.string l.name) := bkeep hb2 (by go_simp)
  have q1 : w2.cell? ⟨w.heap.size + 1 + 1, 1, none⟩ = some (.slice (some ⟨w.heap.size + 1 + 1 + 1, 0, none⟩) l.stops.length c1) := bkeep hb2 (by go_simp)
  have q2 : w2.cell? ⟨w.heap.size + 1 + 1, 2, none⟩ = some (.slice none 0 0) := bkeep hb2 (by go_simp)
  have s0 : w2.cell? ⟨w.heap.size + 1, 0, none⟩ = some (.string ⟨#[]⟩) := bkeep hb2 (by go_simp)
  have s1 : w2.cell? ⟨w.heap.size + 1, 1, none⟩ = some (.slice none 0 0) := bkeep hb2 (by go_simp)
  have s2 : w2.cell? ⟨w.heap.size + 1, 2, none⟩ = some (.slice none 0 0) := bkeep hb2 (by go_simp)
  have g2 : w2.frozen? ⟨w.heap.size + 1 + 1, 2, none⟩ = false := fkeep hb2 (by simp; omega) (by go_simp)
  have g3 : ∀ o, w2.frozen? ⟨w.heap.size + 1, o, none⟩ = false := fun o => fkeep hb2 (by simp; omega) (by go_simp)
  have hz2 : w1.heap.size ≤ w2.heap.size := by have := hb2.size; simp at this; omega
  have HBB : Hid (Below w.heap.size w w2) := (Below.setCell (p := ⟨w.heap.size + 1 + 1, 1, none⟩) HB1.out (by simp; omega) _).trans (hb2.mono (by simp; omega))
  rw [show (w1.setCell ⟨w.heap.size + 1 + 1, 1, none⟩ (.slice (some ⟨w.heap.size + 1 + 1 + 1, 0, none⟩) l.stops.length c1)).heap.size = w1.heap.size by simp [World.setCell]] at hown2
  have HO2 := Lib.hid hown2
  have HOL := Lib.hid (own_later (own_other HO1.out (p := ⟨w.heap.size + 1 + 1, 1, none⟩) (by simp [Value.ownBlock]) _) hb2)
  clear hb2 hown2
  go_wp2_with fail
  refine bodyPost_ret (v := .agg #[.string l.name, .slice (some ⟨w.heap.size + 1 + 1 + 1, 0, none⟩) l.stops.length c1, .slice (some ⟨w1.heap.size, 0, none⟩) l.runs.length c2]) (by simp only [results, Try.results93]; go_simp) rfl ?_
  refine ⟨_, c1, _, c2, rfl, ?_, ?_, hg12, ?_⟩
  · exact own_base (ownsRow_setCell_below (ownsRow_setCell_below (ownsRow_setCell_below (ownsRow_setCell_below HOL.out (by simp <;> omega) _) (by simp <;> omega) _) (by simp <;> omega) _) (by simp <;> omega) _) (by omega)
  · exact own_base (ownsRow_setCell_below (ownsRow_setCell_below (ownsRow_setCell_below (ownsRow_setCell_below HO2.out (by simp <;> omega) _) (by simp <;> omega) _) (by simp <;> omega) _) (by simp <;> omega) _) (by omega)
  · exact ((((HBB.out.setCell (by simp; omega) _).setCell (by simp) _).setCell (by simp) _).setCell (by simp) _)
end Go.Proofs.Ytehpeifaknbcnaa
