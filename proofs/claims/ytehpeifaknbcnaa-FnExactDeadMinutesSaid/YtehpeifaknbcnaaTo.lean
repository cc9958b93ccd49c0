import Derived.Test.YtehpeifaknbcnaaOwn
import Derived.Test.YtehpeifaknbcnaaText
import Derived.LoopTactic
import Derived.Test.YtehpeifaknbcnaaMk04
namespace Go.Proofs.Ytehpeifaknbcnaa
open Go.RowKit
set_option linter.unusedVariables false

theorem infoLine : (Try.prog.info? 119).map (fun i => (i.zero, i.size, i.bytes)) = some (some (.agg #[.string ⟨#[]⟩, .slice none 0 0, .slice none 0 0]), 3, 64) := by kernel_rfl

set_option maxHeartbeats 1000000 in
theorem toLine_any (v : Value) (l : LineD) (w : World) (hr : LineV w v l) (hn : l.stops.length ≤ 1048576) (hn' : l.runs.length ≤ 1048576) :
    Calls Try.prog 93 #[v] w fun e w' => ∃ g1 c1 g2 c2, e = .returned (.agg #[.string l.name, .slice (some ⟨g1, 0, none⟩) l.stops.length c1, .slice (some ⟨g2, 0, none⟩) l.runs.length c2]) ∧
      w'.ownsRow w.heap.size 3 1 (.slice (some ⟨g1, 0, none⟩) l.stops.length c1) l.stops.length (ints l.stops) ∧ w'.ownsRow w.heap.size 3 1 (.slice (some ⟨g2, 0, none⟩) l.runs.length c2) l.runs.length (ints l.runs) ∧ g1 < g2 ∧ Below w.heap.size w w' := by
  obtain ⟨sv, rv, rfl, hs, hrr⟩ := hr
  obtain ⟨a, c, rfl, hc, hm, HC⟩ := ints_open hs
  obtain ⟨a', c', rfl, hc', hm', HC'⟩ := ints_open hrr
  have HS := Lib.hid (fun W (hW : Below w.heap.size w W) => toIntS_any _ _ W (hs.below rfl hW) hn)
  have HR := Lib.hid (fun W (hW : Below w.heap.size w W) => toIntS_any _ _ W (hrr.below rfl hW) hn')
  clear hs hrr
  go_enter Try.func93, Try.ntmps93
  go_wp2_with fail
  go_at_call 67
  refine (HS.out _ ?hb).mono ?_
  case hb => exact (((Below.refl _ _).alloc (Nat.le_refl _) _).alloc (by simp) _).alloc (by simp; omega) _
  rintro e w1 ⟨c1, rfl, hown1, hb1⟩
  have HB1 : Hid (Below w.heap.size w w1) := ((((Below.refl _ _).alloc (Nat.le_refl _) _).alloc (by simp) _).alloc (by simp; omega) _).trans (hb1.mono (by simp; omega))
  have hz1 : w.heap.size + 3 ≤ w1.heap.size := by have := hb1.size; simp at this; omega
  have hg12 : w.heap.size + 1 + 1 + 1 < w1.heap.size := by have := (hown1.lt _ rfl).2; simpa using this
  have p0 : w1.cell? ⟨w.heap.size + 1 + 1, 0, none⟩ = some (.string l.name) := bkeep hb1 (by go_simp)
  have p1 : w1.cell? ⟨w.heap.size + 1 + 1, 1, none⟩ = some (.slice none 0 0) := bkeep hb1 (by go_simp)
  have p2 : w1.cell? ⟨w.heap.size + 1 + 1, 2, none⟩ = some (.slice none 0 0) := bkeep hb1 (by go_simp)
  have r0 : w1.cell? ⟨w.heap.size + 1, 0, none⟩ = some (.string ⟨#[]⟩) := bkeep hb1 (by go_simp)
  have r1 : w1.cell? ⟨w.heap.size + 1, 1, none⟩ = some (.slice none 0 0) := bkeep hb1 (by go_simp)
  have r2 : w1.cell? ⟨w.heap.size + 1, 2, none⟩ = some (.slice none 0 0) := bkeep hb1 (by go_simp)
  have x2 : w1.cell? ⟨w.heap.size, 2, none⟩ = some (.slice a' l.runs.length c') := bkeep hb1 (by go_simp)
  have f1 : w1.frozen? ⟨w.heap.size + 1 + 1, 1, none⟩ = false := fkeep hb1 (by go_simp) (by go_simp)
  have f2 : w1.frozen? ⟨w.heap.size + 1 + 1, 2, none⟩ = false := fkeep hb1 (by go_simp) (by go_simp)
  have f3 : ∀ o, w1.frozen? ⟨w.heap.size + 1, o, none⟩ = false := fun o => fkeep hb1 (by simp) (by go_simp)
  simp only [World.size_alloc] at hown1
  have HO1 := Lib.hid hown1
  clear hown1 hb1
  go_wp2_with fail
  go_at_call 67
  refine (HR.out _ ?hb2).mono ?_
  case hb2 => exact Below.setCell (p := ⟨_, _, none⟩) HB1.out (by simp; omega) _
  rintro e w2 ⟨c2, rfl, hown2, hb2⟩
  have q0 : w2.cell? ⟨w.heap.size + 1 + 1, 0, none⟩ = some (.string l.name) := bkeep hb2 (by go_simp)
  have q1 : w2.cell? ⟨w.heap.size + 1 + 1, 1, none⟩ = some (.slice (some ⟨w.heap.size + 1 + 1 + 1, 0, none⟩) l.stops.length c1) := bkeep hb2 (by go_simp)
  have q2 : w2.cell? ⟨w.heap.size + 1 + 1, 2, none⟩ = some (.slice none 0 0) := bkeep hb2 (by go_simp)
  have s0 : w2.cell? ⟨w.heap.size + 1, 0, none⟩ = some (.string ⟨#[]⟩) := bkeep hb2 (by go_simp)
  have s1 : w2.cell? ⟨w.heap.size + 1, 1, none⟩ = some (.slice none 0 0) := bkeep hb2 (by go_simp)
  have s2 : w2.cell? ⟨w.heap.size + 1, 2, none⟩ = some (.slice none 0 0) := bkeep hb2 (by go_simp)
  have g2 : w2.frozen? ⟨w.heap.size + 1 + 1, 2, none⟩ = false := fkeep hb2 (by simp; omega) (by go_simp)
  have g3 : ∀ o, w2.frozen? ⟨w.heap.size + 1, o, none⟩ = false := fun o => fkeep hb2 (by simp; omega) (by go_simp)
  have hz2 : w1.heap.size ≤ w2.heap.size := by have := hb2.size; simp at this; omega
  have HBB : Hid (Below w.heap.size w w2) := (Below.setCell (p := ⟨w.heap.size + 1 + 1, 1, none⟩) HB1.out (by simp; omega) _).trans (hb2.mono (by simp; omega))
  rw [show (w1.setCell ⟨w.heap.size + 1 + 1, 1, none⟩ (.slice (some ⟨w.heap.size + 1 + 1 + 1, 0, none⟩) l.stops.length c1)).heap.size = w1.heap.size by simp [World.setCell]] at hown2
  have HO2 := Lib.hid hown2
  have HOL := Lib.hid (own_later (own_other HO1.out (p := ⟨w.heap.size + 1 + 1, 1, none⟩) (by simp [Value.ownBlock]) _) hb2)
  clear hb2 hown2
  go_wp2_with fail
  refine bodyPost_ret (v := .agg #[.string l.name, .slice (some ⟨w.heap.size + 1 + 1 + 1, 0, none⟩) l.stops.length c1, .slice (some ⟨w1.heap.size, 0, none⟩) l.runs.length c2]) (by simp only [results, Try.results93]; go_simp) rfl ?_
  refine ⟨_, c1, _, c2, rfl, ?_, ?_, hg12, ?_⟩
  · exact own_base (ownsRow_setCell_below (ownsRow_setCell_below (ownsRow_setCell_below (ownsRow_setCell_below HOL.out (by simp <;> omega) _) (by simp <;> omega) _) (by simp <;> omega) _) (by simp <;> omega) _) (by omega)
  · exact own_base (ownsRow_setCell_below (ownsRow_setCell_below (ownsRow_setCell_below (ownsRow_setCell_below HO2.out (by simp <;> omega) _) (by simp <;> omega) _) (by simp <;> omega) _) (by simp <;> omega) _) (by omega)
  · exact ((((HBB.out.setCell (by simp; omega) _).setCell (by simp) _).setCell (by simp) _).setCell (by simp) _)
end Go.Proofs.Ytehpeifaknbcnaa
