/-
  THE LAWS' HELPERS on calendars, in the one form that the laws' walks take (szCalendar, toCalendar, eqCalendar).
-/
import Derived.Test.YtffcgblionlhhaaDoorMa
import Derived.Test.YtffcgblionlhhaaDoorCal
namespace Go.Proofs.YtffcgblionlhhaaDoor
open Go.RowKit
set_option linter.unusedVariables false

set_option maxRecDepth 100000 in
theorem calAt_of {H : Type} {enc : TypeId × Value → H} {W : World} {base base' : Nat} {spare : Nat → Bool} {held : Bool} {v : Value} {d : DataW H} {p : List MemPlace}
    (hv : Value.okWide Tryd.prog W .any base 24 v) (h : DataW.Trod enc Tryd.prog W base' spare held 24 v d p) : ∃ c, CalAt W v c ∧ CalFits c :=
  cal_trod Tryd.underlying24 (by kernel_rfl) (by kernel_rfl) Tryd.underlying3 Tryd.underlying3 Tryd.underlying3 Tryd.underlying22 Tryd.underlying22 Tryd.underlying3 (by kernel_rfl) hv h

theorem szCalendar_x (v : Value) (c : CalD) (left : Int) (w : World) (hr : CalAt w v c) (hf : CalFits c) (h0 : 0 ≤ left) (h1 : left ≤ 1048576) :
    Calls Tryd.prog 10 #[v, .int .i64 left] w fun e w' => (∃ r : Int, e = .returned (.int .i64 r) ∧ (r = -1 ∨ (0 ≤ r ∧ r ≤ left ∧ CalSmall c))) ∧ Below w.heap.size w w' := by
  obtain ⟨av, rv, rfl, ha, hrm⟩ := hr
  have HS := Lib.hid (fun W (hW : Below w.heap.size w W) r (g0 : 0 ≤ r) (g1 : r ≤ 1048576) => szIntS_any av c.added r W (ha.below rfl hW) g0 g1)
  have HR := Lib.hid (fun W (hW : Below w.heap.size w W) r (g0 : 0 ≤ r) (g1 : r ≤ 1048576) => szIntS_any rv c.removed r W (hrm.below rfl hW) g0 g1)
  obtain ⟨a, ca, rfl, _⟩ := ints_open ha
  obtain ⟨b, cb, rfl, _⟩ := ints_open hrm
  clear ha hrm hf
  go_enter Tryd.func10, Tryd.ntmps10
  go_wp2_with fail
  go_at_call 39
  refine (HS.out _ ((Below.refl _ _).alloc (Nat.le_refl _) _) _ h0 h1).mono ?_
  rintro e w1 ⟨⟨r1, rfl, hr1⟩, rfl⟩
  rcases hr1 with rfl | ⟨hp1, he1⟩
  · go_wp2_with fail
    go_ret
    exact ⟨⟨-1, rfl, .inl rfl⟩, (Below.refl _ _).alloc (Nat.le_refl _) _⟩
  · have HE1 := Lib.hid he1
    have hb1 : r1 ≤ left := by omega
    clear he1
    go_wp2_with fail
    go_at_call 39
    refine (HR.out _ ((Below.refl _ _).alloc (Nat.le_refl _) _) _ (by omega) (by omega)).mono ?_
    rintro e w1 ⟨⟨r2, rfl, hr2⟩, rfl⟩
    rcases hr2 with rfl | ⟨hp2, he2⟩
    · go_wp2_with fail
      go_ret
      exact ⟨⟨-1, rfl, .inl rfl⟩, (Below.refl _ _).alloc (Nat.le_refl _) _⟩
    · have HE2 := Lib.hid he2
      clear he2
      go_wp2_with fail
      go_ret
      have e1 := HE1.out
      have e2 := HE2.out
      exact ⟨⟨r2, rfl, .inr ⟨hp2, by omega, by unfold CalSmall; omega⟩⟩, (Below.refl _ _).alloc (Nat.le_refl _) _⟩

set_option maxHeartbeats 1000000 in
theorem toCalendar_x (v : Value) (c : CalD) (w : World) (hr : CalAt w v c) (hs : CalSmall c) :
    Calls Tryd.prog 12 #[v] w fun e w' => ∃ a1 c1 a2 c2, e = .returned (.agg #[.int .i64 c.frm, .int .i64 c.too, .int .i64 c.wd, .slice a1 c.added.length c1, .slice a2 c.removed.length c2]) ∧
      CalIn w.heap.size w'.heap.size w' (.agg #[.int .i64 c.frm, .int .i64 c.too, .int .i64 c.wd, .slice a1 c.added.length c1, .slice a2 c.removed.length c2]) c ∧ Below w.heap.size w w' := by
  obtain ⟨av, rv, rfl, ha, hrm⟩ := hr
  have HS := Lib.hid (fun W (hW : Below w.heap.size w W) => toIntS_any _ _ W (ha.below rfl hW) (by unfold CalSmall at hs; omega))
  have HR := Lib.hid (fun W (hW : Below w.heap.size w W) => toIntS_any _ _ W (hrm.below rfl hW) (by unfold CalSmall at hs; omega))
  obtain ⟨a, ca, rfl, _⟩ := ints_open ha
  obtain ⟨b, cb, rfl, _⟩ := ints_open hrm
  clear ha hrm hs
  go_enter Tryd.func12, Tryd.ntmps12
  go_wp2_with fail
  go_at_call 42
  refine (HS.out _ ?hb).mono ?_
  case hb => exact (((Below.refl _ _).alloc (Nat.le_refl _) _).alloc (by simp) _).alloc (by simp; omega) _
  rintro e w1 ⟨c1, rfl, hown1, hb1⟩
  have HB1 : Hid (Below w.heap.size w w1) := ((((Below.refl _ _).alloc (Nat.le_refl _) _).alloc (by simp) _).alloc (by simp; omega) _).trans (hb1.mono (by simp; omega))
  have hz1 : w.heap.size + 3 ≤ w1.heap.size := by have := hb1.size; simp at this; omega
  have hg12 : w.heap.size + 1 + 1 + 1 < w1.heap.size := by have := (hown1.lt _ rfl).2; simpa using this
  have p0 : w1.cell? ⟨w.heap.size + 1 + 1, 0, none⟩ = some (.int .i64 c.frm) := bkeep hb1 (by go_simp)
  have p1 : w1.cell? ⟨w.heap.size + 1 + 1, 1, none⟩ = some (.int .i64 c.too) := bkeep hb1 (by go_simp)
  have p2 : w1.cell? ⟨w.heap.size + 1 + 1, 2, none⟩ = some (.int .i64 c.wd) := bkeep hb1 (by go_simp)
  have p3 : w1.cell? ⟨w.heap.size + 1 + 1, 3, none⟩ = some (.slice none 0 0) := bkeep hb1 (by go_simp)
  have p4 : w1.cell? ⟨w.heap.size + 1 + 1, 4, none⟩ = some (.slice none 0 0) := bkeep hb1 (by go_simp)
  have r0 : w1.cell? ⟨w.heap.size + 1, 0, none⟩ = some (.int .i64 0) := bkeep hb1 (by go_simp)
  have r1 : w1.cell? ⟨w.heap.size + 1, 1, none⟩ = some (.int .i64 0) := bkeep hb1 (by go_simp)
  have r2 : w1.cell? ⟨w.heap.size + 1, 2, none⟩ = some (.int .i64 0) := bkeep hb1 (by go_simp)
  have r3 : w1.cell? ⟨w.heap.size + 1, 3, none⟩ = some (.slice none 0 0) := bkeep hb1 (by go_simp)
  have r4 : w1.cell? ⟨w.heap.size + 1, 4, none⟩ = some (.slice none 0 0) := bkeep hb1 (by go_simp)
  have x4 : w1.cell? ⟨w.heap.size, 4, none⟩ = some (.slice b c.removed.length cb) := bkeep hb1 (by go_simp)
  have f1 : w1.frozen? ⟨w.heap.size + 1 + 1, 3, none⟩ = false := fkeep hb1 (by go_simp) (by go_simp)
  have f2 : w1.frozen? ⟨w.heap.size + 1 + 1, 4, none⟩ = false := fkeep hb1 (by go_simp) (by go_simp)
  have f3 : ∀ o, w1.frozen? ⟨w.heap.size + 1, o, none⟩ = false := fun o => fkeep hb1 (by simp) (by go_simp)
  simp only [World.size_alloc] at hown1
  have HO1 := Lib.hid hown1
  clear hown1 hb1
  go_wp2_with fail
  go_at_call 42
  refine (HR.out _ ?hb2).mono ?_
  case hb2 => exact Below.setCell (p := ⟨_, _, none⟩) HB1.out (by simp; omega) _
  rintro e w2 ⟨c2, rfl, hown2, hb2⟩
  have q0 : w2.cell? ⟨w.heap.size + 1 + 1, 0, none⟩ = some (.int .i64 c.frm) := bkeep hb2 (by go_simp)
  have q1 : w2.cell? ⟨w.heap.size + 1 + 1, 1, none⟩ = some (.int .i64 c.too) := bkeep hb2 (by go_simp)
  have q2 : w2.cell? ⟨w.heap.size + 1 + 1, 2, none⟩ = some (.int .i64 c.wd) := bkeep hb2 (by go_simp)
  have q3 : w2.cell? ⟨w.heap.size + 1 + 1, 3, none⟩ = some (.slice (some ⟨w.heap.size + 1 + 1 + 1, 0, none⟩) c.added.length c1) := bkeep hb2 (by go_simp)
  have q4 : w2.cell? ⟨w.heap.size + 1 + 1, 4, none⟩ = some (.slice none 0 0) := bkeep hb2 (by go_simp)
  have s0 : w2.cell? ⟨w.heap.size + 1, 0, none⟩ = some (.int .i64 0) := bkeep hb2 (by go_simp)
  have s1 : w2.cell? ⟨w.heap.size + 1, 1, none⟩ = some (.int .i64 0) := bkeep hb2 (by go_simp)
  have s2 : w2.cell? ⟨w.heap.size + 1, 2, none⟩ = some (.int .i64 0) := bkeep hb2 (by go_simp)
  have s3 : w2.cell? ⟨w.heap.size + 1, 3, none⟩ = some (.slice none 0 0) := bkeep hb2 (by go_simp)
  have s4 : w2.cell? ⟨w.heap.size + 1, 4, none⟩ = some (.slice none 0 0) := bkeep hb2 (by go_simp)
  have g2 : w2.frozen? ⟨w.heap.size + 1 + 1, 4, none⟩ = false := fkeep hb2 (by simp; omega) (by go_simp)
  have g3 : ∀ o, w2.frozen? ⟨w.heap.size + 1, o, none⟩ = false := fun o => fkeep hb2 (by simp; omega) (by go_simp)
  have hz2 : w1.heap.size ≤ w2.heap.size := by have := hb2.size; simp at this; omega
  have HBB : Hid (Below w.heap.size w w2) := (Below.setCell (p := ⟨w.heap.size + 1 + 1, 3, none⟩) HB1.out (by simp; omega) _).trans (hb2.mono (by simp; omega))
  rw [show (w1.setCell ⟨w.heap.size + 1 + 1, 3, none⟩ (.slice (some ⟨w.heap.size + 1 + 1 + 1, 0, none⟩) c.added.length c1)).heap.size = w1.heap.size by simp [World.setCell]] at hown2
  have HO2 := Lib.hid hown2
  have hlt2 : w1.heap.size < w2.heap.size := (hown2.lt _ rfl).2
  have HOL := Lib.hid (own_later (own_other HO1.out (p := ⟨w.heap.size + 1 + 1, 3, none⟩) (by simp [Value.ownBlock]) _) hb2)
  clear hb2 hown2
  go_wp2_with fail
  refine bodyPost_ret (v := .agg #[.int .i64 c.frm, .int .i64 c.too, .int .i64 c.wd, .slice (some ⟨w.heap.size + 1 + 1 + 1, 0, none⟩) c.added.length c1, .slice (some ⟨w1.heap.size, 0, none⟩) c.removed.length c2]) (by simp only [results, Tryd.results12]; go_simp) rfl ?_
  refine ⟨_, c1, _, c2, rfl, ⟨_, _, rfl, ⟨?_, ?_⟩, ⟨?_, ?_⟩, ?_⟩, ?_⟩
  · exact own_base (ownsRow_setCell_below (ownsRow_setCell_below (ownsRow_setCell_below (ownsRow_setCell_below (ownsRow_setCell_below (ownsRow_setCell_below HOL.out (by simp <;> omega) _) (by simp <;> omega) _) (by simp <;> omega) _) (by simp <;> omega) _) (by simp <;> omega) _) (by simp <;> omega) _) (by omega)
  · intro g hg; simp [Value.ownBlock] at hg; subst hg; simp [World.setCell]; omega
  · exact own_base (ownsRow_setCell_below (ownsRow_setCell_below (ownsRow_setCell_below (ownsRow_setCell_below (ownsRow_setCell_below (ownsRow_setCell_below HO2.out (by simp <;> omega) _) (by simp <;> omega) _) (by simp <;> omega) _) (by simp <;> omega) _) (by simp <;> omega) _) (by simp <;> omega) _) (by omega)
  · intro g hg; simp [Value.ownBlock] at hg; subst hg; simp [World.setCell]; omega
  · exact .inr (by simp [Value.ownBlock]; omega)
  · exact ((((((HBB.out.setCell (by simp; omega) _).setCell (by simp) _).setCell (by simp) _).setCell (by simp) _).setCell (by simp) _).setCell (by simp) _)

theorem eqCalendar_x (v v' : Value) (c : CalD) (w : World) (hr : CalAt w v c) (hr' : CalAt w v' c) (hs : CalSmall c) :
    Calls Tryd.prog 14 #[v, v'] w fun e w' => e = .returned (.bool true) ∧ Below w.heap.size w w' := by
  obtain ⟨av, rv, rfl, ha, hrm⟩ := hr
  obtain ⟨av', rv', rfl, ha', hrm'⟩ := hr'
  have HS := Lib.hid (fun W (hW : Below w.heap.size w W) => eqIntS_same av av' c.added W (ha.below rfl hW) (ha'.below rfl hW))
  have HR := Lib.hid (fun W (hW : Below w.heap.size w W) => eqIntS_same rv rv' c.removed W (hrm.below rfl hW) (hrm'.below rfl hW))
  obtain ⟨a, ca, rfl, _⟩ := ints_open ha
  obtain ⟨b, cb, rfl, _⟩ := ints_open hrm
  obtain ⟨a', ca', rfl, _⟩ := ints_open ha'
  obtain ⟨b', cb', rfl, _⟩ := ints_open hrm'
  clear ha hrm ha' hrm'
  have e0 : (c.frm != c.frm) = false := by simp
  have e1 : (c.too != c.too) = false := by simp
  have e2 : (c.wd != c.wd) = false := by simp
  go_enter Tryd.func14, Tryd.ntmps14
  go_wp2_with fail
  go_at_call 47
  refine (HS.out _ (((Below.refl _ _).alloc (Nat.le_refl _) _).alloc (by simp) _)).mono ?_
  rintro e w1 ⟨rfl, hb1⟩
  have HB1 : Hid (Below w.heap.size w w1) := (((Below.refl _ _).alloc (Nat.le_refl _) _).alloc (by simp) _).trans (hb1.mono (by simp; omega))
  have p2 : w1.cell? ⟨w.heap.size, 4, none⟩ = some (.slice b c.removed.length cb) := bkeep hb1 (by go_simp)
  have q2 : w1.cell? ⟨w.heap.size + 1, 4, none⟩ = some (.slice b' c.removed.length cb') := bkeep hb1 (by go_simp)
  clear hb1
  go_wp2_with fail
  go_at_call 47
  refine (HR.out _ HB1.out).mono ?_
  rintro e w2 ⟨rfl, hb2⟩
  have HB2 : Hid (Below w.heap.size w w2) := HB1.out.trans (hb2.mono HB1.out.size)
  clear hb2
  go_wp2_with fail
  go_ret
  exact ⟨rfl, HB2.out⟩
end Go.Proofs.YtffcgblionlhhaaDoor
