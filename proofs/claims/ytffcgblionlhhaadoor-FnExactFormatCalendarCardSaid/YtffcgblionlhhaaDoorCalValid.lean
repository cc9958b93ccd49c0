/-
  CONTRACTS: impl.IsValidCalendar, spec.IsValidCalendar, impl.doesRun, spec.l3Runs: what was in memory stays as it was.
-/
import Derived.Test.YtffcgblionlhhaaDoorCalImpl
namespace Go.Proofs.YtffcgblionlhhaaDoor
open Go.RowKit
set_option linter.unusedVariables false

theorem calGood_ex {c : CalD} : CalGood c ↔ CalNum c ∧ ExOk c c.added false ∧ ExOk c c.removed true :=
  ⟨fun ⟨a, b, d, e, f, g, h⟩ => ⟨a, ⟨b, e, g⟩, ⟨d, f, h⟩⟩, fun ⟨a, ⟨b, e, g⟩, ⟨d, f, h⟩⟩ => ⟨a, b, d, e, f, g, h⟩⟩

set_option maxRecDepth 100000 in
set_option maxHeartbeats 2000000 in
theorem implValidCal_any (v : Value) (c : CalD) (w : World) (hr : CalAt w v c) :
    Calls Tryd.prog 43 #[v] w fun e w' => e = .returned (.bool (calB c)) ∧ Below w.heap.size w w' := by
  have HAt := Lib.hid (fun W (h : Below w.heap.size w W) => hr.below rfl h)
  obtain ⟨av, rv, rfl, ha, hrm⟩ := hr
  have HA := Lib.hid (fun W (h : Below w.heap.size w W) (hn : CalNum c) => isExceptionList_any _ av c c.added false W (HAt.out W h) (ha.below rfl h) hn)
  have HR := Lib.hid (fun W (h : Below w.heap.size w W) (hn : CalNum c) => isExceptionList_any _ rv c c.removed true W (HAt.out W h) (hrm.below rfl h) hn)
  obtain ⟨a, ca, rfl, _⟩ := ints_open ha
  obtain ⟨b, cb, rfl, _⟩ := ints_open hrm
  clear ha hrm
  by_cases h1 : 0 ≤ c.frm ∧ c.frm ≤ c.too ∧ c.too ≤ 3650
  rotate_left
  · have HN : Hid (calB c = false) := calB_no (fun g => h1 ⟨g.1.1, g.1.2.1, g.1.2.2.1⟩)
    have H1 := Lib.hid h1
    clear h1 HA HR HAt
    go_enter Tryd.func43, Tryd.ntmps43
    go_wp2_with fail
    go_at_call 98
    refine (areBounds_no _ _ _ H1.out).mono ?_
    rintro e w' ⟨rfl, rfl⟩
    go_wp2_with fail
    go_ret
    exact ⟨ret_bool HN.out.symm, (Below.refl _ _).alloc (Nat.le_refl _) _⟩
  have H1 := Lib.hid h1
  by_cases h3 : 0 ≤ c.wd ∧ c.wd ≤ 127
  rotate_left
  · have HN : Hid (calB c = false) := calB_no (fun g => h3 ⟨g.1.2.2.2.1, g.1.2.2.2.2⟩)
    have h3' : c.wd < 0 ∨ (0 ≤ c.wd ∧ 127 < c.wd) := by omega
    clear h1 h3 HA HR HAt
    rcases h3' with h3 | ⟨h3, h4⟩
    all_goals
      go_enter Tryd.func43, Tryd.ntmps43
      go_wp2_with fail
      go_at_call 98
      refine (areBounds_yes _ _ _ H1.out).mono ?_
      rintro e w' ⟨rfl, rfl⟩
      go_wp2_with fail
      go_ret
      exact ⟨ret_bool HN.out.symm, (Below.refl _ _).alloc (Nat.le_refl _) _⟩
  have HNum : Hid (CalNum c) := ⟨h1.1, h1.2.1, h1.2.2, h3.1, h3.2⟩
  obtain ⟨g3, g4⟩ := h3
  clear h1
  go_enter Tryd.func43, Tryd.ntmps43
  go_wp2_with fail
  go_at_call 98
  refine (areBounds_yes _ _ _ H1.out).mono ?_
  rintro e w' ⟨rfl, rfl⟩
  go_wp2_with fail
  go_at_call 99
  refine (HA.out _ ((Below.refl _ _).alloc (Nat.le_refl _) _) HNum.out).mono ?_
  rintro e w1 ⟨rfl, hb1⟩
  have HB1 : Hid (Below w.heap.size w w1) := ((Below.refl _ _).alloc (Nat.le_refl _) _).trans (hb1.mono (by simp))
  obtain ⟨c0, c1, c2, c3, c4⟩ := (calBox_new w c (.slice a c.added.length ca) (.slice b c.removed.length cb) _).keep hb1
  clear hb1
  by_cases hea : ExOk c c.added false
  rotate_left
  · have HN : Hid (calB c = false) := calB_no (fun g => hea (calGood_ex.1 g).2.1)
    rw [exB_no hea]
    clear hea
    go_wp2_with fail
    go_ret
    exact ⟨ret_bool HN.out.symm, HB1.out⟩
  rw [exB_yes hea]
  have HE : Hid (calB c = exB c c.removed true) := by
    show _ = _
    by_cases h : ExOk c c.removed true
    · rw [exB_yes h]; exact calB_yes (calGood_ex.2 ⟨HNum.out, hea, h⟩)
    · rw [exB_no h]; exact calB_no fun g => h (calGood_ex.1 g).2.2
  clear hea
  go_wp2_with fail
  go_at_call 99
  refine (HR.out _ HB1.out HNum.out).mono ?_
  rintro e w2 ⟨rfl, hb2⟩
  go_wp2_with fail
  go_ret
  exact ⟨ret_bool HE.out.symm, HB1.out.trans (hb2.mono HB1.out.size)⟩

theorem runsB_wd {c : CalD} {d : Int} (h : c.frm ≤ d ∧ d ≤ c.too) (hw : wdB c.wd d = true) : runsB c d = !(inB d c.removed) := by
  rw [Bool.eq_iff_iff, runsB_iff]; unfold Runs; rw [if_pos hw]; simp [h, inB]
theorem runsB_nwd {c : CalD} {d : Int} (h : c.frm ≤ d ∧ d ≤ c.too) (hw : wdB c.wd d = false) : runsB c d = inB d c.added := by
  rw [Bool.eq_iff_iff, runsB_iff]; unfold Runs; rw [if_neg (by rw [hw]; simp)]; simp [h, inB]

end Go.Proofs.YtffcgblionlhhaaDoor
