import Derived.Test.YtemejcbilhcebaaCalImpl
namespace Go.Proofs.Ytemejcbilhcebaa
open Go.RowKit
set_option linter.unusedVariables false

theorem calGood_ex {c : CalD} : CalGood c ↔ CalNum c ∧ ExOk c c.added false ∧ ExOk c c.removed true :=
  ⟨fun ⟨a, b, d, e, f, g, h⟩ => ⟨a, ⟨b, e, g⟩, ⟨d, f, h⟩⟩, fun ⟨a, ⟨b, e, g⟩, ⟨d, f, h⟩⟩ => ⟨a, b, d, e, f, g, h⟩⟩

set_option maxRecDepth 100000 in
set_option maxHeartbeats 2000000 in
theorem implValidCal_any (v : Value) (c : CalD) (w : World) (hr : CalAt w v c) :
    Calls Try.prog 23 #[v] w fun e w' => e = .returned (.bool (calB c)) ∧ Below w.heap.size w w' := by
  have HAt := Lib.hid (fun W (h : Below w.heap.size w W) => hr.below rfl h)
  obtain ⟨av, rv, rfl, ha, hrm⟩ := hr
  have HA := Lib.hid (fun W (h : Below w.heap.size w W) (hn : CalNum c) => isExceptionList_any _ av c c.added false W (HAt.out W h) (ha.below rfl h) hn)
  have HR := Lib.hid (fun W (h : Below w.heap.size w W) (hn : CalNum c) => isExceptionList_any _ rv c c.removed true W (HAt.out W h) (hrm.below rfl h) hn)
  obtain ⟨a, ca, rfl, _⟩ := ints_open ha
  obtain ⟨b, cb, rfl, _⟩ := ints_open hrm
  clear ha hrm
  by_cases h1 : 0 ≤ c.frm ∧ c.frm ≤ c.too ∧ c.too ≤ 3650
  rotate_left
  · have HN : Hid (calB c = false) := calB_no (fun g => h1 ⟨g.1.1, g.1.2.1, g.1.2.2.1⟩)
    have H1 := Lib.hid h1
    clear h1 HA HR HAt
    go_enter Try.func23, Try.ntmps23
    go_wp2_with fail
    go_at_call 66
    refine (areBounds_no _ _ _ H1.out).mono ?_
    rintro e w' ⟨rfl, rfl⟩
    go_wp2_with fail
    go_ret
    exact ⟨ret_bool HN.out.symm, (Below.refl _ _).alloc (Nat.le_refl _) _⟩
  have H1 := Lib.hid h1
  by_cases h3 : 0 ≤ c.wd ∧ c.wd ≤ 127
  rotate_left
  · have HN : Hid (calB c = false) := calB_no (fun g => h3 ⟨g.1.2.2.2.1, g.1.2.2.2.2⟩)
    have h3' : c.wd < 0 ∨ (0 ≤ c.wd ∧ 127 < c.wd) := by omega
    clear h1 h3 HA HR HAt
    rcases h3' with h3 | ⟨h3, h4⟩
    all_goals
      go_enter Try.func23, Try.ntmps23
      go_wp2_with fail
      go_at_call 66
      refine (areBounds_yes _ _ _ H1.out).mono ?_
      rintro e w' ⟨rfl, rfl⟩
      go_wp2_with fail
      go_ret
      exact ⟨ret_bool HN.out.symm, (Below.refl _ _).alloc (Nat.le_refl _) _⟩
  have HNum : Hid (CalNum c) := ⟨h1.1, h1.2.1, h1.2.2, h3.1, h3.2⟩
  obtain ⟨g3, g4⟩ := h3
  clear h1
  go_enter Try.func23, Try.ntmps23
  go_wp2_with fail
  go_at_call 66
  refine (areBounds_yes _ _ _ H1.out).mono ?_
  rintro e w' ⟨rfl, rfl⟩
  go_wp2_with fail
  go_at_call 77
  refine (HA.out _ ((Below.refl _ _).alloc (Nat.le_refl _) _) HNum.out).mono ?_
  rintro e w1 ⟨rfl, hb1⟩
  have HB1 : Hid (Below w.heap.size w w1) := ((Below.refl _ _).alloc (Nat.le_refl _) _).trans (hb1.mono (by simp))
  obtain ⟨c0, c1, c2, c3, c4⟩ := (calBox_new w c (.slice a c.added.length ca) (.slice b c.removed.length cb) _).keep hb1
  clear hb1
  by_cases hea : ExOk c c.added false
  rotate_left
  · have HN : Hid (calB c = false) := calB_no (fun g => hea (calGood_ex.1 g).2.1)
    rw [exB_no hea]
    clear hea
    go_wp2_with fail
    go_ret
    exact ⟨ret_bool HN.out.symm, HB1.out⟩
  rw [exB_yes hea]
  have HE : Hid (calB c = exB c c.removed true) := by
    show _ = _
    by_cases h : ExOk c c.removed true
    · rw [exB_yes h]; exact calB_yes (calGood_ex.2 ⟨HNum.out, hea, h⟩)
    · rw [exB_no h]; exact calB_no fun g => h (calGood_ex.1 g).2.2
  clear hea
  go_wp2_with fail
  go_at_call 77
  refine (HR.out _ HB1.out HNum.out).mono ?_
  rintro e w2 ⟨rfl, hb2⟩
  go_wp2_with fail
  go_ret
  exact ⟨ret_bool HE.out.symm, HB1.out.trans (hb2.mono HB1.out.size)⟩

theorem runsB_wd {c : CalD} {d : Int} (h : c.frm ≤ d ∧ d ≤ c.too) (hw : wdB c.wd d = true) : runsB c d = !(inB d c.removed) := by
  rw [Bool.eq_iff_iff, runsB_iff]; unfold Runs; rw [if_pos hw]; simp [h, inB]
theorem runsB_nwd {c : CalD} {d : Int} (h : c.frm ≤ d ∧ d ≤ c.too) (hw : wdB c.wd d = false) : runsB c d = inB d c.added := by
  rw [Bool.eq_iff_iff, runsB_iff]; unfold Runs; rw [if_neg (by rw [hw]; simp)]; simp [h, inB]

set_option maxHeartbeats 1000000 in
theorem doesRun_any (v : Value) (c : CalD) (d : Int) (w : World) (hr : CalAt w v c) (hn : CalNum c) :
    Calls Try.prog 79 #[v, .int .i64 d] w fun e w' => e = .returned (.bool (runsB c d)) ∧ Below w.heap.size w w' := by
  obtain ⟨av, rv, rfl, ha, hrm⟩ := hr
  have HA := Lib.hid (fun W (h : Below w.heap.size w W) => containsInt_any av c.added d (inB d c.added) rfl W (ha.below rfl h))
  have HR := Lib.hid (fun W (h : Below w.heap.size w W) => containsInt_any rv c.removed d (inB d c.removed) rfl W (hrm.below rfl h))
  obtain ⟨a, ca, rfl, _⟩ := ints_open ha
  obtain ⟨b, cb, rfl, _⟩ := ints_open hrm
  clear ha hrm
  obtain ⟨n1, n2, n3, n4, n5⟩ := hn
  by_cases hd : c.frm ≤ d ∧ d ≤ c.too
  rotate_left
  · have HN : Hid (runsB c d = false) := runsB_no fun g => hd g.1
    have hd' : d < c.frm ∨ (c.frm ≤ d ∧ c.too < d) := by omega
    clear hd
    rcases hd' with h | ⟨h, h'⟩
    all_goals
      go_enter Try.func79, Try.ntmps79
      go_wp2_with fail
      go_ret
      exact ⟨ret_bool HN.out.symm, (Below.refl _ _).alloc (Nat.le_refl _) _⟩
  have HW := Lib.hid (fun W => hasWeekday_any c.wd d W n4 n5 (by omega) (by omega))
  by_cases hw : wdB c.wd d = true
  · have HE := Lib.hid (runsB_wd hd hw)
    rw [hw] at HW
    obtain ⟨h, h'⟩ := hd
    clear hw
    go_enter Try.func79, Try.ntmps79
    go_wp2_with fail
    go_at_call 70
    refine (HW.out _).mono ?_
    rintro e w' ⟨rfl, rfl⟩
    go_wp2_with fail
    go_at_call 61
    refine (HR.out _ ((Below.refl _ _).alloc (Nat.le_refl _) _)).mono ?_
    rintro e w' ⟨rfl, rfl⟩
    go_wp2_with fail
    go_ret
    exact ⟨ret_bool HE.out.symm, (Below.refl _ _).alloc (Nat.le_refl _) _⟩
  · have hw' : wdB c.wd d = false := by simpa using hw
    have HE := Lib.hid (runsB_nwd hd hw')
    rw [hw'] at HW
    obtain ⟨h, h'⟩ := hd
    clear hw hw'
    go_enter Try.func79, Try.ntmps79
    go_wp2_with fail
    go_at_call 70
    refine (HW.out _).mono ?_
    rintro e w' ⟨rfl, rfl⟩
    go_wp2_with fail
    go_at_call 61
    refine (HA.out _ ((Below.refl _ _).alloc (Nat.le_refl _) _)).mono ?_
    rintro e w' ⟨rfl, rfl⟩
    go_wp2_with fail
    go_ret
    exact ⟨ret_bool HE.out.symm, (Below.refl _ _).alloc (Nat.le_refl _) _⟩

set_option maxHeartbeats 1000000 in
theorem l3Runs_any (v : Value) (c : CalD) (d : Int) (w : World) (hr : CalAt w v c) (hg : CalGood c) :
    Calls Try.prog 63 #[v, .int .i64 d] w fun e w' => e = .returned (.bool (runsB c d)) ∧ Below w.heap.size w w' := by
  have HReg := Lib.hid (fun W (h : Below w.heap.size w W) => l3Regular_any v c d W (hr.below rfl h) hg.1)
  obtain ⟨av, rv, rfl, ha, hrm⟩ := hr
  have HA := Lib.hid (fun W (h : Below w.heap.size w W) => l1Has_any av c.added d W (ha.below rfl h))
  have HR := Lib.hid (fun W (h : Below w.heap.size w W) => l1Has_any rv c.removed d W (hrm.below rfl h))
  obtain ⟨a, ca, rfl, _⟩ := ints_open ha
  obtain ⟨b, cb, rfl, _⟩ := ints_open hrm
  clear ha hrm
  have HG := Lib.hid hg
  clear hg
  by_cases hd : d ∈ c.added
  · have HN : Hid (runsB c d = true) := runsB_yes (runs_added HG.out hd)
    have HI := Lib.hid (inB_yes hd)
    clear hd
    go_enter Try.func63, Try.ntmps63
    go_wp2_with fail
    go_at_call 73
    refine (HA.out _ ((Below.refl _ _).alloc (Nat.le_refl _) _)).mono ?_
    rintro e w' ⟨rfl, rfl⟩
    rw [HI.out]
    go_wp2_with fail
    go_ret
    exact ⟨ret_bool HN.out.symm, (Below.refl _ _).alloc (Nat.le_refl _) _⟩
  have HI := Lib.hid (inB_no hd)
  have HRn := Lib.hid (runs_reg hd)
  clear hd
  go_enter Try.func63, Try.ntmps63
  go_wp2_with fail
  go_at_call 73
  refine (HA.out _ ((Below.refl _ _).alloc (Nat.le_refl _) _)).mono ?_
  rintro e w' ⟨rfl, rfl⟩
  rw [HI.out]
  go_wp2_with fail
  go_at_call 74
  refine (HReg.out _ ((Below.refl _ _).alloc (Nat.le_refl _) _)).mono ?_
  rintro e w1 ⟨rfl, hb1⟩
  have HB1 : Hid (Below w.heap.size w w1) := ((Below.refl _ _).alloc (Nat.le_refl _) _).trans (hb1.mono (by simp))
  obtain ⟨c0, c1, c2, c3, c4⟩ := (calBox_new w c (.slice a c.added.length ca) (.slice b c.removed.length cb) _).keep hb1
  clear hb1
  by_cases hg : Reg c d
  · have HE : Hid (runsB c d = !(inB d c.removed)) := by
      show _ = _
      rw [Bool.eq_iff_iff, runsB_iff, HRn.out]; simp [hg, inB]
    rw [regB_yes hg]
    clear hg
    go_wp2_with fail
    go_at_call 73
    refine (HR.out _ HB1.out).mono ?_
    rintro e w' ⟨rfl, rfl⟩
    go_wp2_with fail
    go_ret
    exact ⟨ret_bool HE.out.symm, HB1.out⟩
  · have HE : Hid (runsB c d = false) := runsB_no fun h => hg (HRn.out.1 h).1
    rw [regB_no hg]
    clear hg
    go_wp2_with fail
    go_ret
    exact ⟨ret_bool HE.out.symm, HB1.out⟩
end Go.Proofs.Ytemejcbilhcebaa
