/-
  CONTRACT: spec.ExceptDay.
-/
import Derived.Test.YtbbcjponeiphaaaExcDay
namespace Go.Proofs.Ytbbcjponeiphaaa
open Go.RowKit
set_option linter.unusedVariables false
attribute [local go_sem] Oper.semAt_some

theorem exL_not (l : List Int) (d : Int) : d ∉ exL l d false := by
  unfold exL
  simp

set_option maxRecDepth 100000 in
set_option maxHeartbeats 8000000 in
theorem specExc_any (v : Value) (c : CalD) (d : Int) (r : Bool) (w : World) (hr : CalAt w v c) (hsm : CalSmall c) :
    Calls Try.prog 29 #[v, .int .i64 d, .bool r] w fun e w' => ∃ z, e = .returned (.tuple #[z, .bool (excB c d r)]) ∧ CalIn w.heap.size w'.heap.size w' z (excAns c d r) ∧ Below w.heap.size w w' := by
  have HV := Lib.hid (fun W (h : Below w.heap.size w W) => l3Good_any v c W (hr.below rfl h))
  have HRg0 := Lib.hid (fun W (h : Below w.heap.size w W) (hn : CalNum c) => l3Regular_any v c d W (hr.below rfl h) hn)
  obtain ⟨av, rv, rfl, ha, hrm⟩ := hr
  have hsA : c.added.length ≤ 1048576 := by unfold CalSmall at hsm; omega
  have hsR : c.removed.length ≤ 1048576 := by unfold CalSmall at hsm; omega
  have HLA := Lib.hid (fun W (h : Below w.heap.size w W) => l3Without_any av c.added d W (ha.below rfl h) hsA)
  have HLR := Lib.hid (fun W (h : Below w.heap.size w W) => l3Without_any rv c.removed d W (hrm.below rfl h) hsR)
  obtain ⟨a1, c1, rfl, _⟩ := ints_open ha
  obtain ⟨a2, c2, rfl, _⟩ := ints_open hrm
  clear ha hrm hsm hsA hsR
  have HBx0 := Lib.hid (excBoxes w c (.slice a1 c.added.length c1) (.slice a2 c.removed.length c2) 27 27)
  have HB0 : Hid (Below w.heap.size w ((w.alloc (.cells #[.int .i64 c.frm, .int .i64 c.too, .int .i64 c.wd, .slice a1 c.added.length c1, .slice a2 c.removed.length c2] 27)).alloc (.cells #[.int .i64 0, .int .i64 0, .int .i64 0, .slice none 0 0, .slice none 0 0] 27))) := ((Below.refl _ _).alloc (Nat.le_refl _) _).alloc (by simp) _
  go_enter Try.func29, Try.ntmps29
  go_wp2_with fail
  go_at_call 81
  refine (HV.out _ HB0.out).mono ?_
  rintro e w1 ⟨rfl, hb1⟩
  have HB1 : Hid (Below w.heap.size w w1) := HB0.out.trans (hb1.mono (by simp; omega))
  have HX1 := Lib.hid (HBx0.out.1.keep hb1)
  have HZ1 := Lib.hid (HBx0.out.2.keep hb1)
  have HZf1 : Hid (∀ o, w1.frozen? ⟨w.heap.size + 1, o, none⟩ = false) := fun o => fkeep hb1 (by simp) (by go_simp)
  have hz1 : w.heap.size + 2 ≤ w1.heap.size := by have := hb1.size; simp at this; omega
  clear hb1 HBx0 HB0
  obtain ⟨x0, x1, x2, x3, x4⟩ := HX1.out
  obtain ⟨r0, r1, r2, r3, r4⟩ := HZ1.out
  have r0 : w1.cell? ⟨w.heap.size + 1, 0, none⟩ = some (.int .i64 0) := r0
  have r1 : w1.cell? ⟨w.heap.size + 1, 1, none⟩ = some (.int .i64 0) := r1
  have r2 : w1.cell? ⟨w.heap.size + 1, 2, none⟩ = some (.int .i64 0) := r2
  have hf1 := HZf1.out
  by_cases hg : CalGood c
  rotate_left
  · have HN := Lib.hid (excAns_no (c := c) (d := d) (r := r) fun h => hg h.1)
    rw [calB_no hg]
    clear hg
    go_wp2_with fail
    refine bodyPost_ret (v := .tuple #[.agg #[.int .i64 0, .int .i64 0, .int .i64 0, .slice none 0 0, .slice none 0 0], .bool false]) (by simp only [results, Try.results29]; go_simp) rfl ⟨_, by rw [HN.out.2], by rw [HN.out.1]; exact calZ_in _ _ _, (((((HB1.out.setCell (p := ⟨w.heap.size + 1, 0, none⟩) (Nat.le_succ _) _).setCell (p := ⟨w.heap.size + 1, 1, none⟩) (Nat.le_succ _) _).setCell (p := ⟨w.heap.size + 1, 2, none⟩) (Nat.le_succ _) _).setCell (p := ⟨w.heap.size + 1, 3, none⟩) (Nat.le_succ _) _).setCell (p := ⟨w.heap.size + 1, 4, none⟩) (Nat.le_succ _) _)⟩
  rw [calB_yes hg]
  by_cases hd : c.frm ≤ d ∧ d ≤ c.too
  rotate_left
  · have HN := Lib.hid (excAns_no (c := c) (d := d) (r := r) fun h => hd h.2.1)
    have HD := Lib.hid hd
    clear hg hd
    go_wp2_with fail
    go_at_call 90
    refine (l1In_no _ _ _ _ HD.out).mono ?_
    rintro e w' ⟨rfl, rfl⟩
    go_wp2_with fail
    refine bodyPost_ret (v := .tuple #[.agg #[.int .i64 0, .int .i64 0, .int .i64 0, .slice none 0 0, .slice none 0 0], .bool false]) (by simp only [results, Try.results29]; go_simp) rfl ⟨_, by rw [HN.out.2], by rw [HN.out.1]; exact calZ_in _ _ _, (((((HB1.out.setCell (p := ⟨w.heap.size + 1, 0, none⟩) (Nat.le_succ _) _).setCell (p := ⟨w.heap.size + 1, 1, none⟩) (Nat.le_succ _) _).setCell (p := ⟨w.heap.size + 1, 2, none⟩) (Nat.le_succ _) _).setCell (p := ⟨w.heap.size + 1, 3, none⟩) (Nat.le_succ _) _).setCell (p := ⟨w.heap.size + 1, 4, none⟩) (Nat.le_succ _) _)⟩
  have HG := Lib.hid hg
  have HD := Lib.hid hd
  have HPa := Lib.hid (rise_pair HG.out.2.2.2.1)
  have HPr := Lib.hid (rise_pair HG.out.2.2.2.2.1)
  have hnA : (exL c.added d false).length ≤ 1048576 := by have := exL_len c.added d false; have := HG.out.2.1; omega
  have hnR : (exL c.removed d false).length ≤ 1048576 := by have := exL_len c.removed d false; have := HG.out.2.2.1; omega
  have HNum := Lib.hid hg.1
  obtain ⟨⟨n1, n2, n3, n4, n5⟩, _⟩ := hg
  obtain ⟨wb, hwb⟩ : ∃ wb, wdB c.wd d = wb := ⟨_, rfl⟩
  have HEx : Hid (excC c d r = ⟨c.frm, c.too, c.wd, exL c.added d (r && !wb), exL c.removed d (!r && wb)⟩) := by show _ = _; simp [excC, hwb]
  have HRb : Hid (regB c d = wb) := by show _ = _; rw [← hwb, Bool.eq_iff_iff, regB_iff]; exact ⟨fun g => g.2, fun g => ⟨HD.out, g⟩⟩
  obtain ⟨E, HE⟩ : ∃ E, Hid (E = excC c d r) := ⟨_, rfl⟩
  have HYes : Hid (CalGood E → excAns c d r = E ∧ excB c d r = true) := fun h => by rw [HE.out] at h ⊢; exact excAns_yes ⟨HG.out, HD.out, h⟩
  have HNo : Hid (¬ CalGood E → excAns c d r = calZ ∧ excB c d r = false) := fun h => excAns_no fun g => h (by rw [HE.out]; exact g.2.2)
  rw [← HE.out] at HEx
  clear hwb hd
  have HB1' : Hid (Below w.heap.size w (w1.alloc (.cells #[.int .i64 c.frm, .int .i64 c.too, .int .i64 c.wd, .slice a1 c.added.length c1, .slice a2 c.removed.length c2] 27))) := HB1.out.alloc (by omega) _
  have HCb1 := Lib.hid (calBox_new w1 c (.slice a1 c.added.length c1) (.slice a2 c.removed.length c2) 27)
  have HXb1 := Lib.hid (HX1.out.keep ((Below.refl _ _).alloc (Nat.le_refl _) (.cells #[.int .i64 c.frm, .int .i64 c.too, .int .i64 c.wd, .slice a1 c.added.length c1, .slice a2 c.removed.length c2] 27)))
  have HZb1 := Lib.hid (HZ1.out.keep ((Below.refl _ _).alloc (Nat.le_refl _) (.cells #[.int .i64 c.frm, .int .i64 c.too, .int .i64 c.wd, .slice a1 c.added.length c1, .slice a2 c.removed.length c2] 27)))
  have HZf1' : Hid (∀ o, (w1.alloc (.cells #[.int .i64 c.frm, .int .i64 c.too, .int .i64 c.wd, .slice a1 c.added.length c1, .slice a2 c.removed.length c2] 27)).frozen? ⟨w.heap.size + 1, o, none⟩ = false) := fun o => fkeep ((Below.refl _ _).alloc (Nat.le_refl _) _) (by show w.heap.size + 1 < _; omega) (HZf1.out o)
  have hlt1 : w.heap.size < w1.heap.size := by omega
  have hlt2 : w.heap.size + 1 < w1.heap.size := by omega
  go_wp2_with fail
  go_at_call 90
  refine (l1In_yes _ _ _ _ HD.out).mono ?_
  rintro e w' ⟨rfl, rfl⟩
  go_wp2_with fail
  go_at_call 91
  refine (HLA.out _ HB1'.out).mono ?_
  rintro e w2 ⟨v3, rfl, hv3, ho3, hb2⟩
  rw [show wout d c.added = exL c.added d false from exL_filter HPa.out] at ho3
  obtain ⟨a3, k3, c3, rfl⟩ := ints_slice (rowAt_own ho3)
  have HB2 : Hid (Below w.heap.size w w2) := HB1'.out.trans (hb2.mono (by simp; omega))
  have hz2 : w1.heap.size + 1 ≤ w2.heap.size := by have := hb2.size; simpa using this
  have HX2 := Lib.hid (HXb1.out.keep hb2)
  have HZ2 := Lib.hid (HZb1.out.keep hb2)
  have HC2 := Lib.hid (HCb1.out.keep hb2)
  have HZf2 : Hid (∀ o, w2.frozen? ⟨w.heap.size + 1, o, none⟩ = false) := fun o => fkeep hb2 (by show w.heap.size + 1 < _; simp; omega) (HZf1'.out o)
  have HCf2 : Hid (∀ o, w2.frozen? ⟨w1.heap.size, o, none⟩ = false) := fun o => fkeep hb2 (by simp) (by go_simp)
  have HI3 := Lib.hid (IntsIn.base (IntsIn.mk ho3) (by show w1.heap.size + 1 ≤ _; simp) (Nat.le_refl _))
  clear ho3 hb2 x0 x1 x2 x3 x4 r0 r1 r2 r3 r4 hf1
  obtain ⟨x0, x1, x2, x3, x4⟩ := HX2.out
  obtain ⟨q0, q1, q2, q3, q4⟩ := HC2.out
  have hfc := HCf2.out
  go_wp2_with fail
  go_at_call 91
  refine (HLR.out _ ?hbw).mono ?_
  case hbw => exact HB2.out.setCell (p := ⟨w1.heap.size, 3, none⟩) (by show w.heap.size ≤ w1.heap.size; omega) _
  rintro e w3 ⟨v4, rfl, hv4, ho4, hb3⟩
  rw [show wout d c.removed = exL c.removed d false from exL_filter HPr.out] at ho4
  obtain ⟨a4, k4, c4, rfl⟩ := ints_slice (rowAt_own ho4)
  have HO2 := Lib.hid (setOutE w2 w1.heap.size 3 (.slice a3 k3 c3))
  have HB3 : Hid (Below w.heap.size w w3) := (HB2.out.setCell (p := ⟨w1.heap.size, 3, none⟩) (by show w.heap.size ≤ w1.heap.size; omega) _).trans (hb3.mono (by rw [size_setCell']; omega))
  have hz3 : w2.heap.size ≤ w3.heap.size := by have := hb3.size; rwa [size_setCell'] at this
  have HX3 := Lib.hid ((calBox_out HX2.out HO2.out (.inl (by omega))).keep hb3)
  have HZ3 := Lib.hid ((calBox_out HZ2.out HO2.out (.inl (by omega))).keep hb3)
  have HZf3 : Hid (∀ o, w3.frozen? ⟨w.heap.size + 1, o, none⟩ = false) := fun o => fkeep hb3 (by show w.heap.size + 1 < _; rw [size_setCell']; omega) (free_out HZ2.out HZf2.out HO2.out (.inl (by omega)) o)
  have HI3' := Lib.hid ((HI3.out.out HO2.out (.inr (Nat.le_refl _))).later hb3)
  have HI4 := Lib.hid (IntsIn.base (IntsIn.mk ho4) (by rw [size_setCell']; exact Nat.le_refl _) (Nat.le_refl _))
  have s0 : w3.cell? ⟨w1.heap.size, 0, none⟩ = some (.int .i64 c.frm) := bkeep hb3 (by rw [set_other (by decide)]; exact q0)
  have s1 : w3.cell? ⟨w1.heap.size, 1, none⟩ = some (.int .i64 c.too) := bkeep hb3 (by rw [set_other (by decide)]; exact q1)
  have s2 : w3.cell? ⟨w1.heap.size, 2, none⟩ = some (.int .i64 c.wd) := bkeep hb3 (by rw [set_other (by decide)]; exact q2)
  have s3 := bkeep hb3 (set_same (u := .slice a3 k3 c3) q3)
  have s4 : w3.cell? ⟨w1.heap.size, 4, none⟩ = some (.slice a2 c.removed.length c2) := bkeep hb3 (by rw [set_other (by decide)]; exact q4)
  have hfs : ∀ o, w3.frozen? ⟨w1.heap.size, o, none⟩ = false := fun o => fkeep hb3 (by show w1.heap.size < _; rw [size_setCell']; omega) (by simpa using HCf2.out o)
  obtain ⟨w4, hw4⟩ : ∃ w4 : World, w4 = w3.setCell ⟨w1.heap.size, 4, none⟩ (.slice a4 k4 c4) := ⟨_, rfl⟩
  have HO3 : Hid (Out w1.heap.size (w1.heap.size + 1) w3 w4) := by rw [hw4]; exact setOutE w3 w1.heap.size 4 _
  have hz4 : w4.heap.size = w3.heap.size := by rw [hw4, size_setCell']
  have HFb : Hid (FitBox w4 (w1.heap.size + 1) w1.heap.size ⟨c.frm, c.too, c.wd, exL c.added d false, exL c.removed d false⟩ (.slice a3 k3 c3) (.slice a4 k4 c4)) := by
    have e3 := (HI3'.out.out HO3.out (.inr (Nat.le_refl _)))
    have e4 := ((HI4.out.out HO3.out (.inr hz2)).base hz2 (Nat.le_refl _))
    refine ⟨⟨?_, ?_, ?_, ?_, ?_⟩, fun o => by rw [hw4]; simpa using hfs o, e3.1, e4.1, .inr fun e => ?_, fun e => by have := e3.lo _ e; omega, fun e => by have := e4.lo _ e; omega⟩
    · rw [hw4, set_other (by decide)]; exact s0
    · rw [hw4, set_other (by decide)]; exact s1
    · rw [hw4, set_other (by decide)]; exact s2
    · rw [hw4, set_other (by decide)]; exact s3
    · rw [hw4]; exact set_same s4
    · obtain ⟨g, hg⟩ := Option.ne_none_iff_exists'.1 hv3
      have g1 := HI3.out.2 g hg
      have g2 := HI4.out.lo g (by rw [← e]; exact hg)
      omega
  have HB4 : Hid (Below w.heap.size w w4) := by show Below _ _ _; rw [hw4]; exact HB3.out.setCell (p := ⟨w1.heap.size, 4, none⟩) (by show w.heap.size ≤ w1.heap.size; omega) _
  have HX4 := Lib.hid (calBox_out HX3.out HO3.out (.inl (by omega)))
  have HZ4 := Lib.hid (calBox_out HZ3.out HO3.out (.inl (by omega)))
  have HZf4 : Hid (∀ o, w4.frozen? ⟨w.heap.size + 1, o, none⟩ = false) := fun o => free_out HZ3.out HZf3.out HO3.out (.inl (by omega)) o
  obtain ⟨z0, z1, z2, z3, z4⟩ := HX3.out
  clear ho4 hb3 x0 x1 x2 x3 x4 q0 q1 q2 q3 q4 hfc
  have HRg := Lib.hid (HRg0.out w4 HB4.out HNum.out)
  rw [HRb.out] at HRg
  obtain ⟨y0, y1, y2, y3, y4⟩ := HX4.out
  obtain ⟨t0, t1, t2, t3, t4⟩ := HFb.out.box
  have t0 : w4.cell? ⟨w1.heap.size, 0, none⟩ = some (.int .i64 c.frm) := t0
  have t1 : w4.cell? ⟨w1.heap.size, 1, none⟩ = some (.int .i64 c.too) := t1
  have t2 : w4.cell? ⟨w1.heap.size, 2, none⟩ = some (.int .i64 c.wd) := t2
  have hfb := HFb.out.free
  cases r <;> cases wb
  · -- neither
    go_wp2_with fail
    rw [← hw4]
    clear hw4 s0 s1 s2 s3 s4 hfs z0 z1 z2 z3 z4
    go_at_call 92
    refine HRg.out.mono ?_
    rintro e w5 ⟨rfl, hb5⟩
    have HB5 : Hid (Below w.heap.size w w5) := HB4.out.trans (hb5.mono (by omega))
    have HF5 := Lib.hid (HFb.out.keep hb5)
    have HZ5 := Lib.hid (HZ4.out.keep hb5)
    have HZf5 : Hid (∀ o, w5.frozen? ⟨w.heap.size + 1, o, none⟩ = false) := fun o => fkeep hb5 (by show w.heap.size + 1 < _; omega) (HZf4.out o)
    have hz5 : w4.heap.size ≤ w5.heap.size := hb5.size
    clear hb5 t0 t1 t2 t3 t4 y0 y1 y2 y3 y4 hfb
    have HBf := HB5
    have HCf : Hid (CalIn (w1.heap.size + 1) w5.heap.size w5 (.agg #[.int .i64 c.frm, .int .i64 c.too, .int .i64 c.wd, .slice a3 k3 c3, .slice a4 k4 c4]) E) := by show CalIn _ _ _ _ _; rw [HEx.out]; exact HF5.out.calIn
    have HXf : Hid (CalBox w5 w1.heap.size ⟨c.frm, c.too, c.wd, [], []⟩ (.slice a3 k3 c3) (.slice a4 k4 c4)) := HF5.out.box
    have HZf := HZ5
    have HFf := HZf5
    have hzf : w.heap.size + 2 ≤ w5.heap.size := by omega
    have HVf := Lib.hid (l3Good_any _ E w5 HCf.out.at)
    obtain ⟨t0, t1, t2, t3, t4⟩ := HXf.out
    have t0 : w5.cell? ⟨w1.heap.size, 0, none⟩ = some (.int .i64 c.frm) := t0
    have t1 : w5.cell? ⟨w1.heap.size, 1, none⟩ = some (.int .i64 c.too) := t1
    have t2 : w5.cell? ⟨w1.heap.size, 2, none⟩ = some (.int .i64 c.wd) := t2
    go_wp2_with fail
    go_at_call 81
    refine HVf.out.mono ?_
    rintro e w9 ⟨rfl, hb9⟩
    have HB9 : Hid (Below w.heap.size w w9) := HBf.out.trans (hb9.mono (by omega))
    have hz9 : w5.heap.size ≤ w9.heap.size := hb9.size
    obtain ⟨r0, r1, r2, r3, r4⟩ := HZf.out.keep hb9
    have r0 : w9.cell? ⟨w.heap.size + 1, 0, none⟩ = some (.int .i64 0) := r0
    have r1 : w9.cell? ⟨w.heap.size + 1, 1, none⟩ = some (.int .i64 0) := r1
    have r2 : w9.cell? ⟨w.heap.size + 1, 2, none⟩ = some (.int .i64 0) := r2
    have hf9 : ∀ o, w9.frozen? ⟨w.heap.size + 1, o, none⟩ = false := fun o => fkeep hb9 (by show w.heap.size + 1 < _; omega) (HFf.out o)
    have HC9 := Lib.hid (HCf.out.later hb9)
    have u0 := bkeep hb9 t0
    have u1 := bkeep hb9 t1
    have u2 := bkeep hb9 t2
    have u3 := bkeep hb9 t3
    have u4 := bkeep hb9 t4
    clear hb9 t0 t1 t2 t3 t4
    by_cases hgE : CalGood E
    · have HN := Lib.hid (HYes.out hgE)
      rw [calB_yes hgE]
      clear hgE
      go_wp2_with fail
      refine bodyPost_ret (v := .tuple #[.agg #[.int .i64 c.frm, .int .i64 c.too, .int .i64 c.wd, .slice a3 k3 c3, .slice a4 k4 c4], .bool true]) (by simp only [results, Try.results29]; go_simp) rfl ⟨_, by rw [HN.out.2], ?_, (((((HB9.out.setCell (p := ⟨w.heap.size + 1, 0, none⟩) (Nat.le_succ _) _).setCell (p := ⟨w.heap.size + 1, 1, none⟩) (Nat.le_succ _) _).setCell (p := ⟨w.heap.size + 1, 2, none⟩) (Nat.le_succ _) _).setCell (p := ⟨w.heap.size + 1, 3, none⟩) (Nat.le_succ _) _).setCell (p := ⟨w.heap.size + 1, 4, none⟩) (Nat.le_succ _) _)⟩
      rw [HN.out.1]
      exact (HC9.out.out ((((((Out.refl (w.heap.size + 1) (w.heap.size + 1 + 1) w9).setCell (p := ⟨w.heap.size + 1, 0, none⟩) (Nat.le_refl _) (Nat.lt_succ_self _) _).setCell (p := ⟨w.heap.size + 1, 1, none⟩) (Nat.le_refl _) (Nat.lt_succ_self _) _).setCell (p := ⟨w.heap.size + 1, 2, none⟩) (Nat.le_refl _) (Nat.lt_succ_self _) _).setCell (p := ⟨w.heap.size + 1, 3, none⟩) (Nat.le_refl _) (Nat.lt_succ_self _) _).setCell (p := ⟨w.heap.size + 1, 4, none⟩) (Nat.le_refl _) (Nat.lt_succ_self _) _) (.inr (by omega))).base (by omega) (by simp [World.setCell]; omega)
    · have HN := Lib.hid (HNo.out hgE)
      rw [calB_no hgE]
      clear hgE
      go_wp2_with fail
      refine bodyPost_ret (v := .tuple #[.agg #[.int .i64 0, .int .i64 0, .int .i64 0, .slice none 0 0, .slice none 0 0], .bool false]) (by simp only [results, Try.results29]; go_simp) rfl ⟨_, by rw [HN.out.2], by rw [HN.out.1]; exact calZ_in _ _ _, (((((HB9.out.setCell (p := ⟨w.heap.size + 1, 0, none⟩) (Nat.le_succ _) _).setCell (p := ⟨w.heap.size + 1, 1, none⟩) (Nat.le_succ _) _).setCell (p := ⟨w.heap.size + 1, 2, none⟩) (Nat.le_succ _) _).setCell (p := ⟨w.heap.size + 1, 3, none⟩) (Nat.le_succ _) _).setCell (p := ⟨w.heap.size + 1, 4, none⟩) (Nat.le_succ _) _)⟩
  · -- removed
    go_wp2_with fail
    rw [← hw4]
    clear hw4 s0 s1 s2 s3 s4 hfs z0 z1 z2 z3 z4
    go_at_call 92
    refine HRg.out.mono ?_
    rintro e w5 ⟨rfl, hb5⟩
    have HB5 : Hid (Below w.heap.size w w5) := HB4.out.trans (hb5.mono (by omega))
    have HF5 := Lib.hid (HFb.out.keep hb5)
    have HZ5 := Lib.hid (HZ4.out.keep hb5)
    have HZf5 : Hid (∀ o, w5.frozen? ⟨w.heap.size + 1, o, none⟩ = false) := fun o => fkeep hb5 (by show w.heap.size + 1 < _; omega) (HZf4.out o)
    have hz5 : w4.heap.size ≤ w5.heap.size := hb5.size
    clear hb5 t0 t1 t2 t3 t4 y0 y1 y2 y3 y4 hfb
    have hnm : d ∉ exL c.removed d false := exL_not _ _
    have HPt := Lib.hid (l1Put_gen (.slice a4 k4 c4) (exL c.removed d false) d (w1.heap.size + 1) w5.heap.size w5 HF5.out.rems (fun h => absurd h hnm) hv4 (Nat.le_refl _) hnR)
    rw [put_exL] at HPt
    obtain ⟨y0, y1, y2, y3, y4⟩ := HF5.out.box
    have hfy := HF5.out.free
    clear hnm
    go_wp2_with fail
    go_at_call 93
    refine HPt.out.mono ?_
    rintro e w6 ⟨⟨v6, rfl, hv6, ho6⟩, hb6⟩
    obtain ⟨a6, k6, c6, rfl⟩ := ints_slice (rowAt_own ho6)
    have hz6 : w5.heap.size ≤ w6.heap.size := hb6.size
    have HF6 := Lib.hid (HF5.out.keep hb6)
    have hb6b : w1.heap.size < w5.heap.size := HF5.out.lt
    obtain ⟨w7, hw7⟩ : ∃ w7 : World, w7 = w6.setCell ⟨w1.heap.size, 4, none⟩ (.slice a6 k6 c6) := ⟨_, rfl⟩
    have HO6 : Hid (Out w1.heap.size (w1.heap.size + 1) w6 w7) := by rw [hw7]; exact setOutE w6 w1.heap.size 4 _
    have hz7 : w7.heap.size = w6.heap.size := by rw [hw7, size_setCell']
    have HBf : Hid (Below w.heap.size w w7) := by show Below _ _ _; rw [hw7]; exact (HB5.out.trans (hb6.mono (by omega))).setCell (p := ⟨w1.heap.size, 4, none⟩) (by show w.heap.size ≤ w1.heap.size; omega) _
    have HR6 := Lib.hid ((IntsIn.mk ho6).out HO6.out (.inr (by omega)))
    have HR5 := Lib.hid ((IntsIn.mk HF5.out.adds).later hb6)
    have HCf : Hid (CalIn (w1.heap.size + 1) w7.heap.size w7 (.agg #[.int .i64 c.frm, .int .i64 c.too, .int .i64 c.wd, .slice a3 k3 c3, .slice a6 k6 c6]) E) := by
      show CalIn _ _ _ _ _
      rw [HEx.out]
      refine ⟨_, _, rfl, (HR5.out.out HO6.out (.inr (Nat.le_refl _))).base (Nat.le_refl _) (by omega), HR6.out.base (by omega) (by omega), .inr fun e => ?_⟩
      obtain ⟨g, hg⟩ := Option.ne_none_iff_exists'.1 hv6
      have g1 := HR6.out.lo g hg
      have g2 := HR5.out.2 g (by rw [e]; exact hg)
      omega
    have HXf : Hid (CalBox w7 w1.heap.size ⟨c.frm, c.too, c.wd, [], []⟩ (.slice a3 k3 c3) (.slice a6 k6 c6)) := by
      show CalBox _ _ _ _ _
      obtain ⟨q0, q1, q2, q3, q4⟩ := HF6.out.box
      rw [hw7]
      exact ⟨by rw [set_other (by decide)]; exact q0, by rw [set_other (by decide)]; exact q1, by rw [set_other (by decide)]; exact q2, by rw [set_other (by decide)]; exact q3, by exact set_same q4⟩
    have HZ6 := Lib.hid (HZ5.out.keep hb6)
    have HZf6 : Hid (∀ o, w6.frozen? ⟨w.heap.size + 1, o, none⟩ = false) := fun o => fkeep hb6 (by show w.heap.size + 1 < _; omega) (HZf5.out o)
    have HZf := Lib.hid (calBox_out HZ6.out HO6.out (.inl (by omega)))
    have HFf : Hid (∀ o, w7.frozen? ⟨w.heap.size + 1, o, none⟩ = false) := fun o => free_out HZ6.out HZf6.out HO6.out (.inl (by omega)) o
    have hzf : w.heap.size + 2 ≤ w7.heap.size := by omega
    obtain ⟨z0, z1, z2, z3, z4⟩ := HF6.out.box
    have hfz := HF6.out.free
    clear y0 y1 y2 y3 y4 hfy ho6 hb6
    go_wp2_with fail
    rw [← hw7]
    clear hw7 z0 z1 z2 z3 z4 hfz
    have HVf := Lib.hid (l3Good_any _ E w7 HCf.out.at)
    obtain ⟨t0, t1, t2, t3, t4⟩ := HXf.out
    have t0 : w7.cell? ⟨w1.heap.size, 0, none⟩ = some (.int .i64 c.frm) := t0
    have t1 : w7.cell? ⟨w1.heap.size, 1, none⟩ = some (.int .i64 c.too) := t1
    have t2 : w7.cell? ⟨w1.heap.size, 2, none⟩ = some (.int .i64 c.wd) := t2
    go_wp2_with fail
    go_at_call 81
    refine HVf.out.mono ?_
    rintro e w9 ⟨rfl, hb9⟩
    have HB9 : Hid (Below w.heap.size w w9) := HBf.out.trans (hb9.mono (by omega))
    have hz9 : w7.heap.size ≤ w9.heap.size := hb9.size
    obtain ⟨r0, r1, r2, r3, r4⟩ := HZf.out.keep hb9
    have r0 : w9.cell? ⟨w.heap.size + 1, 0, none⟩ = some (.int .i64 0) := r0
    have r1 : w9.cell? ⟨w.heap.size + 1, 1, none⟩ = some (.int .i64 0) := r1
    have r2 : w9.cell? ⟨w.heap.size + 1, 2, none⟩ = some (.int .i64 0) := r2
    have hf9 : ∀ o, w9.frozen? ⟨w.heap.size + 1, o, none⟩ = false := fun o => fkeep hb9 (by show w.heap.size + 1 < _; omega) (HFf.out o)
    have HC9 := Lib.hid (HCf.out.later hb9)
    have u0 := bkeep hb9 t0
    have u1 := bkeep hb9 t1
    have u2 := bkeep hb9 t2
    have u3 := bkeep hb9 t3
    have u4 := bkeep hb9 t4
    clear hb9 t0 t1 t2 t3 t4
    by_cases hgE : CalGood E
    · have HN := Lib.hid (HYes.out hgE)
      rw [calB_yes hgE]
      clear hgE
      go_wp2_with fail
      refine bodyPost_ret (v := .tuple #[.agg #[.int .i64 c.frm, .int .i64 c.too, .int .i64 c.wd, .slice a3 k3 c3, .slice a6 k6 c6], .bool true]) (by simp only [results, Try.results29]; go_simp) rfl ⟨_, by rw [HN.out.2], ?_, (((((HB9.out.setCell (p := ⟨w.heap.size + 1, 0, none⟩) (Nat.le_succ _) _).setCell (p := ⟨w.heap.size + 1, 1, none⟩) (Nat.le_succ _) _).setCell (p := ⟨w.heap.size + 1, 2, none⟩) (Nat.le_succ _) _).setCell (p := ⟨w.heap.size + 1, 3, none⟩) (Nat.le_succ _) _).setCell (p := ⟨w.heap.size + 1, 4, none⟩) (Nat.le_succ _) _)⟩
      rw [HN.out.1]
      exact (HC9.out.out ((((((Out.refl (w.heap.size + 1) (w.heap.size + 1 + 1) w9).setCell (p := ⟨w.heap.size + 1, 0, none⟩) (Nat.le_refl _) (Nat.lt_succ_self _) _).setCell (p := ⟨w.heap.size + 1, 1, none⟩) (Nat.le_refl _) (Nat.lt_succ_self _) _).setCell (p := ⟨w.heap.size + 1, 2, none⟩) (Nat.le_refl _) (Nat.lt_succ_self _) _).setCell (p := ⟨w.heap.size + 1, 3, none⟩) (Nat.le_refl _) (Nat.lt_succ_self _) _).setCell (p := ⟨w.heap.size + 1, 4, none⟩) (Nat.le_refl _) (Nat.lt_succ_self _) _) (.inr (by omega))).base (by omega) (by simp [World.setCell]; omega)
    · have HN := Lib.hid (HNo.out hgE)
      rw [calB_no hgE]
      clear hgE
      go_wp2_with fail
      refine bodyPost_ret (v := .tuple #[.agg #[.int .i64 0, .int .i64 0, .int .i64 0, .slice none 0 0, .slice none 0 0], .bool false]) (by simp only [results, Try.results29]; go_simp) rfl ⟨_, by rw [HN.out.2], by rw [HN.out.1]; exact calZ_in _ _ _, (((((HB9.out.setCell (p := ⟨w.heap.size + 1, 0, none⟩) (Nat.le_succ _) _).setCell (p := ⟨w.heap.size + 1, 1, none⟩) (Nat.le_succ _) _).setCell (p := ⟨w.heap.size + 1, 2, none⟩) (Nat.le_succ _) _).setCell (p := ⟨w.heap.size + 1, 3, none⟩) (Nat.le_succ _) _).setCell (p := ⟨w.heap.size + 1, 4, none⟩) (Nat.le_succ _) _)⟩
  · -- added
    go_wp2_with fail
    rw [← hw4]
    clear hw4 s0 s1 s2 s3 s4 hfs z0 z1 z2 z3 z4
    go_at_call 92
    refine HRg.out.mono ?_
    rintro e w5 ⟨rfl, hb5⟩
    have HB5 : Hid (Below w.heap.size w w5) := HB4.out.trans (hb5.mono (by omega))
    have HF5 := Lib.hid (HFb.out.keep hb5)
    have HZ5 := Lib.hid (HZ4.out.keep hb5)
    have HZf5 : Hid (∀ o, w5.frozen? ⟨w.heap.size + 1, o, none⟩ = false) := fun o => fkeep hb5 (by show w.heap.size + 1 < _; omega) (HZf4.out o)
    have hz5 : w4.heap.size ≤ w5.heap.size := hb5.size
    clear hb5 t0 t1 t2 t3 t4 y0 y1 y2 y3 y4 hfb
    have hnm : d ∉ exL c.added d false := exL_not _ _
    have HPt := Lib.hid (l1Put_gen (.slice a3 k3 c3) (exL c.added d false) d (w1.heap.size + 1) w5.heap.size w5 HF5.out.adds (fun h => absurd h hnm) hv3 (Nat.le_refl _) hnA)
    rw [put_exL] at HPt
    obtain ⟨y0, y1, y2, y3, y4⟩ := HF5.out.box
    have hfy := HF5.out.free
    clear hnm
    go_wp2_with fail
    go_at_call 93
    refine HPt.out.mono ?_
    rintro e w6 ⟨⟨v6, rfl, hv6, ho6⟩, hb6⟩
    obtain ⟨a6, k6, c6, rfl⟩ := ints_slice (rowAt_own ho6)
    have hz6 : w5.heap.size ≤ w6.heap.size := hb6.size
    have HF6 := Lib.hid (HF5.out.keep hb6)
    have hb6b : w1.heap.size < w5.heap.size := HF5.out.lt
    obtain ⟨w7, hw7⟩ : ∃ w7 : World, w7 = w6.setCell ⟨w1.heap.size, 3, none⟩ (.slice a6 k6 c6) := ⟨_, rfl⟩
    have HO6 : Hid (Out w1.heap.size (w1.heap.size + 1) w6 w7) := by rw [hw7]; exact setOutE w6 w1.heap.size 3 _
    have hz7 : w7.heap.size = w6.heap.size := by rw [hw7, size_setCell']
    have HBf : Hid (Below w.heap.size w w7) := by show Below _ _ _; rw [hw7]; exact (HB5.out.trans (hb6.mono (by omega))).setCell (p := ⟨w1.heap.size, 3, none⟩) (by show w.heap.size ≤ w1.heap.size; omega) _
    have HR6 := Lib.hid ((IntsIn.mk ho6).out HO6.out (.inr (by omega)))
    have HR5 := Lib.hid ((IntsIn.mk HF5.out.rems).later hb6)
    have HCf : Hid (CalIn (w1.heap.size + 1) w7.heap.size w7 (.agg #[.int .i64 c.frm, .int .i64 c.too, .int .i64 c.wd, .slice a6 k6 c6, .slice a4 k4 c4]) E) := by
      show CalIn _ _ _ _ _
      rw [HEx.out]
      refine ⟨_, _, rfl, HR6.out.base (by omega) (by omega), (HR5.out.out HO6.out (.inr (Nat.le_refl _))).base (Nat.le_refl _) (by omega), .inr fun e => ?_⟩
      obtain ⟨g, hg⟩ := Option.ne_none_iff_exists'.1 hv6
      have g1 := HR6.out.lo g hg
      have g2 := HR5.out.2 g (by rw [← e]; exact hg)
      omega
    have HXf : Hid (CalBox w7 w1.heap.size ⟨c.frm, c.too, c.wd, [], []⟩ (.slice a6 k6 c6) (.slice a4 k4 c4)) := by
      show CalBox _ _ _ _ _
      obtain ⟨q0, q1, q2, q3, q4⟩ := HF6.out.box
      rw [hw7]
      exact ⟨by rw [set_other (by decide)]; exact q0, by rw [set_other (by decide)]; exact q1, by rw [set_other (by decide)]; exact q2, by exact set_same q3, by rw [set_other (by decide)]; exact q4⟩
    have HZ6 := Lib.hid (HZ5.out.keep hb6)
    have HZf6 : Hid (∀ o, w6.frozen? ⟨w.heap.size + 1, o, none⟩ = false) := fun o => fkeep hb6 (by show w.heap.size + 1 < _; omega) (HZf5.out o)
    have HZf := Lib.hid (calBox_out HZ6.out HO6.out (.inl (by omega)))
    have HFf : Hid (∀ o, w7.frozen? ⟨w.heap.size + 1, o, none⟩ = false) := fun o => free_out HZ6.out HZf6.out HO6.out (.inl (by omega)) o
    have hzf : w.heap.size + 2 ≤ w7.heap.size := by omega
    obtain ⟨z0, z1, z2, z3, z4⟩ := HF6.out.box
    have hfz := HF6.out.free
    clear y0 y1 y2 y3 y4 hfy ho6 hb6
    go_wp2_with fail
    rw [← hw7]
    clear hw7 z0 z1 z2 z3 z4 hfz
    have HVf := Lib.hid (l3Good_any _ E w7 HCf.out.at)
    obtain ⟨t0, t1, t2, t3, t4⟩ := HXf.out
    have t0 : w7.cell? ⟨w1.heap.size, 0, none⟩ = some (.int .i64 c.frm) := t0
    have t1 : w7.cell? ⟨w1.heap.size, 1, none⟩ = some (.int .i64 c.too) := t1
    have t2 : w7.cell? ⟨w1.heap.size, 2, none⟩ = some (.int .i64 c.wd) := t2
    go_wp2_with fail
    go_at_call 81
    refine HVf.out.mono ?_
    rintro e w9 ⟨rfl, hb9⟩
    have HB9 : Hid (Below w.heap.size w w9) := HBf.out.trans (hb9.mono (by omega))
    have hz9 : w7.heap.size ≤ w9.heap.size := hb9.size
    obtain ⟨r0, r1, r2, r3, r4⟩ := HZf.out.keep hb9
    have r0 : w9.cell? ⟨w.heap.size + 1, 0, none⟩ = some (.int .i64 0) := r0
    have r1 : w9.cell? ⟨w.heap.size + 1, 1, none⟩ = some (.int .i64 0) := r1
    have r2 : w9.cell? ⟨w.heap.size + 1, 2, none⟩ = some (.int .i64 0) := r2
    have hf9 : ∀ o, w9.frozen? ⟨w.heap.size + 1, o, none⟩ = false := fun o => fkeep hb9 (by show w.heap.size + 1 < _; omega) (HFf.out o)
    have HC9 := Lib.hid (HCf.out.later hb9)
    have u0 := bkeep hb9 t0
    have u1 := bkeep hb9 t1
    have u2 := bkeep hb9 t2
    have u3 := bkeep hb9 t3
    have u4 := bkeep hb9 t4
    clear hb9 t0 t1 t2 t3 t4
    by_cases hgE : CalGood E
    · have HN := Lib.hid (HYes.out hgE)
      rw [calB_yes hgE]
      clear hgE
      go_wp2_with fail
      refine bodyPost_ret (v := .tuple #[.agg #[.int .i64 c.frm, .int .i64 c.too, .int .i64 c.wd, .slice a6 k6 c6, .slice a4 k4 c4], .bool true]) (by simp only [results, Try.results29]; go_simp) rfl ⟨_, by rw [HN.out.2], ?_, (((((HB9.out.setCell (p := ⟨w.heap.size + 1, 0, none⟩) (Nat.le_succ _) _).setCell (p := ⟨w.heap.size + 1, 1, none⟩) (Nat.le_succ _) _).setCell (p := ⟨w.heap.size + 1, 2, none⟩) (Nat.le_succ _) _).setCell (p := ⟨w.heap.size + 1, 3, none⟩) (Nat.le_succ _) _).setCell (p := ⟨w.heap.size + 1, 4, none⟩) (Nat.le_succ _) _)⟩
      rw [HN.out.1]
      exact (HC9.out.out ((((((Out.refl (w.heap.size + 1) (w.heap.size + 1 + 1) w9).setCell (p := ⟨w.heap.size + 1, 0, none⟩) (Nat.le_refl _) (Nat.lt_succ_self _) _).setCell (p := ⟨w.heap.size + 1, 1, none⟩) (Nat.le_refl _) (Nat.lt_succ_self _) _).setCell (p := ⟨w.heap.size + 1, 2, none⟩) (Nat.le_refl _) (Nat.lt_succ_self _) _).setCell (p := ⟨w.heap.size + 1, 3, none⟩) (Nat.le_refl _) (Nat.lt_succ_self _) _).setCell (p := ⟨w.heap.size + 1, 4, none⟩) (Nat.le_refl _) (Nat.lt_succ_self _) _) (.inr (by omega))).base (by omega) (by simp [World.setCell]; omega)
    · have HN := Lib.hid (HNo.out hgE)
      rw [calB_no hgE]
      clear hgE
      go_wp2_with fail
      refine bodyPost_ret (v := .tuple #[.agg #[.int .i64 0, .int .i64 0, .int .i64 0, .slice none 0 0, .slice none 0 0], .bool false]) (by simp only [results, Try.results29]; go_simp) rfl ⟨_, by rw [HN.out.2], by rw [HN.out.1]; exact calZ_in _ _ _, (((((HB9.out.setCell (p := ⟨w.heap.size + 1, 0, none⟩) (Nat.le_succ _) _).setCell (p := ⟨w.heap.size + 1, 1, none⟩) (Nat.le_succ _) _).setCell (p := ⟨w.heap.size + 1, 2, none⟩) (Nat.le_succ _) _).setCell (p := ⟨w.heap.size + 1, 3, none⟩) (Nat.le_succ _) _).setCell (p := ⟨w.heap.size + 1, 4, none⟩) (Nat.le_succ _) _)⟩
  · -- runs already
    go_wp2_with fail
    rw [← hw4]
    clear hw4 s0 s1 s2 s3 s4 hfs z0 z1 z2 z3 z4
    go_at_call 92
    refine HRg.out.mono ?_
    rintro e w5 ⟨rfl, hb5⟩
    have HB5 : Hid (Below w.heap.size w w5) := HB4.out.trans (hb5.mono (by omega))
    have HF5 := Lib.hid (HFb.out.keep hb5)
    have HZ5 := Lib.hid (HZ4.out.keep hb5)
    have HZf5 : Hid (∀ o, w5.frozen? ⟨w.heap.size + 1, o, none⟩ = false) := fun o => fkeep hb5 (by show w.heap.size + 1 < _; omega) (HZf4.out o)
    have hz5 : w4.heap.size ≤ w5.heap.size := hb5.size
    clear hb5 t0 t1 t2 t3 t4 y0 y1 y2 y3 y4 hfb
    have HBf := HB5
    have HCf : Hid (CalIn (w1.heap.size + 1) w5.heap.size w5 (.agg #[.int .i64 c.frm, .int .i64 c.too, .int .i64 c.wd, .slice a3 k3 c3, .slice a4 k4 c4]) E) := by show CalIn _ _ _ _ _; rw [HEx.out]; exact HF5.out.calIn
    have HXf : Hid (CalBox w5 w1.heap.size ⟨c.frm, c.too, c.wd, [], []⟩ (.slice a3 k3 c3) (.slice a4 k4 c4)) := HF5.out.box
    have HZf := HZ5
    have HFf := HZf5
    have hzf : w.heap.size + 2 ≤ w5.heap.size := by omega
    have HVf := Lib.hid (l3Good_any _ E w5 HCf.out.at)
    obtain ⟨t0, t1, t2, t3, t4⟩ := HXf.out
    have t0 : w5.cell? ⟨w1.heap.size, 0, none⟩ = some (.int .i64 c.frm) := t0
    have t1 : w5.cell? ⟨w1.heap.size, 1, none⟩ = some (.int .i64 c.too) := t1
    have t2 : w5.cell? ⟨w1.heap.size, 2, none⟩ = some (.int .i64 c.wd) := t2
    go_wp2_with fail
    go_at_call 81
    refine HVf.out.mono ?_
    rintro e w9 ⟨rfl, hb9⟩
    have HB9 : Hid (Below w.heap.size w w9) := HBf.out.trans (hb9.mono (by omega))
    have hz9 : w5.heap.size ≤ w9.heap.size := hb9.size
    obtain ⟨r0, r1, r2, r3, r4⟩ := HZf.out.keep hb9
    have r0 : w9.cell? ⟨w.heap.size + 1, 0, none⟩ = some (.int .i64 0) := r0
    have r1 : w9.cell? ⟨w.heap.size + 1, 1, none⟩ = some (.int .i64 0) := r1
    have r2 : w9.cell? ⟨w.heap.size + 1, 2, none⟩ = some (.int .i64 0) := r2
    have hf9 : ∀ o, w9.frozen? ⟨w.heap.size + 1, o, none⟩ = false := fun o => fkeep hb9 (by show w.heap.size + 1 < _; omega) (HFf.out o)
    have HC9 := Lib.hid (HCf.out.later hb9)
    have u0 := bkeep hb9 t0
    have u1 := bkeep hb9 t1
    have u2 := bkeep hb9 t2
    have u3 := bkeep hb9 t3
    have u4 := bkeep hb9 t4
    clear hb9 t0 t1 t2 t3 t4
    by_cases hgE : CalGood E
    · have HN := Lib.hid (HYes.out hgE)
      rw [calB_yes hgE]
      clear hgE
      go_wp2_with fail
      refine bodyPost_ret (v := .tuple #[.agg #[.int .i64 c.frm, .int .i64 c.too, .int .i64 c.wd, .slice a3 k3 c3, .slice a4 k4 c4], .bool true]) (by simp only [results, Try.results29]; go_simp) rfl ⟨_, by rw [HN.out.2], ?_, (((((HB9.out.setCell (p := ⟨w.heap.size + 1, 0, none⟩) (Nat.le_succ _) _).setCell (p := ⟨w.heap.size + 1, 1, none⟩) (Nat.le_succ _) _).setCell (p := ⟨w.heap.size + 1, 2, none⟩) (Nat.le_succ _) _).setCell (p := ⟨w.heap.size + 1, 3, none⟩) (Nat.le_succ _) _).setCell (p := ⟨w.heap.size + 1, 4, none⟩) (Nat.le_succ _) _)⟩
      rw [HN.out.1]
      exact (HC9.out.out ((((((Out.refl (w.heap.size + 1) (w.heap.size + 1 + 1) w9).setCell (p := ⟨w.heap.size + 1, 0, none⟩) (Nat.le_refl _) (Nat.lt_succ_self _) _).setCell (p := ⟨w.heap.size + 1, 1, none⟩) (Nat.le_refl _) (Nat.lt_succ_self _) _).setCell (p := ⟨w.heap.size + 1, 2, none⟩) (Nat.le_refl _) (Nat.lt_succ_self _) _).setCell (p := ⟨w.heap.size + 1, 3, none⟩) (Nat.le_refl _) (Nat.lt_succ_self _) _).setCell (p := ⟨w.heap.size + 1, 4, none⟩) (Nat.le_refl _) (Nat.lt_succ_self _) _) (.inr (by omega))).base (by omega) (by simp [World.setCell]; omega)
    · have HN := Lib.hid (HNo.out hgE)
      rw [calB_no hgE]
      clear hgE
      go_wp2_with fail
      refine bodyPost_ret (v := .tuple #[.agg #[.int .i64 0, .int .i64 0, .int .i64 0, .slice none 0 0, .slice none 0 0], .bool false]) (by simp only [results, Try.results29]; go_simp) rfl ⟨_, by rw [HN.out.2], by rw [HN.out.1]; exact calZ_in _ _ _, (((((HB9.out.setCell (p := ⟨w.heap.size + 1, 0, none⟩) (Nat.le_succ _) _).setCell (p := ⟨w.heap.size + 1, 1, none⟩) (Nat.le_succ _) _).setCell (p := ⟨w.heap.size + 1, 2, none⟩) (Nat.le_succ _) _).setCell (p := ⟨w.heap.size + 1, 3, none⟩) (Nat.le_succ _) _).setCell (p := ⟨w.heap.size + 1, 4, none⟩) (Nat.le_succ _) _)⟩
end Go.Proofs.Ytbbcjponeiphaaa
