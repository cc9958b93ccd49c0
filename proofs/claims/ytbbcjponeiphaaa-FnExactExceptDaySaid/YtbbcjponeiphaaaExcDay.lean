/-
  PLAIN: what ExceptDay returns. CONTRACT: impl.ExceptDay.
-/
import Derived.Test.YtbbcjponeiphaaaExcSpec
import Derived.Test.YtbbcjponeiphaaaListDay
import Derived.Test.YtbbcjponeiphaaaFitImpl
namespace Go.Proofs.Ytbbcjponeiphaaa
open Go.RowKit
set_option linter.unusedVariables false
attribute [local go_sem] Oper.semAt_some

theorem putAt_app {d : Int} : ∀ {A B : List Int}, (∀ x ∈ A, x < d) → (∀ x ∈ B, d < x) → putAt d (A ++ B) = A.length
  | [], [], _, _ => rfl
  | [], y :: B, _, h => by
    have := h y (by simp)
    have h' : ¬ y < d := by omega
    simp [putAt, h']
  | x :: A, B, h, h2 => by
    have := h x (by simp)
    have ih := putAt_app (A := A) (B := B) (fun y hy => h y (by simp [hy])) h2
    simp [putAt, this, ih]
theorem put_exL (l : List Int) (d : Int) : putL d (exL l d false) = exL l d true := by
  have hA : ∀ x ∈ l.filter (· < d), x < d := fun x hx => by simpa using (List.mem_filter.1 hx).2
  have hB : ∀ x ∈ l.filter (d < ·), d < x := fun x hx => by simpa using (List.mem_filter.1 hx).2
  have hp := putAt_app hA hB
  have e : exL l d false = l.filter (· < d) ++ l.filter (d < ·) := by simp [exL]
  rw [e, putL, hp]
  have hne : ¬ (l.filter (· < d) ++ l.filter (d < ·))[(l.filter (· < d)).length]? = some d := by
    rw [List.getElem?_append_right (Nat.le_refl _), Nat.sub_self]
    intro h
    have := hB d (List.mem_of_getElem? h)
    omega
  rw [if_neg hne, List.take_left' rfl, List.drop_left' rfl]
  simp [exL]

def excC (c : CalD) (d : Int) (r : Bool) : CalD := ⟨c.frm, c.too, c.wd, exL c.added d (r && !wdB c.wd d), exL c.removed d (!r && wdB c.wd d)⟩
def ExcOk (c : CalD) (d : Int) (r : Bool) : Prop := CalGood c ∧ (c.frm ≤ d ∧ d ≤ c.too) ∧ CalGood (excC c d r)
instance (c : CalD) (d : Int) (r : Bool) : Decidable (ExcOk c d r) := by unfold ExcOk; infer_instance
def excB (c : CalD) (d : Int) (r : Bool) : Bool := decide (ExcOk c d r)
def excAns (c : CalD) (d : Int) (r : Bool) : CalD := if ExcOk c d r then excC c d r else calZ
theorem excAns_yes {c : CalD} {d : Int} {r : Bool} (h : ExcOk c d r) : excAns c d r = excC c d r ∧ excB c d r = true := ⟨if_pos h, decide_eq_true h⟩
theorem excAns_no {c : CalD} {d : Int} {r : Bool} (h : ¬ ExcOk c d r) : excAns c d r = calZ ∧ excB c d r = false := ⟨if_neg h, decide_eq_false h⟩
theorem excAns_small (c : CalD) (d : Int) (r : Bool) : CalSmall (excAns c d r) := by
  by_cases h : ExcOk c d r
  · rw [(excAns_yes h).1]
    have h1 := h.2.2.2.1
    have h2 := h.2.2.2.2.1
    unfold CalSmall; omega
  · rw [(excAns_no h).1]; simp [CalSmall, calZ]
theorem ints_slice {w : World} {v : Value} {xs : List Int} (h : RowAt w v (ints xs)) : ∃ a n c, v = .slice a n c := by
  obtain ⟨a, c, hv⟩ := IntS_open h
  exact ⟨a, _, c, hv⟩
theorem setOutE (w : World) (b i : Nat) (u : Value) : Out b (b + 1) w (w.setCell ⟨b, i, none⟩ u) := (Out.refl _ _ _).setCell (p := ⟨b, i, none⟩) (Nat.le_refl _) (Nat.lt_succ_self _) u
theorem excBoxes (w : World) (c : CalD) (av rv : Value) (t t' : TypeId) : CalBox ((w.alloc (.cells #[.int .i64 c.frm, .int .i64 c.too, .int .i64 c.wd, av, rv] t)).alloc (.cells #[.int .i64 0, .int .i64 0, .int .i64 0, .slice none 0 0, .slice none 0 0] t')) w.heap.size c av rv ∧
    CalBox ((w.alloc (.cells #[.int .i64 c.frm, .int .i64 c.too, .int .i64 c.wd, av, rv] t)).alloc (.cells #[.int .i64 0, .int .i64 0, .int .i64 0, .slice none 0 0, .slice none 0 0] t')) (w.heap.size + 1) calZ (.slice none 0 0) (.slice none 0 0) := by
  refine ⟨(calBox_new w c av rv t).keep ((Below.refl _ _).alloc (Nat.le_refl _) _), ?_⟩
  have := calBox_new (w.alloc (.cells #[.int .i64 c.frm, .int .i64 c.too, .int .i64 c.wd, av, rv] t)) calZ (.slice none 0 0) (.slice none 0 0) t'
  simpa [calZ] using this

set_option maxRecDepth 100000 in
set_option maxHeartbeats 4000000 in
theorem implExc_any (v : Value) (c : CalD) (d : Int) (r : Bool) (w : World) (hr : CalAt w v c) (hsm : CalSmall c) :
    Calls Try.prog 30 #[v, .int .i64 d, .bool r] w fun e w' => ∃ z, e = .returned (.tuple #[z, .bool (excB c d r)]) ∧ CalIn w.heap.size w'.heap.size w' z (excAns c d r) ∧ Below w.heap.size w w' := by
  have HV := Lib.hid (fun W (h : Below w.heap.size w W) => implValidCal_any v c W (hr.below rfl h))
  obtain ⟨av, rv, rfl, ha, hrm⟩ := hr
  have hsA : c.added.length ≤ 1048576 := by unfold CalSmall at hsm; omega
  have hsR : c.removed.length ≤ 1048576 := by unfold CalSmall at hsm; omega
  have HLA := Lib.hid (fun W (h : Below w.heap.size w W) (hp : c.added.Pairwise (· < ·)) b => listDay_any av c.added d b W (ha.below rfl h) hp hsA)
  have HLR := Lib.hid (fun W (h : Below w.heap.size w W) (hp : c.removed.Pairwise (· < ·)) b => listDay_any rv c.removed d b W (hrm.below rfl h) hp hsR)
  obtain ⟨a1, c1, rfl, _⟩ := ints_open ha
  obtain ⟨a2, c2, rfl, _⟩ := ints_open hrm
  clear ha hrm hsm hsA hsR
  have HBx0 := Lib.hid (excBoxes w c (.slice a1 c.added.length c1) (.slice a2 c.removed.length c2) 27 27)
  have HB0 : Hid (Below w.heap.size w ((w.alloc (.cells #[.int .i64 c.frm, .int .i64 c.too, .int .i64 c.wd, .slice a1 c.added.length c1, .slice a2 c.removed.length c2] 27)).alloc (.cells #[.int .i64 0, .int .i64 0, .int .i64 0, .slice none 0 0, .slice none 0 0] 27))) := ((Below.refl _ _).alloc (Nat.le_refl _) _).alloc (by simp) _
  go_enter Try.func30, Try.ntmps30
  go_wp2_with fail
  go_at_call 21
  refine (HV.out _ HB0.out).mono ?_
  rintro e w1 ⟨rfl, hb1⟩
  have HB1 : Hid (Below w.heap.size w w1) := HB0.out.trans (hb1.mono (by simp; omega))
  have HX1 := Lib.hid (HBx0.out.1.keep hb1)
  have HZ1 := Lib.hid (HBx0.out.2.keep hb1)
  have HZf1 : Hid (∀ o, w1.frozen? ⟨w.heap.size + 1, o, none⟩ = false) := fun o => fkeep hb1 (by simp) (by go_simp)
  have hz1 : w.heap.size + 2 ≤ w1.heap.size := by have := hb1.size; simp at this; omega
  clear hb1 HBx0 HB0
  obtain ⟨x0, x1, x2, x3, x4⟩ := HX1.out
  obtain ⟨r0, r1, r2, r3, r4⟩ := HZ1.out
  have r0 : w1.cell? ⟨w.heap.size + 1, 0, none⟩ = some (.int .i64 0) := r0
  have r1 : w1.cell? ⟨w.heap.size + 1, 1, none⟩ = some (.int .i64 0) := r1
  have r2 : w1.cell? ⟨w.heap.size + 1, 2, none⟩ = some (.int .i64 0) := r2
  have hf1 := HZf1.out
  by_cases hg : CalGood c
  rotate_left
  · have HN := Lib.hid (excAns_no (c := c) (d := d) (r := r) fun h => hg h.1)
    rw [calB_no hg]
    clear hg
    go_wp2_with fail
    refine bodyPost_ret (v := .tuple #[.agg #[.int .i64 0, .int .i64 0, .int .i64 0, .slice none 0 0, .slice none 0 0], .bool false]) (by simp only [results, Try.results30]; go_simp) rfl ⟨_, by rw [HN.out.2], by rw [HN.out.1]; exact calZ_in _ _ _, (((((HB1.out.setCell (p := ⟨w.heap.size + 1, 0, none⟩) (Nat.le_succ _) _).setCell (p := ⟨w.heap.size + 1, 1, none⟩) (Nat.le_succ _) _).setCell (p := ⟨w.heap.size + 1, 2, none⟩) (Nat.le_succ _) _).setCell (p := ⟨w.heap.size + 1, 3, none⟩) (Nat.le_succ _) _).setCell (p := ⟨w.heap.size + 1, 4, none⟩) (Nat.le_succ _) _)⟩
  rw [calB_yes hg]
  by_cases hd : c.frm ≤ d ∧ d ≤ c.too
  rotate_left
  · have HN := Lib.hid (excAns_no (c := c) (d := d) (r := r) fun h => hd h.2.1)
    have hd' : d < c.frm ∨ (c.frm ≤ d ∧ c.too < d) := by omega
    clear hg hd
    rcases hd' with h | ⟨h, h'⟩
    all_goals
      go_wp2_with fail
      refine bodyPost_ret (v := .tuple #[.agg #[.int .i64 0, .int .i64 0, .int .i64 0, .slice none 0 0, .slice none 0 0], .bool false]) (by simp only [results, Try.results30]; go_simp) rfl ⟨_, by rw [HN.out.2], by rw [HN.out.1]; exact calZ_in _ _ _, (((((HB1.out.setCell (p := ⟨w.heap.size + 1, 0, none⟩) (Nat.le_succ _) _).setCell (p := ⟨w.heap.size + 1, 1, none⟩) (Nat.le_succ _) _).setCell (p := ⟨w.heap.size + 1, 2, none⟩) (Nat.le_succ _) _).setCell (p := ⟨w.heap.size + 1, 3, none⟩) (Nat.le_succ _) _).setCell (p := ⟨w.heap.size + 1, 4, none⟩) (Nat.le_succ _) _)⟩
  have HG := Lib.hid hg
  have HD := Lib.hid hd
  obtain ⟨d1, d2⟩ := hd
  have HPa := Lib.hid (rise_pair HG.out.2.2.2.1)
  have HPr := Lib.hid (rise_pair HG.out.2.2.2.2.1)
  obtain ⟨⟨n1, n2, n3, n4, n5⟩, _⟩ := hg
  obtain ⟨wb, hwb⟩ : ∃ wb, wdB c.wd d = wb := ⟨_, rfl⟩
  have HEx : Hid (excC c d r = ⟨c.frm, c.too, c.wd, exL c.added d (r && !wb), exL c.removed d (!r && wb)⟩) := by show _ = _; simp [excC, hwb]
  obtain ⟨E, HE⟩ : ∃ E, Hid (E = excC c d r) := ⟨_, rfl⟩
  have HYes : Hid (CalGood E → excAns c d r = E ∧ excB c d r = true) := fun h => by rw [HE.out] at h ⊢; exact excAns_yes ⟨HG.out, HD.out, h⟩
  have HNo : Hid (¬ CalGood E → excAns c d r = calZ ∧ excB c d r = false) := fun h => excAns_no fun g => h (by rw [HE.out]; exact g.2.2)
  rw [← HE.out] at HEx
  have HW := Lib.hid (fun W => hasWeekday_any c.wd d W n4 n5 (by omega) (by omega))
  rw [hwb] at HW
  clear hwb
  go_wp2_with fail
  go_at_call 94
  refine (HW.out _).mono ?_
  rintro e w' ⟨rfl, rfl⟩
  have HB1' : Hid (Below w.heap.size w (w1.alloc (.cells #[.int .i64 c.frm, .int .i64 c.too, .int .i64 c.wd, .slice a1 c.added.length c1, .slice a2 c.removed.length c2] 27))) := HB1.out.alloc (by omega) _
  have HCb1 := Lib.hid (calBox_new w1 c (.slice a1 c.added.length c1) (.slice a2 c.removed.length c2) 27)
  have HXb1 := Lib.hid (HX1.out.keep ((Below.refl _ _).alloc (Nat.le_refl _) (.cells #[.int .i64 c.frm, .int .i64 c.too, .int .i64 c.wd, .slice a1 c.added.length c1, .slice a2 c.removed.length c2] 27)))
  have HZb1 := Lib.hid (HZ1.out.keep ((Below.refl _ _).alloc (Nat.le_refl _) (.cells #[.int .i64 c.frm, .int .i64 c.too, .int .i64 c.wd, .slice a1 c.added.length c1, .slice a2 c.removed.length c2] 27)))
  have HZf1' : Hid (∀ o, (w1.alloc (.cells #[.int .i64 c.frm, .int .i64 c.too, .int .i64 c.wd, .slice a1 c.added.length c1, .slice a2 c.removed.length c2] 27)).frozen? ⟨w.heap.size + 1, o, none⟩ = false) := fun o => fkeep ((Below.refl _ _).alloc (Nat.le_refl _) _) (by show w.heap.size + 1 < _; omega) (HZf1.out o)
  have HLA1 := Lib.hid (fun b => HLA.out _ HB1'.out HPa.out b)
  clear d1 d2
  have hlt1 : w.heap.size < w1.heap.size := by omega
  have hlt2 : w.heap.size + 1 < w1.heap.size := by omega
  cases r <;> cases wb
  all_goals
    go_wp2_with fail
    go_at_call 95
    refine (HLA1.out _).mono ?_
    rintro e w2 ⟨v3, rfl, hi3, hb2⟩
    obtain ⟨a3, k3, c3, rfl⟩ := ints_slice hi3.at
    have HB2 : Hid (Below w.heap.size w w2) := HB1'.out.trans (hb2.mono (by simp; omega))
    have hz2 : w1.heap.size + 1 ≤ w2.heap.size := by have := hb2.size; simpa using this
    have HX2 := Lib.hid (HXb1.out.keep hb2)
    have HZ2 := Lib.hid (HZb1.out.keep hb2)
    have HC2 := Lib.hid (HCb1.out.keep hb2)
    have HZf2 : Hid (∀ o, w2.frozen? ⟨w.heap.size + 1, o, none⟩ = false) := fun o => fkeep hb2 (by show w.heap.size + 1 < _; simp; omega) (HZf1'.out o)
    have HCf2 : Hid (∀ o, w2.frozen? ⟨w1.heap.size, o, none⟩ = false) := fun o => fkeep hb2 (by simp) (by go_simp)
    have HI3 := Lib.hid (IntsIn.base hi3 (by show w1.heap.size + 1 ≤ _; simp) (Nat.le_refl _))
    clear hi3 hb2 x0 x1 x2 x3 x4 r0 r1 r2 r3 r4 hf1
    obtain ⟨x0, x1, x2, x3, x4⟩ := HX2.out
    obtain ⟨q0, q1, q2, q3, q4⟩ := HC2.out
    have hfc := HCf2.out
    go_wp2_with fail
    go_at_call 95
    refine (HLR.out _ ?hbw HPr.out _).mono ?_
    case hbw => exact HB2.out.setCell (p := ⟨w1.heap.size, 3, none⟩) (by show w.heap.size ≤ w1.heap.size; omega) _
    rintro e w3 ⟨v4, rfl, hi4, hb3⟩
    obtain ⟨a4, k4, c4, rfl⟩ := ints_slice hi4.at
    have HO2 := Lib.hid (setOutE w2 w1.heap.size 3 (.slice a3 k3 c3))
    have HB3 : Hid (Below w.heap.size w w3) := (HB2.out.setCell (p := ⟨w1.heap.size, 3, none⟩) (by show w.heap.size ≤ w1.heap.size; omega) _).trans (hb3.mono (by rw [size_setCell']; omega))
    have hz3 : w2.heap.size ≤ w3.heap.size := by have := hb3.size; rwa [size_setCell'] at this
    have HZ3 := Lib.hid ((calBox_out HZ2.out HO2.out (.inl (by omega))).keep hb3)
    have HZf3 : Hid (∀ o, w3.frozen? ⟨w.heap.size + 1, o, none⟩ = false) := fun o => fkeep hb3 (by show w.heap.size + 1 < _; rw [size_setCell']; omega) (free_out HZ2.out HZf2.out HO2.out (.inl (by omega)) o)
    have HI3' := Lib.hid ((HI3.out.out HO2.out (.inr (Nat.le_refl _))).later hb3)
    have HI4 := Lib.hid (IntsIn.base hi4 (by rw [size_setCell']; exact Nat.le_refl _) (Nat.le_refl _))
    have s0 : w3.cell? ⟨w1.heap.size, 0, none⟩ = some (.int .i64 c.frm) := bkeep hb3 (by rw [set_other (by decide)]; exact q0)
    have s1 : w3.cell? ⟨w1.heap.size, 1, none⟩ = some (.int .i64 c.too) := bkeep hb3 (by rw [set_other (by decide)]; exact q1)
    have s2 : w3.cell? ⟨w1.heap.size, 2, none⟩ = some (.int .i64 c.wd) := bkeep hb3 (by rw [set_other (by decide)]; exact q2)
    have s3 := bkeep hb3 (set_same (u := .slice a3 k3 c3) q3)
    have s4 : w3.cell? ⟨w1.heap.size, 4, none⟩ = some (.slice a2 c.removed.length c2) := bkeep hb3 (by rw [set_other (by decide)]; exact q4)
    have hfs : ∀ o, w3.frozen? ⟨w1.heap.size, o, none⟩ = false := fun o => fkeep hb3 (by show w1.heap.size < _; rw [size_setCell']; omega) (by simpa using HCf2.out o)
    clear hi4 hb3 x0 x1 x2 x3 x4 q0 q1 q2 q3 q4 hfc
    go_wp2_with fail
    obtain ⟨w4, hw4⟩ : ∃ w4 : World, w4 = w3.setCell ⟨w1.heap.size, 4, none⟩ (.slice a4 k4 c4) := ⟨_, rfl⟩
    have HO3 : Hid (Out w1.heap.size (w1.heap.size + 1) w3 w4) := by rw [hw4]; exact setOutE w3 w1.heap.size 4 _
    have hz4 : w4.heap.size = w3.heap.size := by rw [hw4, size_setCell']
    have HCin : Hid (CalIn (w1.heap.size + 1) w4.heap.size w4 (.agg #[.int .i64 c.frm, .int .i64 c.too, .int .i64 c.wd, .slice a3 k3 c3, .slice a4 k4 c4]) E) := by
      show CalIn _ _ _ _ _
      rw [HEx.out]
      refine ⟨_, _, rfl, (HI3'.out.out HO3.out (.inr (Nat.le_refl _))).base (Nat.le_refl _) (by omega), (HI4.out.out HO3.out (.inr hz2)).base hz2 (by omega), ?_⟩
      by_cases hn : (Value.slice a3 k3 c3).ownBlock = none
      · exact .inl hn
      · refine .inr fun e => ?_
        obtain ⟨g, hg⟩ := Option.ne_none_iff_exists'.1 hn
        have g1 := HI3.out.2 g hg
        have g2 := HI4.out.lo g (by rw [← e]; exact hg)
        omega
    have HB4 : Hid (Below w.heap.size w w4) := by show Below _ _ _; rw [hw4]; exact HB3.out.setCell (p := ⟨w1.heap.size, 4, none⟩) (by show w.heap.size ≤ w1.heap.size; omega) _
    have HZ4 := Lib.hid (calBox_out HZ3.out HO3.out (.inl (by omega)))
    have HZf4 : Hid (∀ o, w4.frozen? ⟨w.heap.size + 1, o, none⟩ = false) := fun o => free_out HZ3.out HZf3.out HO3.out (.inl (by omega)) o
    have t0 : w4.cell? ⟨w1.heap.size, 0, none⟩ = some (.int .i64 c.frm) := by rw [hw4, set_other (by decide)]; exact s0
    have t1 : w4.cell? ⟨w1.heap.size, 1, none⟩ = some (.int .i64 c.too) := by rw [hw4, set_other (by decide)]; exact s1
    have t2 : w4.cell? ⟨w1.heap.size, 2, none⟩ = some (.int .i64 c.wd) := by rw [hw4, set_other (by decide)]; exact s2
    have t3 : w4.cell? ⟨w1.heap.size, 3, none⟩ = some (.slice a3 k3 c3) := by rw [hw4, set_other (by decide)]; exact s3
    have t4 : w4.cell? ⟨w1.heap.size, 4, none⟩ = some (.slice a4 k4 c4) := by rw [hw4]; exact set_same s4
    have HV4 := Lib.hid (implValidCal_any _ E w4 HCin.out.at)
    rw [← hw4]
    clear hw4 s0 s1 s2 s3 s4 hfs
    go_at_call 21
    refine HV4.out.mono ?_
    rintro e w5 ⟨rfl, hb5⟩
    have HB5 : Hid (Below w.heap.size w w5) := HB4.out.trans (hb5.mono (by omega))
    have hz5 : w4.heap.size ≤ w5.heap.size := hb5.size
    obtain ⟨r0, r1, r2, r3, r4⟩ := HZ4.out.keep hb5
    have r0 : w5.cell? ⟨w.heap.size + 1, 0, none⟩ = some (.int .i64 0) := r0
    have r1 : w5.cell? ⟨w.heap.size + 1, 1, none⟩ = some (.int .i64 0) := r1
    have r2 : w5.cell? ⟨w.heap.size + 1, 2, none⟩ = some (.int .i64 0) := r2
    have hf5 : ∀ o, w5.frozen? ⟨w.heap.size + 1, o, none⟩ = false := fun o => fkeep hb5 (by show w.heap.size + 1 < _; omega) (HZf4.out o)
    have HCin5 := Lib.hid (HCin.out.later hb5)
    have u0 := bkeep hb5 t0
    have u1 := bkeep hb5 t1
    have u2 := bkeep hb5 t2
    have u3 := bkeep hb5 t3
    have u4 := bkeep hb5 t4
    clear hb5 t0 t1 t2 t3 t4
    by_cases hgE : CalGood E
    · have HN := Lib.hid (HYes.out hgE)
      rw [calB_yes hgE]
      clear hgE
      go_wp2_with fail
      refine bodyPost_ret (v := .tuple #[.agg #[.int .i64 c.frm, .int .i64 c.too, .int .i64 c.wd, .slice a3 k3 c3, .slice a4 k4 c4], .bool true]) (by simp only [results, Try.results30]; go_simp) rfl ⟨_, by rw [HN.out.2], ?_, (((((HB5.out.setCell (p := ⟨w.heap.size + 1, 0, none⟩) (Nat.le_succ _) _).setCell (p := ⟨w.heap.size + 1, 1, none⟩) (Nat.le_succ _) _).setCell (p := ⟨w.heap.size + 1, 2, none⟩) (Nat.le_succ _) _).setCell (p := ⟨w.heap.size + 1, 3, none⟩) (Nat.le_succ _) _).setCell (p := ⟨w.heap.size + 1, 4, none⟩) (Nat.le_succ _) _)⟩
      rw [HN.out.1]
      exact (HCin5.out.out ((((((Out.refl (w.heap.size + 1) (w.heap.size + 1 + 1) w5).setCell (p := ⟨w.heap.size + 1, 0, none⟩) (Nat.le_refl _) (Nat.lt_succ_self _) _).setCell (p := ⟨w.heap.size + 1, 1, none⟩) (Nat.le_refl _) (Nat.lt_succ_self _) _).setCell (p := ⟨w.heap.size + 1, 2, none⟩) (Nat.le_refl _) (Nat.lt_succ_self _) _).setCell (p := ⟨w.heap.size + 1, 3, none⟩) (Nat.le_refl _) (Nat.lt_succ_self _) _).setCell (p := ⟨w.heap.size + 1, 4, none⟩) (Nat.le_refl _) (Nat.lt_succ_self _) _) (.inr (by omega))).base (by omega) (by simp [World.setCell]; omega)
    · have HN := Lib.hid (HNo.out hgE)
      rw [calB_no hgE]
      clear hgE
      go_wp2_with fail
      refine bodyPost_ret (v := .tuple #[.agg #[.int .i64 0, .int .i64 0, .int .i64 0, .slice none 0 0, .slice none 0 0], .bool false]) (by simp only [results, Try.results30]; go_simp) rfl ⟨_, by rw [HN.out.2], by rw [HN.out.1]; exact calZ_in _ _ _, (((((HB5.out.setCell (p := ⟨w.heap.size + 1, 0, none⟩) (Nat.le_succ _) _).setCell (p := ⟨w.heap.size + 1, 1, none⟩) (Nat.le_succ _) _).setCell (p := ⟨w.heap.size + 1, 2, none⟩) (Nat.le_succ _) _).setCell (p := ⟨w.heap.size + 1, 3, none⟩) (Nat.le_succ _) _).setCell (p := ⟨w.heap.size + 1, 4, none⟩) (Nat.le_succ _) _)⟩
end Go.Proofs.Ytbbcjponeiphaaa
