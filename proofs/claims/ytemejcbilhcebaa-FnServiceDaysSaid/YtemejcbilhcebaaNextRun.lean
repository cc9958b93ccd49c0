import Derived.Test.YtemejcbilhcebaaRunDays
import Derived.Test.YtemejcbilhcebaaRunsOn
namespace Go.Proofs.Ytemejcbilhcebaa
open Go.RowKit Go.Shelf
set_option linter.unusedVariables false
attribute [local go_sem] Oper.semAt_some

def nextO (c : CalD) (d : Int) : Option Int := if okB c d = true then (daysOf c d).head? else none
def nextD (c : CalD) (d : Int) : Int := (nextO c d).getD 0
def nextB (c : CalD) (d : Int) : Bool := (nextO c d).isSome
theorem next_none {c : CalD} {d : Int} (h : nextO c d = none) : nextD c d = 0 ∧ nextB c d = false := by simp [nextD, nextB, h]
theorem next_some {c : CalD} {d x : Int} (h : nextO c d = some x) : nextD c d = x ∧ nextB c d = true := by simp [nextD, nextB, h]
theorem nextO_no {c : CalD} {d : Int} (h : okB c d = false) : nextO c d = none := by simp [nextO, h]
theorem nextO_yes {c : CalD} {d : Int} (h : okB c d = true) : nextO c d = (daysOf c d).head? := if_pos h

theorem l1Most_any (a b : Int) (w : World) : Calls Try.prog 81 #[.int .i64 a, .int .i64 b] w fun e w' => e = .returned (.int .i64 (max a b)) ∧ w = w' := by
  by_cases h : b < a
  · have e : max a b = a := by omega
    rw [e]
    clear e
    go_enter Try.func81, Try.ntmps81
    go_wp2
    go_ret
    exact ⟨rfl, rfl⟩
  · have e : max a b = b := by omega
    have h' : a ≤ b := by omega
    rw [e]
    clear e h
    go_enter Try.func81, Try.ntmps81
    go_wp2
    go_ret
    exact ⟨rfl, rfl⟩

theorem runsB_low {c : CalD} {x : Int} (h : x < c.frm) : runsB c x = false := runsB_no fun g => by have := g.1.1; omega
theorem runsB_high {c : CalD} {x : Int} (h : c.too < x) : runsB c x = false := runsB_no fun g => by have := g.1.2; omega

set_option maxHeartbeats 1000000 in
theorem specNextRun_any (v : Value) (c : CalD) (d : Int) (w : World) (hr : CalAt w v c) :
    Calls Try.prog 29 #[v, .int .i64 d] w fun e w' => e = .returned (.tuple #[.int .i64 (nextD c d), .bool (nextB c d)]) ∧ Below w.heap.size w w' := by
  have HG := Lib.hid (fun W (h : Below w.heap.size w W) => l3Good_any v c W (hr.below rfl h))
  have HR := Lib.hid (fun W (h : Below w.heap.size w W) (hg : CalGood c) d => l3Runs_any v c d W (hr.below rfl h) hg)
  obtain ⟨a1, c1, a2, c2, rfl⟩ := Calendar_open hr
  clear hr
  go_enter Try.func29, Try.ntmps29
  go_wp2_with fail
  go_at_call 75
  refine (HG.out _ ((Below.refl _ _).alloc (Nat.le_refl _) _)).mono ?_
  rintro e w1 ⟨rfl, hb1⟩
  have HB1 : Hid (Below w.heap.size w w1) := ((Below.refl _ _).alloc (Nat.le_refl _) _).trans (hb1.mono (by simp))
  have HBx := Lib.hid ((calBox_new w c (.slice a1 c.added.length c1) (.slice a2 c.removed.length c2) _).keep hb1)
  clear hb1
  obtain ⟨c0, c1', c2', c3, c4⟩ := HBx.out
  by_cases hg : CalGood c
  rotate_left
  · have HN := Lib.hid (next_none (c := c) (d := d) (nextO_no (okB_no fun h => hg h.1)))
    rw [calB_no hg]
    clear hg
    go_wp2_with fail
    go_ret2
    rw [HN.out.1, HN.out.2]
    exact ⟨rfl, HB1.out⟩
  rw [calB_yes hg]
  have HGd := Lib.hid hg
  obtain ⟨⟨n1, n2, n3, n4, n5⟩, _⟩ := hg
  go_wp2_with fail
  go_at_call 71
  refine (l3Day_any d _).mono ?_
  rintro e w' ⟨rfl, rfl⟩
  by_cases hd : 0 ≤ d ∧ d ≤ 3650
  rotate_left
  · have HN := Lib.hid (next_none (c := c) (d := d) (nextO_no (okB_no fun h => hd h.2)))
    rw [dayB_no hd]
    clear hd
    go_wp2_with fail
    go_ret2
    rw [HN.out.1, HN.out.2]
    exact ⟨rfl, HB1.out⟩
  rw [dayB_yes hd]
  have HOk := Lib.hid (okB_yes ⟨HGd.out, hd⟩)
  obtain ⟨m0, m1⟩ := hd
  obtain ⟨m, HM⟩ : ∃ m : Int, Hid (m = max d c.frm) := ⟨_, rfl⟩
  have hm0 : 0 ≤ m := by have := HM.out; omega
  have hm1 : m ≤ 3650 := by have := HM.out; omega
  go_wp2_with fail
  go_at_call 81
  refine (l1Most_any _ _ _).mono ?_
  rintro e w' ⟨rfl, rfl⟩
  rw [← HM.out]
  go_wp2_with fail
  go_loopw [6] (fun i wr => ∃ k : Nat, i = .int .i64 (m + (k : Int)) ∧ m + (k : Int) ≤ 3651 ∧ Hid (∀ x, d ≤ x → x < m + (k : Int) → runsB c x = false) ∧ Hid (CalBox wr w.heap.size c (.slice a1 c.added.length c1) (.slice a2 c.removed.length c2)) ∧ Hid (Below w.heap.size w wr))
    (fun i _ => (3651 - RowKit.intOf i).toNat)
  case atStart => exact ⟨0, by simp, by omega, fun x h1 h2 => runsB_low (by have := HM.out; omega), HBx.out, HB1.out⟩
  case round =>
    clear c0 c1' c2' c3 c4 HBx HB1
    obtain ⟨k, rfl, hk, HN, HBx, HB⟩ := hrel
    obtain ⟨c0, c1', c2', c3, c4⟩ := HBx.out
    by_cases hlt : m + (k : Int) ≤ c.too
    · have HDr := Lib.hid (HR.out _ HB.out HGd.out (m + (k : Int)))
      by_cases hrun : runsB c (m + (k : Int)) = true
      · have HS := Lib.hid (next_some (c := c) (d := d) (x := m + (k : Int)) (by
          rw [nextO_yes HOk.out]
          exact dayRow_head (by have := HM.out; omega) (by unfold daysN; omega) hrun (fun y h1 h2 => HN.out y h1 h2)))
        rw [hrun] at HDr
        clear hrun
        go_wp2_with fail
        go_at_call 63
        refine HDr.out.mono ?_
        rintro e w2 ⟨rfl, hb2⟩
        go_wp2_with fail
        go_ret2
        rw [HS.out.1, HS.out.2]
        exact ⟨rfl, HB.out.trans (hb2.mono HB.out.size)⟩
      · have hrun' : runsB c (m + (k : Int)) = false := by simpa using hrun
        have HN2 : Hid (∀ x, d ≤ x → x < m + ((k + 1 : Nat) : Int) → runsB c x = false) := fun x h1 h2 => by
          by_cases e : x = m + (k : Int)
          · subst e; exact hrun'
          · exact HN.out x h1 (by omega)
        rw [hrun'] at HDr
        clear hrun hrun'
        go_wp2_with fail
        go_at_call 63
        refine HDr.out.mono ?_
        rintro e w2 ⟨rfl, hb2⟩
        have HB2 : Hid (Below w.heap.size w w2) := HB.out.trans (hb2.mono HB.out.size)
        have HBx2 := Lib.hid (HBx.out.keep hb2)
        clear hb2 c0 c1' c2' c3 c4
        go_wp2_with fail
        go_roundw
        case rel => exact ⟨k + 1, by rw [show m + ((k + 1 : Nat) : Int) = m + (k : Int) + 1 by omega], by omega, HN2.out, HBx2.out, HB2.out⟩
        case measure => simp [RowKit.intOf]; omega
    · have hgt : c.too < m + (k : Int) := by omega
      have HS := Lib.hid (next_none (c := c) (d := d) (by
        rw [nextO_yes HOk.out, daysOf, dayRow_nil (fun y h1 h2 => ?_)]
        · rfl
        · by_cases e : y < m + (k : Int)
          · exact HN.out y h1 e
          · exact runsB_high (by omega)))
      clear hlt
      go_wp2_with fail
      go_ret2
      rw [HS.out.1, HS.out.2]
      exact ⟨rfl, HB.out⟩

set_option maxRecDepth 100000 in
set_option maxHeartbeats 2000000 in
theorem implNextRun_any (v : Value) (c : CalD) (d : Int) (w : World) (hr : CalAt w v c) :
    Calls Try.prog 28 #[v, .int .i64 d] w fun e w' => e = .returned (.tuple #[.int .i64 (nextD c d), .bool (nextB c d)]) ∧ Below w.heap.size w w' := by
  have HG := Lib.hid (fun W (h : Below w.heap.size w W) => implValidCal_any v c W (hr.below rfl h))
  have HRd := Lib.hid (fun W (h : Below w.heap.size w W) => runDays_any v c d W (hr.below rfl h))
  have HAt := Lib.hid hr
  obtain ⟨a1, c1, a2, c2, rfl⟩ := Calendar_open hr
  clear hr
  have HB0 : Hid (Below w.heap.size w (((w.alloc (.cells #[.int .i64 c.frm, .int .i64 c.too, .int .i64 c.wd, .slice a1 c.added.length c1, .slice a2 c.removed.length c2] 46)).alloc (.cells #[.int .i64 0] 3)).alloc (.cells #[.bool false] 4))) := (((Below.refl _ _).alloc (Nat.le_refl _) _).alloc (by simp) _).alloc (by simp; omega) _
  by_cases hok : CalGood c ∧ 0 ≤ d ∧ d ≤ 3650
  rotate_left
  · have HN := Lib.hid (next_none (c := c) (d := d) (nextO_no (okB_no hok)))
    by_cases hg : CalGood c
    · have hd : ¬ (0 ≤ d ∧ d ≤ 3650) := fun h => hok ⟨hg, h⟩
      have HD := Lib.hid (isDay_no d)
      rw [calB_yes hg] at HG
      have HDn := Lib.hid hd
      clear hg hd hok
      go_enter Try.func28, Try.ntmps28
      go_wp2_with fail
      go_at_call 23
      refine (HG.out _ HB0.out).mono ?_
      rintro e w1 ⟨rfl, hb1⟩
      have HB1 : Hid (Below w.heap.size w w1) := HB0.out.trans (hb1.mono (by simp; omega))
      have p1 : w1.cell? ⟨w.heap.size + 1, 0, none⟩ = some (.int .i64 0) := bkeep hb1 (by go_simp)
      have p2 : w1.cell? ⟨w.heap.size + 1 + 1, 0, none⟩ = some (.bool false) := bkeep hb1 (by go_simp)
      have f1 : w1.frozen? ⟨w.heap.size + 1, 0, none⟩ = false := fkeep hb1 (by simp) (by go_simp)
      have f2 : w1.frozen? ⟨w.heap.size + 1 + 1, 0, none⟩ = false := fkeep hb1 (by simp) (by go_simp)
      clear hb1
      go_wp2_with fail
      go_at_call 78
      refine (HD.out _ HDn.out).mono ?_
      rintro e w' ⟨rfl, rfl⟩
      go_wp2_with fail
      rw [HN.out.1, HN.out.2]
      exact bodyPost_ret (v := .tuple #[.int .i64 0, .bool false]) (by simp only [results, Try.results28]; go_simp) rfl ⟨rfl, (HB1.out.setCell (by simp) _).setCell (by simp; omega) _⟩
    · rw [calB_no hg] at HG
      clear hg hok
      go_enter Try.func28, Try.ntmps28
      go_wp2_with fail
      go_at_call 23
      refine (HG.out _ HB0.out).mono ?_
      rintro e w1 ⟨rfl, hb1⟩
      have HB1 : Hid (Below w.heap.size w w1) := HB0.out.trans (hb1.mono (by simp; omega))
      have p1 : w1.cell? ⟨w.heap.size + 1, 0, none⟩ = some (.int .i64 0) := bkeep hb1 (by go_simp)
      have p2 : w1.cell? ⟨w.heap.size + 1 + 1, 0, none⟩ = some (.bool false) := bkeep hb1 (by go_simp)
      have f1 : w1.frozen? ⟨w.heap.size + 1, 0, none⟩ = false := fkeep hb1 (by simp) (by go_simp)
      have f2 : w1.frozen? ⟨w.heap.size + 1 + 1, 0, none⟩ = false := fkeep hb1 (by simp) (by go_simp)
      clear hb1
      go_wp2_with fail
      rw [HN.out.1, HN.out.2]
      exact bodyPost_ret (v := .tuple #[.int .i64 0, .bool false]) (by simp only [results, Try.results28]; go_simp) rfl ⟨rfl, (HB1.out.setCell (by simp) _).setCell (by simp; omega) _⟩
  obtain ⟨hg, hd⟩ := hok
  have HE := Lib.hid (nextO_yes (okB_yes ⟨hg, hd⟩))
  rw [calB_yes hg] at HG
  have HGd := Lib.hid hg
  have HD := Lib.hid (fun W => isDay_yes d W hd)
  obtain ⟨d0, d1⟩ := hd
  clear hg
  refine (callsIn_wide (n := 9)).1 ?_
  refine callsIn_of_wp_marks Try.func28 rfl trivial ?_ rfl
  simp only [Try.ntmps28, List.size_toArray, List.length_cons, List.length_nil, Nat.reduceAdd, Nat.reduceSub, Array.replicate_succ, Array.replicate_zero, List.push_toArray, List.append_toArray, List.nil_append, List.cons_append]
  gi_wp2_with fail
  refine ⟨trivial, ?_⟩
  gi_at_call 23
  refine (callsIn_wide.2 (HG.out _ HB0.out)).mono ?_
  rintro e w1 ⟨rfl, hb1⟩
  have HB1 : Hid (Below w.heap.size w w1) := HB0.out.trans (hb1.mono (by simp; omega))
  obtain ⟨c0, c1', c2', c3, c4⟩ := ((calBox_new w c (.slice a1 c.added.length c1) (.slice a2 c.removed.length c2) _).keep (((Below.refl _ _).alloc (Nat.le_refl _) (.cells #[.int .i64 0] 3)).alloc (by simp) (.cells #[.bool false] 4))).keep hb1
  have g1 : World.grownBy (((w.alloc (.cells #[.int .i64 c.frm, .int .i64 c.too, .int .i64 c.wd, .slice a1 c.added.length c1, .slice a2 c.removed.length c2] 46)).alloc (.cells #[.int .i64 0] 3)).alloc (.cells #[.bool false] 4)) w1 none := ⟨hb1.os, hb1.tape, hb1.output, hb1.size, fun k hk _ => hb1.block k hk⟩
  have bR := Lib.hid (((Boxed.new (w.alloc (.cells #[.int .i64 c.frm, .int .i64 c.too, .int .i64 c.wd, .slice a1 c.added.length c1, .slice a2 c.removed.length c2] 46)) 3 (.int .i64 0)).alloc (.cells #[.bool false] 4)).kept g1 (fun e => by cases e))
  have bO := Lib.hid ((Boxed.new ((w.alloc (.cells #[.int .i64 c.frm, .int .i64 c.too, .int .i64 c.wd, .slice a1 c.added.length c1, .slice a2 c.removed.length c2] 46)).alloc (.cells #[.int .i64 0] 3)) 4 (.bool false)).kept g1 (fun e => by cases e))
  simp only [World.size_alloc] at bR bO
  have hz1 : w.heap.size + 3 ≤ w1.heap.size := by have := hb1.size; simp at this; omega
  clear hb1 g1
  gi_wp2_with fail
  refine ⟨trivial, ?_⟩
  gi_at_call 78
  refine (callsIn_wide.2 (HD.out _)).mono ?_
  rintro e w' ⟨rfl, rfl⟩
  gi_wp2_with fail
  refine ⟨trivial, ?_⟩
  gi_at_call 76
  refine (callsIn_wide.2 (HRd.out _ HB1.out)).mono ?_
  rintro e w2 ⟨rfl, hb2, hz2, hf2, ⟨av, rv, hvv, hbx2⟩, _⟩
  obtain ⟨rfl, rfl⟩ : av = .slice a1 c.added.length c1 ∧ rv = .slice a2 c.removed.length c2 := by simpa using hvv.symm
  have g2 : World.grownBy w1 w2 none := ⟨hb2.os, hb2.tape, hb2.output, hb2.size, fun k hk _ => hb2.block k hk⟩
  have bR2 := Lib.hid (bR.out.kept g2 (fun e => by cases e))
  have bO2 := Lib.hid (bO.out.kept g2 (fun e => by cases e))
  have HB2 : Hid (Below w.heap.size w w2) := HB1.out.trans (hb2.mono (by omega))
  have hzz : w1.heap.size < w2.heap.size := by omega
  obtain ⟨⟨n1, n2, n3, n4, n5⟩, _⟩ := HGd.out
  have HStop := Lib.hid (runDays1_stops 8 (by omega) _ _ c d _ _ w w2 HB2.out hf2 hbx2 HAt.out HGd.out.1 d0 (by omega))
  clear hf2 hbx2 hz2 hb2 hvv c0 c1' c2' c3 c4 bR bO g2
  gi_wp2_with fail
  refine wpIn_rangeFunc_ownF rfl (by omega) (gf := 105) (lb := #[.pointer (some ⟨w1.heap.size + 1, 0, none⟩), .pointer (some ⟨w1.heap.size, 0, none⟩)]) rfl trivial (enters_of Try.func105 (by kernel_rfl) rfl)
    HStop.out kpD_t (kpD_b HB2.out.size) (Below.refl _ _) (fun _ => rfl)
    (fun pre W => pre = [] ∧ Boxed W (w.heap.size + 1) 3 (.int .i64 0) ∧ Boxed W (w.heap.size + 1 + 1) 4 (.bool false) ∧ Below w.heap.size w W)
    (fun cc pre W => (cc = .ret ∧ pre.length = 1) ∧ Boxed W (w.heap.size + 1) 3 (.int .i64 (pre.headD 0)) ∧ Boxed W (w.heap.size + 1 + 1) 4 (.bool true) ∧ Below w.heap.size w W)
    (OwnFrom.and (ownFrom_pure _ _) (OwnFrom.and (Own.from (boxed_own _ _ _) _) (OwnFrom.and (Own.from (boxed_own _ _ _) _) (ownFrom_below (Nat.le_refl _) HB2.out.size))))
    (fun cc => OwnFrom.and (ownFrom_pure _ _) (OwnFrom.and (Own.from (boxed_own _ _ _) _) (OwnFrom.and (Own.from (boxed_own _ _ _) _) (ownFrom_below (Nat.le_refl _) HB2.out.size))))
    ⟨rfl, bR2.out, bO2.out, HB2.out⟩
    (fun x => { tmps := #[.agg #[.int .i64 c.frm, .int .i64 c.too, .int .i64 c.wd, .slice a1 c.added.length c1, .slice a2 c.removed.length c2], .int .i64 d, .pointer (some ⟨w.heap.size, 0, none⟩), undef, .pointer (some ⟨w.heap.size + 1, 0, none⟩), .pointer (some ⟨w.heap.size + 1 + 1, 0, none⟩), .int .i64 x, .agg #[.int .i64 c.frm, .int .i64 c.too, .int .i64 c.wd, .slice a1 c.added.length c1, .slice a2 c.removed.length c2], .bool true, .bool false, .bool false, .int .i64 d, .bool true, .bool false, .bool false, .agg #[.int .i64 c.frm, .int .i64 c.too, .int .i64 c.wd, .slice a1 c.added.length c1, .slice a2 c.removed.length c2], .int .i64 d, .func (.func 105) #[] #[.pointer (some ⟨w1.heap.size + 1, 0, none⟩), .pointer (some ⟨w1.heap.size, 0, none⟩)], .int .i64 x, undef], defers := [] }) ?assign ?body ?done ?stop
  case assign =>
    intro l x W K hK
    gi_wp2
    simpa using hK
  case body =>
    rintro l pre x W ⟨rfl, hv, hu, hB⟩ hlt
    have hc := hv.cell
    have hfz := hv.frozen
    have hc2 := hu.cell
    have hfz2 := hu.frozen
    gi_wp2
    exact ⟨(KeepsOthers.setCell _ _ _).trans (KeepsOthers.setCell _ _ _), ⟨rfl, rfl⟩, (hv.set (.int .i64 x)).other (by omega) _, (hu.other (by omega) _).set _, (hB.setCell (p := ⟨w.heap.size + 1, 0, none⟩) (by simp) _).setCell (p := ⟨w.heap.size + 1 + 1, 0, none⟩) (by simp; omega) _⟩
  case done =>
    rintro D ys W hD hys ⟨rfl, hv, hu, hB⟩ hK
    have hc := hv.cell
    have hfz := hv.frozen
    have hc2 := hu.cell
    have hfz2 := hu.frozen
    have HN := Lib.hid (next_none (c := c) (d := d) (by rw [HE.out, ← hys]; rfl))
    clear hys
    gi_wp2
    have hK2 := ((KeepsOthers.setCell W ⟨w.heap.size + 1, 0, none⟩ (.int .i64 0)).trans (KeepsOthers.setCell _ ⟨w.heap.size + 1 + 1, 0, none⟩ (.bool false))).same D _ hK rfl
    have r1 := cell_put (o' := .deferred none) hK2 rfl ((hv.set (.int .i64 0)).other (B' := w.heap.size + 1 + 1) (by omega) (.bool false)).cell
    have r2 := cell_put (o' := .deferred none) hK2 rfl ((hu.other (B' := w.heap.size + 1) (by omega) (.int .i64 0)).set (.bool false)).cell
    have hBB := (hB.setCell (p := ⟨w.heap.size + 1, 0, none⟩) (by simp) (.int .i64 0)).setCell (p := ⟨w.heap.size + 1 + 1, 0, none⟩) (by simp; omega) (.bool false)
    refine ⟨by simp, .inl ⟨_, _, rfl, run_takeDeferred hK2, ?_⟩⟩
    refine ⟨.tuple #[.int .i64 0, .bool false], ?_, by rw [HN.out.1, HN.out.2], hBB.trans (belowK_b (w := w) (Nat.le_refl _) _ D _ _ (by omega) hK2 rfl rfl)⟩
    simp [results, Try.f28, go_sem, r1, r2]
  case stop =>
    rintro D cc pre W hD hpre ⟨⟨rfl, hl⟩, hv, hu, hB⟩ hK
    have HN : Hid (nextD c d = pre.headD 0 ∧ nextB c d = true) := next_some (by
      rw [HE.out]
      match pre, hl with
      | [x], _ =>
        obtain ⟨t, ht⟩ := hpre
        rw [← ht]; rfl)
    clear hpre hl
    gi_wp2
    have r1 := cell_put (o' := .deferred none) hK rfl hv.cell
    have r2 := cell_put (o' := .deferred none) hK rfl hu.cell
    refine ⟨by simp, .inl ⟨_, _, rfl, run_takeDeferred hK, ?_⟩⟩
    refine ⟨.tuple #[.int .i64 (pre.headD 0), .bool true], ?_, by rw [HN.out.1, HN.out.2], hB.trans (belowK_b (w := w) (Nat.le_refl _) W D _ _ (by omega) hK rfl rfl)⟩
    simp [results, Try.f28, go_sem, r1, r2]

end Go.Proofs.Ytemejcbilhcebaa
