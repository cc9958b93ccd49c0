/-
  CONTRACTS of spec.l8Asked, spec.IsValidJourney, impl.isChange, impl.canChange, impl.IsValidJourney; both sides.
-/
import Derived.Test.YtmcpafflnccfaaaJourneyS
import Derived.Test.YtmcpafflnccfaaaImplGood
namespace Go.Proofs.Ytmcpafflnccfaaa
open Go.RowKit Jrn Go.Maps
set_option linter.unusedVariables false
set_option linter.unusedSimpArgs false

noncomputable def ansJ (t : TTD) (ch : Int) (cs : List LegD) : Bool := if TTGood t ∧ 0 ≤ ch ∧ ch ≤ 30 then jrnB (allLegs (rides t)) ch cs else false
theorem ansJ_yes {t : TTD} {ch : Int} {cs : List LegD} (hg : TTGood t) (h : 0 ≤ ch ∧ ch ≤ 30) : ansJ t ch cs = jrnB (allLegs (rides t)) ch cs := if_pos ⟨hg, h⟩
theorem ansJ_no {t : TTD} {ch : Int} {cs : List LegD} (h : ¬ (TTGood t ∧ 0 ≤ ch ∧ ch ≤ 30)) : ansJ t ch cs = false := if_neg h
noncomputable def askB (t : TTD) (ch : Int) : Bool := @decide (TTGood t ∧ 0 ≤ ch ∧ ch ≤ 30) (Classical.propDecidable _)
theorem askB_yes {t : TTD} {ch : Int} (h : TTGood t ∧ 0 ≤ ch ∧ ch ≤ 30) : askB t ch = true := by unfold askB; exact @decide_eq_true _ (Classical.propDecidable _) h
theorem askB_no {t : TTD} {ch : Int} (h : ¬ (TTGood t ∧ 0 ≤ ch ∧ ch ≤ 30)) : askB t ch = false := by unfold askB; exact @decide_eq_false _ (Classical.propDecidable _) h

set_option maxHeartbeats 1000000 in
theorem l8Asked_any (v : Value) (t : TTD) (ch : Int) (w : World) (hr : TTAt w v t) (hf : TTFits t) :
    Calls Try.prog 63 #[v, .int .i64 ch] w fun e w' => e = .returned (.bool (askB t ch)) ∧ Below w.heap.size w w' := by
  have HG := Lib.hid (fun W (hW : Below w.heap.size w W) => l5Good_any v t W (hr.below rfl hW) hf)
  obtain ⟨a, c, a', c', b, d, rfl, -, -⟩ := tt_open hr
  clear hr hf
  by_cases hg : TTGood t
  · rw [ttB_yes hg] at HG
    by_cases h : 0 ≤ ch ∧ ch ≤ 30
    · rw [askB_yes ⟨hg, h⟩]
      clear hg
      go_enter Try.func63, Try.ntmps63
      go_wp2_with fail
      go_at_call 108
      refine (HG.out _ ((Below.refl _ _).alloc (Nat.le_refl _) _)).mono ?_
      rintro e w1 ⟨rfl, hb1⟩
      have HB1 : Hid (Below w.heap.size w w1) := ((Below.refl _ _).alloc (Nat.le_refl _) _).trans (hb1.mono (by simp))
      clear hb1
      go_wp2_with fail
      go_at_call 66
      refine (l1In_yes _ _ _ _ h).mono ?_
      rintro e w2 ⟨rfl, rfl⟩
      go_wp2_with fail
      go_ret
      exact ⟨rfl, HB1.out⟩
    · rw [askB_no fun hh => h hh.2]
      clear hg
      go_enter Try.func63, Try.ntmps63
      go_wp2_with fail
      go_at_call 108
      refine (HG.out _ ((Below.refl _ _).alloc (Nat.le_refl _) _)).mono ?_
      rintro e w1 ⟨rfl, hb1⟩
      have HB1 : Hid (Below w.heap.size w w1) := ((Below.refl _ _).alloc (Nat.le_refl _) _).trans (hb1.mono (by simp))
      clear hb1
      go_wp2_with fail
      go_at_call 66
      refine (l1In_no _ _ _ _ h).mono ?_
      rintro e w2 ⟨rfl, rfl⟩
      go_wp2_with fail
      go_ret
      exact ⟨rfl, HB1.out⟩
  · rw [ttB_no hg] at HG
    rw [askB_no fun hh => hg hh.1]
    clear hg
    go_enter Try.func63, Try.ntmps63
    go_wp2_with fail
    go_at_call 108
    refine (HG.out _ ((Below.refl _ _).alloc (Nat.le_refl _) _)).mono ?_
    rintro e w1 ⟨rfl, hb1⟩
    have HB1 : Hid (Below w.heap.size w w1) := ((Below.refl _ _).alloc (Nat.le_refl _) _).trans (hb1.mono (by simp))
    clear hb1
    go_wp2_with fail
    go_ret
    exact ⟨rfl, HB1.out⟩

/-! the program's side -/
theorem isChange_any (ch : Int) (w : World) : Calls Try.prog 81 #[.int .i64 ch] w fun e w' => e = .returned (.bool (decide (0 ≤ ch ∧ ch ≤ 30))) ∧ w = w' := by
  by_cases h0 : 0 ≤ ch
  · by_cases h1 : ch ≤ 30
    · rw [decide_eq_true (show 0 ≤ ch ∧ ch ≤ 30 from ⟨h0, h1⟩)]
      go_enter Try.func81, Try.ntmps81
      go_wp2
      go_ret
      exact ⟨rfl, rfl⟩
    · rw [decide_eq_false (show ¬ (0 ≤ ch ∧ ch ≤ 30) from fun h => h1 h.2)]
      go_enter Try.func81, Try.ntmps81
      go_wp2
      go_ret
      exact ⟨rfl, rfl⟩
  · rw [decide_eq_false (show ¬ (0 ≤ ch ∧ ch ≤ 30) from fun h => h0 h.1)]
    go_enter Try.func81, Try.ntmps81
    go_wp2
    go_ret
    exact ⟨rfl, rfl⟩
set_option maxHeartbeats 1000000 in
theorem canChange_any (y x : LegD) (ch : Int) (w : World) (hw : IntKind.i64.wrap (y.arr + ch) = y.arr + ch) : Calls Try.prog 70 #[legV y, legV x, .int .i64 ch] w fun e w' => e = .returned (.bool (decide (y.dst = x.frm ∧ y.arr + ch ≤ x.dep))) ∧ Below w.heap.size w w' := by
  unfold legV
  by_cases h0 : y.dst = x.frm
  · by_cases h1 : y.arr + ch ≤ x.dep
    · rw [decide_eq_true (show y.dst = x.frm ∧ y.arr + ch ≤ x.dep from ⟨h0, h1⟩)]
      have hb : (x.frm == y.dst) = true := by simp [h0]
      clear h0
      go_enter Try.func70, Try.ntmps70
      go_wp2_with fail
      go_ret
      exact ⟨rfl, ((Below.refl _ _).alloc (by simp <;> omega) _).alloc (by simp <;> omega) _⟩
    · rw [decide_eq_false (show ¬ (y.dst = x.frm ∧ y.arr + ch ≤ x.dep) from fun h => h1 h.2)]
      have hb : (x.frm == y.dst) = true := by simp [h0]
      clear h0
      go_enter Try.func70, Try.ntmps70
      go_wp2_with fail
      go_ret
      exact ⟨rfl, ((Below.refl _ _).alloc (by simp <;> omega) _).alloc (by simp <;> omega) _⟩
  · rw [decide_eq_false (show ¬ (y.dst = x.frm ∧ y.arr + ch ≤ x.dep) from fun h => h0 h.1)]
    have hb : (x.frm == y.dst) = false := by simp; exact fun e => h0 e.symm
    clear h0
    go_enter Try.func70, Try.ntmps70
    go_wp2_with fail
    go_ret
    exact ⟨rfl, ((Below.refl _ _).alloc (by simp <;> omega) _).alloc (by simp <;> omega) _⟩
theorem IntSet.later' {b : Nat} {S : List Int} {w w' : World} (h : IntSet b S w) (hb : Below w.heap.size w w') : IntSet b S w' := SetOf.block h (hb.block b (SetOf.lt h))
theorem IntSet.lt {b : Nat} {S : List Int} {w : World} (h : IntSet b S w) : b < w.heap.size := SetOf.lt h
set_option maxRecDepth 100000 in
set_option maxHeartbeats 8000000 in
theorem implValidJ_any (v lv : Value) (t : TTD) (ch : Int) (cs : List LegD) (w : World) (hr : TTAt w v t) (hl : LegsAt w lv cs) (hf : TTFits t) (hs : TTSmall t) (hsl : LegsSmall cs) (hfl : LegsFit cs) :
    Calls Try.prog 34 #[v, .int .i64 ch, lv] w fun e w' => e = .returned (.bool (ansJ t ch cs)) ∧ Below w.heap.size w w' := by
  have HG := Lib.hid (fun W (hW : Below w.heap.size w W) => implTT_any v t W (hr.below rfl hW) hf)
  have HLB := Lib.hid (fun (hg : TTGood t) W (hW : Below w.heap.size w W) => legsByStop_any v t W (hr.below rfl hW) hg)
  have HL := Lib.hid hl
  have HFit := Lib.hid hfl
  obtain ⟨a, c, a', c', b, d, rfl, -, -⟩ := tt_open hr
  obtain ⟨la, lc, rfl⟩ := LegS_open hl
  clear hr hf hs hl hfl
  unfold LegsSmall at hsl
  by_cases hg : TTGood t
  · rw [ttB_yes hg] at HG
    by_cases hch : 0 ≤ ch ∧ ch ≤ 30
    · have HC := Lib.hid (fun W => isChange_any ch W)
      rw [decide_eq_true hch] at HC
      rw [ansJ_yes hg hch]
      have HLBg := Lib.hid (HLB.out hg)
      have HGd := Lib.hid hg
      obtain ⟨hc0, hc1⟩ := hch
      clear hg HLB
      by_cases hn1 : cs.length < 1
      · have HN := Lib.hid (jrn_len (L := allLegs (rides t)) (ch := ch) (c := cs) (by omega))
        have hn1' : (cs.length : Int) < 1 := by omega
        go_enter Try.func34, Try.ntmps34
        go_wp2_with fail
        go_at_call 80
        refine (HG.out _ ((Below.refl _ _).alloc (Nat.le_refl _) _)).mono ?_
        rintro e w1 ⟨rfl, hb⟩
        have HB1 : Hid (Below w.heap.size w w1) := ((Below.refl _ _).alloc (Nat.le_refl _) _).trans (hb.mono (by simp))
        have z0 : w1.cell? ⟨w.heap.size, 0, none⟩ = some (.slice a t.net.stops.length c) := bkeep hb (by go_simp)
        have z1 : w1.cell? ⟨w.heap.size, 1, none⟩ = some (.slice a' t.net.lines.length c') := bkeep hb (by go_simp)
        have z2 : w1.cell? ⟨w.heap.size, 2, none⟩ = some (.slice b t.trips.length d) := bkeep hb (by go_simp)
        clear hb
        go_wp2_with fail
        go_at_call 81
        refine (HC.out _).mono ?_
        rintro e w1' ⟨rfl, rfl⟩
        go_wp2_with fail
        go_ret
        exact ⟨ret_bool (by rw [HN.out]), HB1.out⟩
      · have hn1' : ¬ (cs.length : Int) < 1 := by omega
        by_cases hn4 : cs.length ≤ 4
        · have hn4' : ¬ (4 : Int) < (cs.length : Int) := by omega
          go_enter Try.func34, Try.ntmps34
          go_wp2_with fail
          go_at_call 80
          refine (HG.out _ ((Below.refl _ _).alloc (Nat.le_refl _) _)).mono ?_
          rintro e w1 ⟨rfl, hb⟩
          have HB1 : Hid (Below w.heap.size w w1) := ((Below.refl _ _).alloc (Nat.le_refl _) _).trans (hb.mono (by simp))
          have z0 : w1.cell? ⟨w.heap.size, 0, none⟩ = some (.slice a t.net.stops.length c) := bkeep hb (by go_simp)
          have z1 : w1.cell? ⟨w.heap.size, 1, none⟩ = some (.slice a' t.net.lines.length c') := bkeep hb (by go_simp)
          have z2 : w1.cell? ⟨w.heap.size, 2, none⟩ = some (.slice b t.trips.length d) := bkeep hb (by go_simp)
          clear hb
          go_wp2_with fail
          go_at_call 81
          refine (HC.out _).mono ?_
          rintro e w1' ⟨rfl, rfl⟩
          go_wp2_with fail
          go_at_call 57
          refine (HLBg.out _ HB1.out).mono ?_
          rintro e w2 ⟨⟨rfl, hlm⟩, hb⟩
          have HBw0 : Hid (Below w.heap.size w w2) := HB1.out.trans (hb.mono HB1.out.size)
          have HLM := Lib.hid hlm
          have hmm := @run_makeMap Try.prog
          have hset0 := SetOf.made w2 Try.prog 3 4 iLit
          have HSet0 : Hid (IntSet w2.heap.size [] (w2.alloc (.map #[] 0))) := hset0
          clear hb hlm z0 z1 z2 hset0
          go_wp2_with fail
          go_loopw [34] (fun q wr => ∃ k : Nat, k ≤ cs.length ∧ q = .int .i64 k ∧ Hid (StepsTo (allLegs (rides t)) ch cs k) ∧ Hid (IntSet w2.heap.size ((cs.take k).map (fun l => l.trip)) wr) ∧ Hid (Below w2.heap.size w2 wr)) (fun q _ => cs.length - (RowKit.intOf q).toNat)
          case atStart => exact ⟨0, Nat.zero_le _, rfl, (fun j _ h => by omega), by show IntSet _ _ _; simpa using HSet0.out, (Below.refl _ _).alloc (Nat.le_refl _) _⟩
          case round =>
            obtain ⟨wo, rfl⟩ : ∃ wo : World, wo = wr := ⟨_, rfl⟩
            obtain ⟨k, hk, rfl, HSt, HSet, HB⟩ := hrel
            have HBw := fun W (h : Below w2.heap.size w2 W) => HBw0.out.trans (h.mono HBw0.out.size)
            by_cases hlt : k < cs.length
            · obtain ⟨g, go, rfl, hgb, y0, y1, y2, y3, y4⟩ := leg_at (HL.out.below rfl (HBw _ HB.out)) k hlt
              have hk1 : (k : Int) < (cs.length : Int) := by omega
              obtain ⟨x, hx⟩ : ∃ x, cs[k] = x := ⟨_, rfl⟩
              simp only [hx] at y0 y1 y2 y3 y4
              have hwx := HFit.out _ (List.getElem_mem hlt)
              rw [hx] at hwx
              have HWT := Lib.hid hwx.1
              have HWF := Lib.hid hwx.2.1
              clear hwx
              have hba : Below wo.heap.size wo (wo.alloc (.cells #[.int .i64 x.trip, .int .i64 x.frm, .int .i64 x.dst, .int .i64 x.dep, .int .i64 x.arr] 62)) := (Below.refl _ _).alloc (Nat.le_refl _) _
              have HBa : Hid (Below w2.heap.size w2 (wo.alloc (.cells #[.int .i64 x.trip, .int .i64 x.frm, .int .i64 x.dst, .int .i64 x.dep, .int .i64 x.arr] 62))) := HB.out.trans (hba.mono HB.out.size)
              have hlk1 := (HSet.out.later' hba).look HWT.out
              by_cases hu : x.trip ∈ (cs.take k).map (fun l => l.trip)
              · have HN : Hid (jrnB (allLegs (rides t)) ch cs = false) := jrn_no hlt fun h => by
                  obtain ⟨z, hz, hze⟩ := List.mem_map.1 hu
                  obtain ⟨j, hj, rfl⟩ := List.mem_take_iff_getElem.1 hz
                  exact h.2.1 j (by omega) (by rw [hx]; exact hze)
                rw [memB_yes hu] at hlk1
                clear hu hba
                go_wp2_with fail
                go_ret
                exact ⟨ret_bool (by rw [HN.out]), HBw _ HBa.out⟩
              · rw [memB_no hu] at hlk1
                obtain ⟨hd, hlk2, hown⟩ := (HLM.out.later HBa.out).look x.frm HWF.out
                have hat := legsAt_own hown
                have HCt := Lib.hid (fun W h => containsLeg_any hd (legsAt (allLegs (rides t)) x.frm) x W (hat.below rfl h))
                have HSeta := Lib.hid (HSet.out.later' hba)
                have hq0 : (wo.alloc (.cells #[.int .i64 x.trip, .int .i64 x.frm, .int .i64 x.dst, .int .i64 x.dep, .int .i64 x.arr] 62)).cell? ⟨wo.heap.size, 0, none⟩ = some (.int .i64 x.trip) := by go_simp
                have hq1 : (wo.alloc (.cells #[.int .i64 x.trip, .int .i64 x.frm, .int .i64 x.dst, .int .i64 x.dep, .int .i64 x.arr] 62)).cell? ⟨wo.heap.size, 1, none⟩ = some (.int .i64 x.frm) := by go_simp
                have hq2 : (wo.alloc (.cells #[.int .i64 x.trip, .int .i64 x.frm, .int .i64 x.dst, .int .i64 x.dep, .int .i64 x.arr] 62)).cell? ⟨wo.heap.size, 2, none⟩ = some (.int .i64 x.dst) := by go_simp
                have hq3 : (wo.alloc (.cells #[.int .i64 x.trip, .int .i64 x.frm, .int .i64 x.dst, .int .i64 x.dep, .int .i64 x.arr] 62)).cell? ⟨wo.heap.size, 3, none⟩ = some (.int .i64 x.dep) := by go_simp
                have hq4 : (wo.alloc (.cells #[.int .i64 x.trip, .int .i64 x.frm, .int .i64 x.dst, .int .i64 x.dep, .int .i64 x.arr] 62)).cell? ⟨wo.heap.size, 4, none⟩ = some (.int .i64 x.arr) := by go_simp
                have hmem : x ∈ legsAt (allLegs (rides t)) x.frm ↔ x ∈ allLegs (rides t) := by unfold legsAt; simp
                have HU := Lib.hid hu
                obtain ⟨ha, hcap, rfl⟩ := LegS_open hat
                clear hown hat hu hba HSet
                by_cases hin : x ∈ allLegs (rides t)
                · rw [decide_eq_true (hmem.2 hin)] at HCt
                  have HIN := Lib.hid hin
                  clear hin hmem
                  unfold legV at HCt
                  go_wp2_with fail
                  go_at_call 82
                  refine (HCt.out _ (Below.refl _ _)).mono ?_
                  rintro e wc ⟨rfl, hb⟩
                  have x0 := bkeep hb hq0
                  have x1 := bkeep hb hq1
                  have x2 := bkeep hb hq2
                  have x3 := bkeep hb hq3
                  have x4 := bkeep hb hq4
                  have HB2 : Hid (Below w2.heap.size w2 wc) := HBa.out.trans (hb.mono HBa.out.size)
                  have HSet2 := Lib.hid (HSeta.out.later' hb)
                  clear hb hq0 hq1 hq2 hq3 hq4 y0 y1 y2 y3 y4 hlk1 hlk2 HSeta HCt
                  by_cases hk0 : k = 0
                  · subst hk0
                    have HS1 : Hid (StepsTo (allLegs (rides t)) ch cs (0 + 1)) := stepsTo_succ hlt HSt.out ⟨by rw [hx]; exact HIN.out, fun j hj => by omega, fun j hj => by omega⟩
                    go_wp2_with fail
                    go_quiet (fail)
                    have hdn : Below wc.heap.size wc (wc.drewN nq) := Dr.below ⟨_, rfl⟩
                    have hset3 := HSet2.out.later' hdn
                    obtain ⟨w4, hput, hset4, hg4⟩ := hset3.put HWT.out (by simp only [List.length_map, List.length_take]; unfold maxLen; omega)
                    have hB3 := HB2.out.trans (hdn.mono HB2.out.size)
                    have HB4 : Hid (Below w2.heap.size w2 w4) := hB3.grown hg4 hB3.size (fun g hg => by simp at hg; omega)
                    have HSet4 : Hid (IntSet w2.heap.size ((cs.take (0 + 1)).map (fun l => l.trip)) w4) := by
                      show IntSet _ _ _
                      rw [List.take_succ_eq_append_getElem hlt, List.map_append, hx]; exact hset4
                    clear hset3 hset4 hg4 hdn hB3
                    go_wp2_with fail
                    go_roundw
                    case rel => exact ⟨0 + 1, by omega, by go_num, HS1, HSet4, HB4⟩
                    case measure => simp [RowKit.intOf]; omega
                  · obtain ⟨k', rfl⟩ : ∃ k', k = k' + 1 := ⟨k - 1, by omega⟩
                    obtain ⟨g', go', hg', -, u0, u1, u2, u3, u4⟩ := leg_at (HL.out.below rfl (HBw _ HB2.out)) k' (by omega)
                    simp at hg'
                    obtain ⟨rfl, rfl⟩ := hg'
                    obtain ⟨pv, hy⟩ : ∃ y, (cs[k']'(by omega)) = y := ⟨_, rfl⟩
                    simp only [hy] at u0 u1 u2 u3 u4
                    have hyL := (HSt.out k' (by omega) (by omega)).1
                    rw [hy] at hyL
                    have hyb := legs_bound HGd.out pv hyL
                    have hwr : IntKind.i64.wrap (pv.arr + ch) = pv.arr + ch := IntWalk.i64_in _ (by omega)
                    have HCan := Lib.hid (fun W => canChange_any pv x ch W hwr)
                    have hk2 : (0 : Int) < ((k' + 1 : Nat) : Int) := by omega
                    have hk3 : ((k' + 1 : Nat) : Int) - 1 = (k' : Int) := by omega
                    have hk4 : (k' : Int) < (cs.length : Int) := by omega
                    have hk5 : (0 : Int) ≤ (k' : Int) := by omega
                    have hwk : IntKind.i64.wrap (((k' + 1 : Nat) : Int) - 1) = (k' : Int) := by rw [hk3]; exact IntWalk.i64_in _ (by omega)
                    push_cast at hk2 hk3 hwk
                    have hwk2 : IntKind.i64.wrap (k' : Int) = (k' : Int) := IntWalk.i64_in _ (by omega)
                    by_cases hcan : pv.dst = x.frm ∧ pv.arr + ch ≤ x.dep
                    · rw [decide_eq_true hcan] at HCan
                      have HS1 : Hid (StepsTo (allLegs (rides t)) ch cs (k' + 1 + 1)) := stepsTo_succ hlt HSt.out ⟨by rw [hx]; exact HIN.out, fun j hj => by
                        rw [hx]; intro e
                        exact HU.out (List.mem_map.2 ⟨cs[j]'(by omega), List.mem_take_iff_getElem.2 ⟨j, by omega, rfl⟩, e⟩), fun j hj => by
                        obtain rfl : j = k' := by omega
                        rw [hx, hy]; exact hcan⟩
                      clear hcan HSt hyb hyL hwr
                      go_wp2_with fail
                      refine wp_region_held_drew (S := (fun w' => w'.cell? ⟨g, go + k' * 5, none⟩ = some (.int .i64 pv.trip) ∧ w'.cell? ⟨g, go + k' * 5 + 1, none⟩ = some (.int .i64 pv.frm) ∧ w'.cell? ⟨g, go + k' * 5 + 2, none⟩ = some (.int .i64 pv.dst) ∧ w'.cell? ⟨g, go + k' * 5 + 3, none⟩ = some (.int .i64 pv.dep) ∧ w'.cell? ⟨g, go + k' * 5 + 4, none⟩ = some (.int .i64 pv.arr) ∧ w'.cell? ⟨wo.heap.size, 0, none⟩ = some (.int .i64 x.trip) ∧ w'.cell? ⟨wo.heap.size, 1, none⟩ = some (.int .i64 x.frm) ∧ w'.cell? ⟨wo.heap.size, 2, none⟩ = some (.int .i64 x.dst) ∧ w'.cell? ⟨wo.heap.size, 3, none⟩ = some (.int .i64 x.dep) ∧ w'.cell? ⟨wo.heap.size, 4, none⟩ = some (.int .i64 x.arr))) (by kernel_rfl) ?_ (fun hHeld => ?_)
                      · exact ⟨u0, u1, u2, u3, u4, x0, x1, x2, x3, x4⟩
                      refine wpAnyH_take (i := 0) (v := ?_) (by simp only [List.getElem?_toArray, List.getElem?_cons_zero]; rfl) (by kernel_rfl) (by kernel_rfl) (by kernel_rfl) (by exact fun _ _ _ h => h) (Or.inl ⟨by rfl, ?_⟩) (by assumption) ?_
                      rotate_left
                      · intro w' hSw; obtain ⟨e0, e1, e2, e3, e4, e5, e6, e7, e8, e9⟩ := hSw
                        go_simp; try with_reducible rfl
                      try simp only [Act.put, List.setIfInBounds_toArray, List.set_cons_zero, List.set_cons_succ]
                      refine wpAnyH_take (i := 1) (v := ?_) (by simp only [List.getElem?_toArray, List.getElem?_cons_succ, List.getElem?_cons_zero]; rfl) (by kernel_rfl) (by kernel_rfl) (by kernel_rfl) (by exact fun _ _ _ h => h) (Or.inl ⟨by rfl, ?_⟩) (by assumption) ?_
                      rotate_left
                      · intro w' hSw; obtain ⟨e0, e1, e2, e3, e4, e5, e6, e7, e8, e9⟩ := hSw
                        go_simp; try with_reducible rfl
                      try simp only [Act.put, List.setIfInBounds_toArray, List.set_cons_zero, List.set_cons_succ]
                      refine wpAnyH_take (i := 2) (v := ?_) (by simp only [List.getElem?_toArray, List.getElem?_cons_succ, List.getElem?_cons_zero]; rfl) (by kernel_rfl) (by kernel_rfl) (by kernel_rfl) (by exact fun _ _ _ h => h) (Or.inl ⟨by rfl, ?_⟩) (by assumption) ?_
                      rotate_left
                      · intro w' hSw; obtain ⟨e0, e1, e2, e3, e4, e5, e6, e7, e8, e9⟩ := hSw
                        go_simp; try with_reducible rfl
                      try simp only [Act.put, List.setIfInBounds_toArray, List.set_cons_zero, List.set_cons_succ]
                      refine wpAnyH_take (i := 3) (v := ?_) (by simp only [List.getElem?_toArray, List.getElem?_cons_succ, List.getElem?_cons_zero]; rfl) (by kernel_rfl) (by kernel_rfl) (by kernel_rfl) (by exact fun _ _ _ h => h) (Or.inl ⟨by rfl, ?_⟩) (by assumption) ?_
                      rotate_left
                      · intro w' hSw; obtain ⟨e0, e1, e2, e3, e4, e5, e6, e7, e8, e9⟩ := hSw
                        go_simp; try with_reducible rfl
                      try simp only [Act.put, List.setIfInBounds_toArray, List.set_cons_zero, List.set_cons_succ]
                      refine wpAnyH_take (i := 4) (v := ?_) (by simp only [List.getElem?_toArray, List.getElem?_cons_succ, List.getElem?_cons_zero]; rfl) (by kernel_rfl) (by kernel_rfl) (by kernel_rfl) (by exact fun _ _ _ h => h) (Or.inl ⟨by rfl, ?_⟩) (by assumption) ?_
                      rotate_left
                      · intro w' hSw; obtain ⟨e0, e1, e2, e3, e4, e5, e6, e7, e8, e9⟩ := hSw
                        go_simp; try with_reducible rfl
                      try simp only [Act.put, List.setIfInBounds_toArray, List.set_cons_zero, List.set_cons_succ]
                      refine wpAnyH_take (i := 5) (v := ?_) (by simp only [List.getElem?_toArray, List.getElem?_cons_succ, List.getElem?_cons_zero]; rfl) (by kernel_rfl) (by kernel_rfl) (by kernel_rfl) (by exact fun _ _ _ h => h) (Or.inl ⟨by rfl, ?_⟩) (by assumption) ?_
                      rotate_left
                      · intro w' hSw; obtain ⟨e0, e1, e2, e3, e4, e5, e6, e7, e8, e9⟩ := hSw
                        go_simp; try with_reducible rfl
                      try simp only [Act.put, List.setIfInBounds_toArray, List.set_cons_zero, List.set_cons_succ]
                      refine wpAnyH_take (i := 6) (v := ?_) (by simp only [List.getElem?_toArray, List.getElem?_cons_succ, List.getElem?_cons_zero]; rfl) (by kernel_rfl) (by kernel_rfl) (by kernel_rfl) (by exact fun _ _ _ h => h) (Or.inl ⟨by rfl, ?_⟩) (by assumption) ?_
                      rotate_left
                      · intro w' hSw; obtain ⟨e0, e1, e2, e3, e4, e5, e6, e7, e8, e9⟩ := hSw
                        go_simp; try with_reducible rfl
                      try simp only [Act.put, List.setIfInBounds_toArray, List.set_cons_zero, List.set_cons_succ]
                      refine wpAnyH_take (i := 7) (v := ?_) (by simp only [List.getElem?_toArray, List.getElem?_cons_succ, List.getElem?_cons_zero]; rfl) (by kernel_rfl) (by kernel_rfl) (by kernel_rfl) (by exact fun _ _ _ h => h) (Or.inl ⟨by rfl, ?_⟩) (by assumption) ?_
                      rotate_left
                      · intro w' hSw; obtain ⟨e0, e1, e2, e3, e4, e5, e6, e7, e8, e9⟩ := hSw
                        go_simp; try with_reducible rfl
                      try simp only [Act.put, List.setIfInBounds_toArray, List.set_cons_zero, List.set_cons_succ]
                      refine wpAnyH_take (i := 8) (v := ?_) (by simp only [List.getElem?_toArray, List.getElem?_cons_succ, List.getElem?_cons_zero]; rfl) (by kernel_rfl) (by kernel_rfl) (by kernel_rfl) (by exact fun _ _ _ h => h) (Or.inl ⟨by rfl, ?_⟩) (by assumption) ?_
                      rotate_left
                      · intro w' hSw; obtain ⟨e0, e1, e2, e3, e4, e5, e6, e7, e8, e9⟩ := hSw
                        go_simp; try with_reducible rfl
                      try simp only [Act.put, List.setIfInBounds_toArray, List.set_cons_zero, List.set_cons_succ]
                      refine wpAnyH_take (i := 9) (v := ?_) (by simp only [List.getElem?_toArray, List.getElem?_cons_succ, List.getElem?_cons_zero]; rfl) (by kernel_rfl) (by kernel_rfl) (by kernel_rfl) (by exact fun _ _ _ h => h) (Or.inl ⟨by rfl, ?_⟩) (by assumption) ?_
                      rotate_left
                      · intro w' hSw; obtain ⟨e0, e1, e2, e3, e4, e5, e6, e7, e8, e9⟩ := hSw
                        go_simp; try with_reducible rfl
                      try simp only [Act.put, List.setIfInBounds_toArray, List.set_cons_zero, List.set_cons_succ]
                      refine wpAnyH_ready (rs := [10]) (by kernel_rfl) (by simp) ?_
                      refine AllReadyH.cons (by simp only [List.getElem?_toArray, List.getElem?_cons_succ, List.getElem?_cons_zero]; rfl) (fun K hK => ?_) AllReadyH.nil
                      unfold legV at HCan
                      go_simp
                      go_at_call 70
                      refine (HCan.out _).mono ?_
                      rintro e w3 ⟨rfl, hb⟩
                      have rb : Below wc.heap.size wc w3 := (Below.refl _ _).drew.trans hb
                      have hS3 : w3.cell? ⟨g, go + k' * 5, none⟩ = some (.int .i64 pv.trip) ∧ w3.cell? ⟨g, go + k' * 5 + 1, none⟩ = some (.int .i64 pv.frm) ∧ w3.cell? ⟨g, go + k' * 5 + 2, none⟩ = some (.int .i64 pv.dst) ∧ w3.cell? ⟨g, go + k' * 5 + 3, none⟩ = some (.int .i64 pv.dep) ∧ w3.cell? ⟨g, go + k' * 5 + 4, none⟩ = some (.int .i64 pv.arr) ∧ w3.cell? ⟨wo.heap.size, 0, none⟩ = some (.int .i64 x.trip) ∧ w3.cell? ⟨wo.heap.size, 1, none⟩ = some (.int .i64 x.frm) ∧ w3.cell? ⟨wo.heap.size, 2, none⟩ = some (.int .i64 x.dst) ∧ w3.cell? ⟨wo.heap.size, 3, none⟩ = some (.int .i64 x.dep) ∧ w3.cell? ⟨wo.heap.size, 4, none⟩ = some (.int .i64 x.arr) := ⟨bkeep rb u0, bkeep rb u1, bkeep rb u2, bkeep rb u3, bkeep rb u4, bkeep rb x0, bkeep rb x1, bkeep rb x2, bkeep rb x3, bkeep rb x4⟩
                      have HRB := Lib.hid rb
                      clear hb rb
                      go_wp2_with fail
                      refine hK.out _ _ hS3 (fun hH10 => ?_)
                      clear hK K
                      try simp only [Act.put, List.setIfInBounds_toArray, List.set_cons_zero, List.set_cons_succ]
                      refine wpAnyH_take (i := 11) (v := ?_) (by simp only [List.getElem?_toArray, List.getElem?_cons_succ, List.getElem?_cons_zero]; rfl) (by kernel_rfl) (by kernel_rfl) (by kernel_rfl) (by exact fun _ _ _ h => h) (Or.inl ⟨by rfl, ?_⟩) (by assumption) ?_
                      rotate_left
                      · intro w' hSw; obtain ⟨e0, e1, e2, e3, e4, e5, e6, e7, e8, e9⟩ := hSw
                        go_simp; try with_reducible rfl
                      try simp only [Act.put, List.setIfInBounds_toArray, List.set_cons_zero, List.set_cons_succ]
                      refine wpAnyH_take (i := 12) (v := ?_) (by simp only [List.getElem?_toArray, List.getElem?_cons_succ, List.getElem?_cons_zero]; rfl) (by kernel_rfl) (by kernel_rfl) (by kernel_rfl) (by exact fun _ _ _ h => h) (Or.inl ⟨by rfl, ?_⟩) (by assumption) ?_
                      rotate_left
                      · intro w' hSw; obtain ⟨e0, e1, e2, e3, e4, e5, e6, e7, e8, e9⟩ := hSw
                        go_simp; try with_reducible rfl
                      try simp only [Act.put, List.setIfInBounds_toArray, List.set_cons_zero, List.set_cons_succ]
                      refine wpAnyH_done (by kernel_rfl) ?_ _
                      obtain ⟨-, -, -, -, -, x0, -, -, -, -⟩ := hS3
                      clear hH10
                      have HB3 : Hid (Below w2.heap.size w2 w3) := HB2.out.trans (HRB.out.mono HB2.out.size)
                      have hset3 := HSet2.out.later' HRB.out
                      obtain ⟨w4, hput, hset4, hg4⟩ := hset3.put HWT.out (by simp only [List.length_map, List.length_take]; unfold maxLen; omega)
                      have HB4 : Hid (Below w2.heap.size w2 w4) := HB3.out.grown hg4 HB3.out.size (fun g hg => by simp at hg; omega)
                      have HSet4 : Hid (IntSet w2.heap.size ((cs.take (k' + 1 + 1)).map (fun l => l.trip)) w4) := by
                        show IntSet _ _ _
                        rw [List.take_succ_eq_append_getElem hlt, List.map_append, hx]; exact hset4
                      clear hset3 hset4 hg4
                      go_wp2_with fail
                      go_roundw
                      case rel => exact ⟨k' + 1 + 1, by omega, by go_num, HS1, HSet4, HB4⟩
                      case measure => simp [RowKit.intOf]; omega
                    · rw [decide_eq_false hcan] at HCan
                      have HN : Hid (jrnB (allLegs (rides t)) ch cs = false) := jrn_no hlt fun h => by
                        have h1 := h.2.2 k' rfl
                        rw [hx, hy] at h1; exact hcan h1
                      clear hcan HSt hyb hyL hwr
                      go_wp2_with fail
                      refine wp_region_held_drew (S := (fun w' => w'.cell? ⟨g, go + k' * 5, none⟩ = some (.int .i64 pv.trip) ∧ w'.cell? ⟨g, go + k' * 5 + 1, none⟩ = some (.int .i64 pv.frm) ∧ w'.cell? ⟨g, go + k' * 5 + 2, none⟩ = some (.int .i64 pv.dst) ∧ w'.cell? ⟨g, go + k' * 5 + 3, none⟩ = some (.int .i64 pv.dep) ∧ w'.cell? ⟨g, go + k' * 5 + 4, none⟩ = some (.int .i64 pv.arr) ∧ w'.cell? ⟨wo.heap.size, 0, none⟩ = some (.int .i64 x.trip) ∧ w'.cell? ⟨wo.heap.size, 1, none⟩ = some (.int .i64 x.frm) ∧ w'.cell? ⟨wo.heap.size, 2, none⟩ = some (.int .i64 x.dst) ∧ w'.cell? ⟨wo.heap.size, 3, none⟩ = some (.int .i64 x.dep) ∧ w'.cell? ⟨wo.heap.size, 4, none⟩ = some (.int .i64 x.arr))) (by kernel_rfl) ?_ (fun hHeld => ?_)
                      · exact ⟨u0, u1, u2, u3, u4, x0, x1, x2, x3, x4⟩
                      refine wpAnyH_take (i := 0) (v := ?_) (by simp only [List.getElem?_toArray, List.getElem?_cons_zero]; rfl) (by kernel_rfl) (by kernel_rfl) (by kernel_rfl) (by exact fun _ _ _ h => h) (Or.inl ⟨by rfl, ?_⟩) (by assumption) ?_
                      rotate_left
                      · intro w' hSw; obtain ⟨e0, e1, e2, e3, e4, e5, e6, e7, e8, e9⟩ := hSw
                        go_simp; try with_reducible rfl
                      try simp only [Act.put, List.setIfInBounds_toArray, List.set_cons_zero, List.set_cons_succ]
                      refine wpAnyH_take (i := 1) (v := ?_) (by simp only [List.getElem?_toArray, List.getElem?_cons_succ, List.getElem?_cons_zero]; rfl) (by kernel_rfl) (by kernel_rfl) (by kernel_rfl) (by exact fun _ _ _ h => h) (Or.inl ⟨by rfl, ?_⟩) (by assumption) ?_
                      rotate_left
                      · intro w' hSw; obtain ⟨e0, e1, e2, e3, e4, e5, e6, e7, e8, e9⟩ := hSw
                        go_simp; try with_reducible rfl
                      try simp only [Act.put, List.setIfInBounds_toArray, List.set_cons_zero, List.set_cons_succ]
                      refine wpAnyH_take (i := 2) (v := ?_) (by simp only [List.getElem?_toArray, List.getElem?_cons_succ, List.getElem?_cons_zero]; rfl) (by kernel_rfl) (by kernel_rfl) (by kernel_rfl) (by exact fun _ _ _ h => h) (Or.inl ⟨by rfl, ?_⟩) (by assumption) ?_
                      rotate_left
                      · intro w' hSw; obtain ⟨e0, e1, e2, e3, e4, e5, e6, e7, e8, e9⟩ := hSw
                        go_simp; try with_reducible rfl
                      try simp only [Act.put, List.setIfInBounds_toArray, List.set_cons_zero, List.set_cons_succ]
                      refine wpAnyH_take (i := 3) (v := ?_) (by simp only [List.getElem?_toArray, List.getElem?_cons_succ, List.getElem?_cons_zero]; rfl) (by kernel_rfl) (by kernel_rfl) (by kernel_rfl) (by exact fun _ _ _ h => h) (Or.inl ⟨by rfl, ?_⟩) (by assumption) ?_
                      rotate_left
                      · intro w' hSw; obtain ⟨e0, e1, e2, e3, e4, e5, e6, e7, e8, e9⟩ := hSw
                        go_simp; try with_reducible rfl
                      try simp only [Act.put, List.setIfInBounds_toArray, List.set_cons_zero, List.set_cons_succ]
                      refine wpAnyH_take (i := 4) (v := ?_) (by simp only [List.getElem?_toArray, List.getElem?_cons_succ, List.getElem?_cons_zero]; rfl) (by kernel_rfl) (by kernel_rfl) (by kernel_rfl) (by exact fun _ _ _ h => h) (Or.inl ⟨by rfl, ?_⟩) (by assumption) ?_
                      rotate_left
                      · intro w' hSw; obtain ⟨e0, e1, e2, e3, e4, e5, e6, e7, e8, e9⟩ := hSw
                        go_simp; try with_reducible rfl
                      try simp only [Act.put, List.setIfInBounds_toArray, List.set_cons_zero, List.set_cons_succ]
                      refine wpAnyH_take (i := 5) (v := ?_) (by simp only [List.getElem?_toArray, List.getElem?_cons_succ, List.getElem?_cons_zero]; rfl) (by kernel_rfl) (by kernel_rfl) (by kernel_rfl) (by exact fun _ _ _ h => h) (Or.inl ⟨by rfl, ?_⟩) (by assumption) ?_
                      rotate_left
                      · intro w' hSw; obtain ⟨e0, e1, e2, e3, e4, e5, e6, e7, e8, e9⟩ := hSw
                        go_simp; try with_reducible rfl
                      try simp only [Act.put, List.setIfInBounds_toArray, List.set_cons_zero, List.set_cons_succ]
                      refine wpAnyH_take (i := 6) (v := ?_) (by simp only [List.getElem?_toArray, List.getElem?_cons_succ, List.getElem?_cons_zero]; rfl) (by kernel_rfl) (by kernel_rfl) (by kernel_rfl) (by exact fun _ _ _ h => h) (Or.inl ⟨by rfl, ?_⟩) (by assumption) ?_
                      rotate_left
                      · intro w' hSw; obtain ⟨e0, e1, e2, e3, e4, e5, e6, e7, e8, e9⟩ := hSw
                        go_simp; try with_reducible rfl
                      try simp only [Act.put, List.setIfInBounds_toArray, List.set_cons_zero, List.set_cons_succ]
                      refine wpAnyH_take (i := 7) (v := ?_) (by simp only [List.getElem?_toArray, List.getElem?_cons_succ, List.getElem?_cons_zero]; rfl) (by kernel_rfl) (by kernel_rfl) (by kernel_rfl) (by exact fun _ _ _ h => h) (Or.inl ⟨by rfl, ?_⟩) (by assumption) ?_
                      rotate_left
                      · intro w' hSw; obtain ⟨e0, e1, e2, e3, e4, e5, e6, e7, e8, e9⟩ := hSw
                        go_simp; try with_reducible rfl
                      try simp only [Act.put, List.setIfInBounds_toArray, List.set_cons_zero, List.set_cons_succ]
                      refine wpAnyH_take (i := 8) (v := ?_) (by simp only [List.getElem?_toArray, List.getElem?_cons_succ, List.getElem?_cons_zero]; rfl) (by kernel_rfl) (by kernel_rfl) (by kernel_rfl) (by exact fun _ _ _ h => h) (Or.inl ⟨by rfl, ?_⟩) (by assumption) ?_
                      rotate_left
                      · intro w' hSw; obtain ⟨e0, e1, e2, e3, e4, e5, e6, e7, e8, e9⟩ := hSw
                        go_simp; try with_reducible rfl
                      try simp only [Act.put, List.setIfInBounds_toArray, List.set_cons_zero, List.set_cons_succ]
                      refine wpAnyH_take (i := 9) (v := ?_) (by simp only [List.getElem?_toArray, List.getElem?_cons_succ, List.getElem?_cons_zero]; rfl) (by kernel_rfl) (by kernel_rfl) (by kernel_rfl) (by exact fun _ _ _ h => h) (Or.inl ⟨by rfl, ?_⟩) (by assumption) ?_
                      rotate_left
                      · intro w' hSw; obtain ⟨e0, e1, e2, e3, e4, e5, e6, e7, e8, e9⟩ := hSw
                        go_simp; try with_reducible rfl
                      try simp only [Act.put, List.setIfInBounds_toArray, List.set_cons_zero, List.set_cons_succ]
                      refine wpAnyH_ready (rs := [10]) (by kernel_rfl) (by simp) ?_
                      refine AllReadyH.cons (by simp only [List.getElem?_toArray, List.getElem?_cons_succ, List.getElem?_cons_zero]; rfl) (fun K hK => ?_) AllReadyH.nil
                      unfold legV at HCan
                      go_simp
                      go_at_call 70
                      refine (HCan.out _).mono ?_
                      rintro e w3 ⟨rfl, hb⟩
                      have rb : Below wc.heap.size wc w3 := (Below.refl _ _).drew.trans hb
                      have hS3 : w3.cell? ⟨g, go + k' * 5, none⟩ = some (.int .i64 pv.trip) ∧ w3.cell? ⟨g, go + k' * 5 + 1, none⟩ = some (.int .i64 pv.frm) ∧ w3.cell? ⟨g, go + k' * 5 + 2, none⟩ = some (.int .i64 pv.dst) ∧ w3.cell? ⟨g, go + k' * 5 + 3, none⟩ = some (.int .i64 pv.dep) ∧ w3.cell? ⟨g, go + k' * 5 + 4, none⟩ = some (.int .i64 pv.arr) ∧ w3.cell? ⟨wo.heap.size, 0, none⟩ = some (.int .i64 x.trip) ∧ w3.cell? ⟨wo.heap.size, 1, none⟩ = some (.int .i64 x.frm) ∧ w3.cell? ⟨wo.heap.size, 2, none⟩ = some (.int .i64 x.dst) ∧ w3.cell? ⟨wo.heap.size, 3, none⟩ = some (.int .i64 x.dep) ∧ w3.cell? ⟨wo.heap.size, 4, none⟩ = some (.int .i64 x.arr) := ⟨bkeep rb u0, bkeep rb u1, bkeep rb u2, bkeep rb u3, bkeep rb u4, bkeep rb x0, bkeep rb x1, bkeep rb x2, bkeep rb x3, bkeep rb x4⟩
                      have HRB := Lib.hid rb
                      clear hb rb
                      go_wp2_with fail
                      refine hK.out _ _ hS3 (fun hH10 => ?_)
                      clear hK K
                      try simp only [Act.put, List.setIfInBounds_toArray, List.set_cons_zero, List.set_cons_succ]
                      refine wpAnyH_take (i := 11) (v := ?_) (by simp only [List.getElem?_toArray, List.getElem?_cons_succ, List.getElem?_cons_zero]; rfl) (by kernel_rfl) (by kernel_rfl) (by kernel_rfl) (by exact fun _ _ _ h => h) (Or.inl ⟨by rfl, ?_⟩) (by assumption) ?_
                      rotate_left
                      · intro w' hSw; obtain ⟨e0, e1, e2, e3, e4, e5, e6, e7, e8, e9⟩ := hSw
                        go_simp; try with_reducible rfl
                      try simp only [Act.put, List.setIfInBounds_toArray, List.set_cons_zero, List.set_cons_succ]
                      refine wpAnyH_take (i := 12) (v := ?_) (by simp only [List.getElem?_toArray, List.getElem?_cons_succ, List.getElem?_cons_zero]; rfl) (by kernel_rfl) (by kernel_rfl) (by kernel_rfl) (by exact fun _ _ _ h => h) (Or.inl ⟨by rfl, ?_⟩) (by assumption) ?_
                      rotate_left
                      · intro w' hSw; obtain ⟨e0, e1, e2, e3, e4, e5, e6, e7, e8, e9⟩ := hSw
                        go_simp; try with_reducible rfl
                      try simp only [Act.put, List.setIfInBounds_toArray, List.set_cons_zero, List.set_cons_succ]
                      refine wpAnyH_done (by kernel_rfl) ?_ _
                      clear hS3 hH10
                      go_wp2_with fail
                      go_ret
                      exact ⟨ret_bool (by rw [HN.out]), (HBw w3 (HB2.out.trans (HRB.out.mono HB2.out.size)))⟩
                · rw [decide_eq_false (fun h => hin (hmem.1 h))] at HCt
                  have HN : Hid (jrnB (allLegs (rides t)) ch cs = false) := jrn_no hlt fun h => by
                    have h1 := h.1
                    rw [hx] at h1; exact hin h1
                  clear hin hmem
                  unfold legV at HCt
                  go_wp2_with fail
                  go_at_call 82
                  refine (HCt.out _ (Below.refl _ _)).mono ?_
                  rintro e wc ⟨rfl, hb⟩
                  have HB2 : Hid (Below w2.heap.size w2 wc) := HBa.out.trans (hb.mono HBa.out.size)
                  clear hb hq0 hq1 hq2 hq3 hq4 hlk1 hlk2
                  go_wp2_with fail
                  go_ret
                  exact ⟨ret_bool (by rw [HN.out]), HBw _ HB2.out⟩
            · have hk1 : ¬ (k : Int) < (cs.length : Int) := by omega
              have HN : Hid (jrnB (allLegs (rides t)) ch cs = true) := jrnB_yes ⟨by omega, by omega, fun j hj _ => HSt.out j hj (by omega)⟩
              go_wp2_with fail
              go_ret
              exact ⟨ret_bool (by rw [HN.out]), HBw _ HB.out⟩
        · have HN := Lib.hid (jrn_len (L := allLegs (rides t)) (ch := ch) (c := cs) (by omega))
          have hn4' : (4 : Int) < (cs.length : Int) := by omega
          go_enter Try.func34, Try.ntmps34
          go_wp2_with fail
          go_at_call 80
          refine (HG.out _ ((Below.refl _ _).alloc (Nat.le_refl _) _)).mono ?_
          rintro e w1 ⟨rfl, hb⟩
          have HB1 : Hid (Below w.heap.size w w1) := ((Below.refl _ _).alloc (Nat.le_refl _) _).trans (hb.mono (by simp))
          have z0 : w1.cell? ⟨w.heap.size, 0, none⟩ = some (.slice a t.net.stops.length c) := bkeep hb (by go_simp)
          have z1 : w1.cell? ⟨w.heap.size, 1, none⟩ = some (.slice a' t.net.lines.length c') := bkeep hb (by go_simp)
          have z2 : w1.cell? ⟨w.heap.size, 2, none⟩ = some (.slice b t.trips.length d) := bkeep hb (by go_simp)
          clear hb
          go_wp2_with fail
          go_at_call 81
          refine (HC.out _).mono ?_
          rintro e w1' ⟨rfl, rfl⟩
          go_wp2_with fail
          go_ret
          exact ⟨ret_bool (by rw [HN.out]), HB1.out⟩
    · have HC := Lib.hid (fun W => isChange_any ch W)
      rw [decide_eq_false hch] at HC
      have HN := Lib.hid (ansJ_no (t := t) (ch := ch) (cs := cs) (fun h => hch h.2))
      clear hg HLB hch
      go_enter Try.func34, Try.ntmps34
      go_wp2_with fail
      go_at_call 80
      refine (HG.out _ ((Below.refl _ _).alloc (Nat.le_refl _) _)).mono ?_
      rintro e w1 ⟨rfl, hb⟩
      have HB1 : Hid (Below w.heap.size w w1) := ((Below.refl _ _).alloc (Nat.le_refl _) _).trans (hb.mono (by simp))
      have z0 : w1.cell? ⟨w.heap.size, 0, none⟩ = some (.slice a t.net.stops.length c) := bkeep hb (by go_simp)
      have z1 : w1.cell? ⟨w.heap.size, 1, none⟩ = some (.slice a' t.net.lines.length c') := bkeep hb (by go_simp)
      have z2 : w1.cell? ⟨w.heap.size, 2, none⟩ = some (.slice b t.trips.length d) := bkeep hb (by go_simp)
      clear hb
      go_wp2_with fail
      go_at_call 81
      refine (HC.out _).mono ?_
      rintro e w1' ⟨rfl, rfl⟩
      go_wp2_with fail
      go_ret
      exact ⟨ret_bool (by rw [HN.out]), HB1.out⟩
  · rw [ttB_no hg] at HG
    have HN := Lib.hid (ansJ_no (t := t) (ch := ch) (cs := cs) (fun h => hg h.1))
    clear hg HLB
    go_enter Try.func34, Try.ntmps34
    go_wp2_with fail
    go_at_call 80
    refine (HG.out _ ((Below.refl _ _).alloc (Nat.le_refl _) _)).mono ?_
    rintro e w1 ⟨rfl, hb⟩
    have HB1 : Hid (Below w.heap.size w w1) := ((Below.refl _ _).alloc (Nat.le_refl _) _).trans (hb.mono (by simp))
    have z0 : w1.cell? ⟨w.heap.size, 0, none⟩ = some (.slice a t.net.stops.length c) := bkeep hb (by go_simp)
    have z1 : w1.cell? ⟨w.heap.size, 1, none⟩ = some (.slice a' t.net.lines.length c') := bkeep hb (by go_simp)
    have z2 : w1.cell? ⟨w.heap.size, 2, none⟩ = some (.slice b t.trips.length d) := bkeep hb (by go_simp)
    clear hb
    go_wp2_with fail
    go_ret
    exact ⟨ret_bool (by rw [HN.out]), HB1.out⟩
end Go.Proofs.Ytmcpafflnccfaaa
