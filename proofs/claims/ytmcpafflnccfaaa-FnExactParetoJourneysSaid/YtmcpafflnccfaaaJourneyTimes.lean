/-
  CONTRACTS of spec.JourneyTimes, impl.journeyEnd, impl.JourneyTimes; both sides.
-/
import Derived.Test.YtmcpafflnccfaaaIsValidJourney
namespace Go.Proofs.Ytmcpafflnccfaaa
open Go.RowKit Jrn Go.Maps
set_option linter.unusedVariables false
set_option linter.unusedSimpArgs false

/-- the first leg and the last one -/
def firstL (cs : List LegD) : LegD := cs.getD 0 ⟨0, 0, 0, 0, 0⟩
def lastL (cs : List LegD) : LegD := cs.getD (cs.length - 1) ⟨0, 0, 0, 0, 0⟩
def jtV (cs : List LegD) : Int × Int := ((lastL cs).arr - (firstL cs).dep, waitsTo cs (cs.length - 1))
noncomputable def jtF (t : TTD) (ch : Int) (cs : List LegD) : Int × Int := if ansJ t ch cs then jtV cs else (0, 0)
theorem ansJ_iff {t : TTD} {ch : Int} {cs : List LegD} (h : ansJ t ch cs = true) : TTGood t ∧ (0 ≤ ch ∧ ch ≤ 30) ∧ JrnOk (allLegs (rides t)) ch cs := by
  unfold ansJ at h
  split at h
  · rename_i hh
    refine ⟨hh.1, hh.2, ?_⟩
    unfold jrnB at h
    exact @of_decide_eq_true _ (Classical.propDecidable _) h
  · cases h
theorem jrn_bound {t : TTD} (hg : TTGood t) {ch : Int} {cs : List LegD} (h : JrnOk (allLegs (rides t)) ch cs) (k : Nat) (hk : k < cs.length) : 0 ≤ cs[k].dep ∧ cs[k].dep ≤ 2400 ∧ 0 ≤ cs[k].arr ∧ cs[k].arr ≤ 2400 := by
  have := legs_bound hg _ (h.2.2 k hk hk).1
  omega
theorem waits_bound {t : TTD} (hg : TTGood t) {ch : Int} {cs : List LegD} (h : JrnOk (allLegs (rides t)) ch cs) : ∀ k : Nat, -(2400 * (k : Int)) ≤ waitsTo cs k ∧ waitsTo cs k ≤ 2400 * (k : Int)
  | 0 => by simp [waitsTo]
  | k + 1 => by
    have ih := waits_bound hg h k
    rw [waitsTo]
    split
    · rename_i hk
      have h1 := jrn_bound hg h k (by omega)
      have h2 := jrn_bound hg h (k + 1) hk
      omega
    · omega
theorem ridesTo_bound {t : TTD} (hg : TTGood t) {ch : Int} {cs : List LegD} (h : JrnOk (allLegs (rides t)) ch cs) : ∀ k : Nat, -(2400 * (k : Int)) ≤ ridesTo cs k ∧ ridesTo cs k ≤ 2400 * (k : Int)
  | 0 => by simp [ridesTo]
  | k + 1 => by
    have ih := ridesTo_bound hg h k
    rw [ridesTo]
    split
    · rename_i hk
      have h1 := jrn_bound hg h k hk
      omega
    · omega

set_option maxRecDepth 100000 in
set_option maxHeartbeats 4000000 in
theorem specJT_any (v lv : Value) (t : TTD) (ch : Int) (cs : List LegD) (w : World) (hr : TTAt w v t) (hl : LegsAt w lv cs) (hf : TTFits t) (hs : TTSmall t) (hsl : LegsSmall cs) :
    Calls Try.prog 33 #[v, .int .i64 ch, lv] w fun e w' => e = .returned (.tuple #[.int .i64 (jtF t ch cs).1, .int .i64 (jtF t ch cs).2, .bool (ansJ t ch cs)]) ∧ Below w.heap.size w w' := by
  have HA := Lib.hid (fun W (hW : Below w.heap.size w W) => l8Asked_any v t ch W (hr.below rfl hW) hf)
  have HJ := Lib.hid (fun (hg : TTGood t) (h0 : 0 ≤ ch) (h1 : ch ≤ 30) W (hW : Below w.heap.size w W) => l8Journey_any v lv t ch cs W (hr.below rfl hW) (hl.below rfl hW) hg hs hsl h0 h1)
  have HL := Lib.hid hl
  obtain ⟨a, c, a', c', b, d, rfl, -, -⟩ := tt_open hr
  obtain ⟨la, lc, rfl⟩ := LegS_open hl
  clear hr hf hl
  cases hans : ansJ t ch cs with
  | true =>
    obtain ⟨hg, hch, hj⟩ := ansJ_iff hans
    rw [askB_yes ⟨hg, hch⟩] at HA
    have HJ1 := Lib.hid (HJ.out hg hch.1 hch.2)
    rw [jrnB_yes hj] at HJ1
    have HN : Hid (jtF t ch cs = jtV cs) := if_pos hans
    have hlen := hj.2.1
    obtain ⟨n, hnl, hnu⟩ : ∃ n, n < cs.length ∧ cs.length < n + 2 := ⟨cs.length - 1, by have := hj.1; omega, by omega⟩
    have HW := Lib.hid (fun k => waits_bound hg hj k)
    have HBd := Lib.hid (fun k hk => jrn_bound hg hj k hk)
    clear hans HJ hg hch hj
    rw [HN.out]
    obtain ⟨r, hr⟩ : ∃ r, jtV cs = r := ⟨_, rfl⟩
    have HR := Lib.hid hr
    rw [hr]
    clear hr HN
    go_enter Try.func33, Try.ntmps33
    go_wp2_with fail
    go_at_call 63
    refine (HA.out _ ((Below.refl _ _).alloc (Nat.le_refl _) _)).mono ?_
    rintro e w1 ⟨rfl, hb1⟩
    have HB1 : Hid (Below w.heap.size w w1) := ((Below.refl _ _).alloc (Nat.le_refl _) _).trans (hb1.mono (by simp))
    have z0 : w1.cell? ⟨w.heap.size, 0, none⟩ = some (.slice a t.net.stops.length c) := bkeep hb1 (by go_simp)
    have z1 : w1.cell? ⟨w.heap.size, 1, none⟩ = some (.slice a' t.net.lines.length c') := bkeep hb1 (by go_simp)
    have z2 : w1.cell? ⟨w.heap.size, 2, none⟩ = some (.slice b t.trips.length d) := bkeep hb1 (by go_simp)
    clear hb1
    go_wp2_with fail
    go_at_call 64
    refine (HJ1.out _ HB1.out).mono ?_
    rintro e w2 ⟨rfl, hb2⟩
    have HB2 : Hid (Below w.heap.size w w2) := HB1.out.trans (hb2.mono HB1.out.size)
    clear hb2 z0 z1 z2
    go_wp2_with fail
    go_loopw [9, 10] (fun o q wr => ∃ m : Nat, m + 1 ≤ cs.length ∧ q = .int .i64 ((m : Int) + 1) ∧ o = .int .i64 (waitsTo cs m) ∧ Hid (Below w.heap.size w wr)) (fun _ q _ => cs.length - (RowKit.intOf q).toNat)
    case atStart => exact ⟨0, by omega, by simp, by simp [waitsTo], HB2.out⟩
    case round =>
      obtain ⟨m, hm, rfl, rfl, HB⟩ := hrel
      have hzr := HB.out.size
      by_cases hlt : m + 1 < cs.length
      · obtain ⟨g, go, rfl, hgb, -, -, -, y3, -⟩ := leg_at (HL.out.below rfl HB.out) (m + 1) hlt
        obtain ⟨g', go', hg', -, -, -, -, -, u4⟩ := leg_at (HL.out.below rfl HB.out) m (by omega)
        simp at hg'
        obtain ⟨rfl, rfl⟩ := hg'
        have hb1 := HBd.out (m + 1) hlt
        have hb0 := HBd.out m (by omega)
        have hbw := HW.out m
        have HSucc : Hid (waitsTo cs (m + 1) = waitsTo cs m + cs[m + 1].dep - cs[m].arr) := by
          show _ = _
          rw [waitsTo, dif_pos hlt]; omega
        have hm4 : (m : Int) ≤ 4 := by omega
        generalize cs[m + 1].dep = dp at *
        generalize (cs[m]'(by omega)).arr = ar at *
        generalize waitsTo cs m = wt at *
        have hw1 : IntKind.i64.wrap (wt + dp) = wt + dp := IntWalk.i64_in _ (by omega)
        have hw2 : IntKind.i64.wrap (wt + dp - ar) = wt + dp - ar := IntWalk.i64_in _ (by omega)
        have hk2 : (m : Int) + 1 < (cs.length : Int) := by omega
        have hk4 : (m : Int) < (cs.length : Int) := by omega
        have hk5 : (0 : Int) ≤ (m : Int) := by omega
        have hk6 : (0 : Int) ≤ (m : Int) + 1 := by omega
        have hwk2 : IntKind.i64.wrap (m : Int) = (m : Int) := IntWalk.i64_in _ (by omega)
        have htn : ((m : Int) + 1).toNat = m + 1 := by omega
        go_wp2_with fail
        go_quiet (fail)
        go_wp2_with fail
        go_roundw
        case rel => exact ⟨m + 1, by omega, by go_num, by rw [HSucc.out], HB.out.trans ((Dr.below ⟨_, rfl⟩).mono hzr)⟩
        case measure => simp [RowKit.intOf]; omega
      · obtain rfl : m = n := by omega
        have hk2 : ¬ (m : Int) + 1 < (cs.length : Int) := by omega
        obtain ⟨g, go, rfl, hgb, -, -, -, y3, -⟩ := leg_at (HL.out.below rfl HB.out) 0 (by omega)
        obtain ⟨g', go', hg', -, -, -, -, -, u4⟩ := leg_at (HL.out.below rfl HB.out) m (by omega)
        simp at hg'
        obtain ⟨rfl, rfl⟩ := hg'
        have hb1 := HBd.out 0 (by omega)
        have hb0 := HBd.out m (by omega)
        have HV : Hid (r = ((cs[m]'(by omega)).arr - (cs[0]'(by omega)).dep, waitsTo cs m)) := by
          show _ = _
          rw [← HR.out]
          unfold jtV lastL firstL
          rw [List.getD_eq_getElem?_getD, List.getD_eq_getElem?_getD, show cs.length - 1 = m by omega, List.getElem?_eq_getElem (by omega), List.getElem?_eq_getElem (by omega)]
          rfl
        generalize (cs[0]'(by omega)).dep = dp at *
        generalize (cs[m]'(by omega)).arr = ar at *
        generalize waitsTo cs m = wt at *
        have hw1 : IntKind.i64.wrap (ar - dp) = ar - dp := IntWalk.i64_in _ (by omega)
        have hl1 : (cs.length : Int) - 1 = (m : Int) := by omega
        have hk4 : (m : Int) < (cs.length : Int) := by omega
        have hk5 : (0 : Int) ≤ (m : Int) := by omega
        have hk7 : (0 : Int) < (cs.length : Int) := by omega
        have hwk2 : IntKind.i64.wrap (m : Int) = (m : Int) := IntWalk.i64_in _ (by omega)
        simp only [Nat.zero_mul, Nat.add_zero] at y3
        go_wp2_with fail
        go_quiet (fail)
        go_wp2_with fail
        go_ret3
        exact ⟨by first | (rw [HV.out]; done) | (rw [HV.out]; rfl), HB.out.trans ((Dr.below ⟨_, rfl⟩).mono hzr)⟩
  | false =>
    have HN : Hid (jtF t ch cs = (0, 0)) := by show _ = _; unfold jtF; rw [hans]; rfl
    by_cases h : TTGood t ∧ 0 ≤ ch ∧ ch ≤ 30
    · rw [askB_yes h] at HA
      have HJ1 := Lib.hid (HJ.out h.1 h.2.1 h.2.2)
      rw [← ansJ_yes h.1 h.2, hans] at HJ1
      clear h HJ hans
      go_enter Try.func33, Try.ntmps33
      go_wp2_with fail
      go_at_call 63
      refine (HA.out _ ((Below.refl _ _).alloc (Nat.le_refl _) _)).mono ?_
      rintro e w1 ⟨rfl, hb1⟩
      have HB1 : Hid (Below w.heap.size w w1) := ((Below.refl _ _).alloc (Nat.le_refl _) _).trans (hb1.mono (by simp))
      have z0 : w1.cell? ⟨w.heap.size, 0, none⟩ = some (.slice a t.net.stops.length c) := bkeep hb1 (by go_simp)
      have z1 : w1.cell? ⟨w.heap.size, 1, none⟩ = some (.slice a' t.net.lines.length c') := bkeep hb1 (by go_simp)
      have z2 : w1.cell? ⟨w.heap.size, 2, none⟩ = some (.slice b t.trips.length d) := bkeep hb1 (by go_simp)
      clear hb1
      go_wp2_with fail
      go_at_call 64
      refine (HJ1.out _ HB1.out).mono ?_
      rintro e w2 ⟨rfl, hb2⟩
      have HB2 : Hid (Below w.heap.size w w2) := HB1.out.trans (hb2.mono HB1.out.size)
      clear hb2 z0 z1 z2
      go_wp2_with fail
      go_ret3
      exact ⟨by rw [HN.out]; rfl, HB2.out⟩
    · rw [askB_no h] at HA
      clear h HJ hans
      go_enter Try.func33, Try.ntmps33
      go_wp2_with fail
      go_at_call 63
      refine (HA.out _ ((Below.refl _ _).alloc (Nat.le_refl _) _)).mono ?_
      rintro e w1 ⟨rfl, hb1⟩
      have HB1 : Hid (Below w.heap.size w w1) := ((Below.refl _ _).alloc (Nat.le_refl _) _).trans (hb1.mono (by simp))
      have z0 : w1.cell? ⟨w.heap.size, 0, none⟩ = some (.slice a t.net.stops.length c) := bkeep hb1 (by go_simp)
      have z1 : w1.cell? ⟨w.heap.size, 1, none⟩ = some (.slice a' t.net.lines.length c') := bkeep hb1 (by go_simp)
      have z2 : w1.cell? ⟨w.heap.size, 2, none⟩ = some (.slice b t.trips.length d) := bkeep hb1 (by go_simp)
      clear hb1
      go_wp2_with fail
      go_ret3
      exact ⟨by rw [HN.out]; rfl, HB1.out⟩

/-! the program's side -/
theorem journeyEnd_any (v : Value) (cs : List LegD) (w : World) (hr : LegsAt w v cs) (h0 : 0 < cs.length) (h1 : cs.length ≤ 1048576) :
    Calls Try.prog 79 #[v] w fun e w' => e = .returned (.int .i64 (lastL cs).arr) ∧ w = w' := by
  obtain ⟨a, c, rfl⟩ := LegS_open hr
  obtain ⟨n, hnl, hnu⟩ : ∃ n, n < cs.length ∧ cs.length < n + 2 := ⟨cs.length - 1, by omega, by omega⟩
  obtain ⟨g, go, rfl, hgb, -, -, -, -, y4⟩ := leg_at hr n (by omega)
  have HE : Hid (lastL cs = cs[n]'(by omega)) := by
    show _ = _
    unfold lastL
    rw [List.getD_eq_getElem?_getD, show cs.length - 1 = n by omega, List.getElem?_eq_getElem (by omega)]
    rfl
  rw [HE.out]
  have hl1 : (cs.length : Int) - 1 = (n : Int) := by omega
  have hk4 : (n : Int) < (cs.length : Int) := by omega
  have hk5 : (0 : Int) ≤ (n : Int) := by omega
  have hwk2 : IntKind.i64.wrap (n : Int) = (n : Int) := IntWalk.i64_in _ (by omega)
  clear hr HE
  generalize cs[n].arr = ar at *
  go_enter Try.func79, Try.ntmps79
  go_wp2_with fail
  go_ret
  exact ⟨rfl, rfl⟩

set_option maxRecDepth 100000 in
set_option maxHeartbeats 4000000 in
theorem implJT_any (v lv : Value) (t : TTD) (ch : Int) (cs : List LegD) (w : World) (hr : TTAt w v t) (hl : LegsAt w lv cs) (hf : TTFits t) (hs : TTSmall t) (hsl : LegsSmall cs) (hfl : LegsFit cs) :
    Calls Try.prog 32 #[v, .int .i64 ch, lv] w fun e w' => e = .returned (.tuple #[.int .i64 (jtF t ch cs).1, .int .i64 (jtF t ch cs).2, .bool (ansJ t ch cs)]) ∧ Below w.heap.size w w' := by
  have HV := Lib.hid (fun W (hW : Below w.heap.size w W) => implValidJ_any v lv t ch cs W (hr.below rfl hW) (hl.below rfl hW) hf hs hsl hfl)
  have HL := Lib.hid hl
  obtain ⟨a, c, a', c', b, d, rfl, -, -⟩ := tt_open hr
  obtain ⟨la, lc, rfl⟩ := LegS_open hl
  clear hr hf hl
  cases hans : ansJ t ch cs with
  | true =>
    rw [hans] at HV
    obtain ⟨hg, hch, hj⟩ := ansJ_iff hans
    have HN : Hid (jtF t ch cs = jtV cs) := if_pos hans
    have hlen := hj.2.1
    obtain ⟨n, hnl, hnu⟩ : ∃ n, n < cs.length ∧ cs.length < n + 2 := ⟨cs.length - 1, by have := hj.1; omega, by omega⟩
    have HW := Lib.hid (fun k => ridesTo_bound hg hj k)
    have HBd := Lib.hid (fun k hk => jrn_bound hg hj k hk)
    have HTele := Lib.hid (tele cs (by omega) n (by omega))
    have HEnd := Lib.hid (fun W (hW : Below w.heap.size w W) => journeyEnd_any _ cs W (HL.out.below rfl hW) (by omega) (by omega))
    have hlast := HBd.out n (by omega)
    have hfst := HBd.out 0 (by omega)
    have HE : Hid (lastL cs = cs[n]'(by omega)) := by
      show _ = _
      unfold lastL
      rw [List.getD_eq_getElem?_getD, show cs.length - 1 = n by omega, List.getElem?_eq_getElem (by omega)]
      rfl
    rw [HE.out] at HEnd
    have HR : Hid (jtV cs = ((cs[n]'(by omega)).arr - (cs[0]'(by omega)).dep, waitsTo cs n)) := by
      show _ = _
      unfold jtV firstL
      rw [HE.out, List.getD_eq_getElem?_getD, show cs.length - 1 = n by omega, List.getElem?_eq_getElem (by omega)]
      rfl
    clear hans hg hch hj HE
    rw [HN.out, HR.out]
    clear HN HR
    obtain ⟨ar, har⟩ : ∃ x, (cs[n]'(by omega)).arr = x := ⟨_, rfl⟩
    obtain ⟨dp, hdp⟩ : ∃ x, (cs[0]'(by omega)).dep = x := ⟨_, rfl⟩
    rw [har] at HEnd hlast HTele ⊢
    rw [hdp] at hfst HTele ⊢
    have HDP := Lib.hid hdp
    clear har hdp
    go_enter Try.func32, Try.ntmps32
    go_wp2_with fail
    go_at_call 34
    refine (HV.out _ ((Below.refl _ _).alloc (Nat.le_refl _) _)).mono ?_
    rintro e w1 ⟨rfl, hb1⟩
    have HB1 : Hid (Below w.heap.size w w1) := ((Below.refl _ _).alloc (Nat.le_refl _) _).trans (hb1.mono (by simp))
    obtain ⟨g, go, rfl, hgb, -, -, -, y3, -⟩ := leg_at (HL.out.below rfl HB1.out) 0 (by omega)
    rw [HDP.out] at y3
    have hw1 : IntKind.i64.wrap (ar - dp) = ar - dp := IntWalk.i64_in _ (by omega)
    have hk7 : (0 : Int) < (cs.length : Int) := by omega
    have hz1 := HB1.out.size
    simp only [Nat.zero_mul, Nat.add_zero] at y3
    clear hb1
    go_wp2_with fail
    go_quiet ((go_at_call 79; exact quietL (HEnd.out _ (HB1.out.trans ((Dr.below ⟨_, rfl⟩).mono hz1)))))
    have HB2 : Hid (Below w.heap.size w (w1.drewN nq)) := HB1.out.trans ((Dr.below ⟨_, rfl⟩).mono hz1)
    obtain ⟨w2, hw2⟩ : ∃ w2 : World, w2 = w1.drewN nq := ⟨_, rfl⟩
    rw [← hw2] at HB2 ⊢
    clear hw2 y3 HB1 hz1
    go_wp2_with fail
    go_loopw [10, 28] (fun o q wr => ∃ k : Nat, k ≤ cs.length ∧ q = .int .i64 (k : Int) ∧ o = .int .i64 (ar - dp - ridesTo cs k) ∧ Hid (Below w.heap.size w wr)) (fun _ q _ => cs.length - (RowKit.intOf q).toNat)
    case atStart => exact ⟨0, by omega, by simp, by simp [ridesTo], HB2.out⟩
    case round =>
      obtain ⟨k, hk, rfl, rfl, HB⟩ := hrel
      by_cases hlt : k < cs.length
      · obtain ⟨g', go', hg', hgb', u0, u1, u2, u3, u4⟩ := leg_at (HL.out.below rfl HB.out) k hlt
        simp at hg'
        obtain ⟨rfl, rfl⟩ := hg'
        have hb0 := HBd.out k hlt
        have hbw := HW.out k
        have HSucc : Hid (ar - dp - ridesTo cs (k + 1) = ar - dp - ridesTo cs k - (cs[k].arr - cs[k].dep)) := by
          show _ = _
          rw [ridesTo, dif_pos hlt]; omega
        have hm4 : (k : Int) ≤ 4 := by omega
        have hk2 : (k : Int) < (cs.length : Int) := by omega
        generalize cs[k] = x at *
        generalize ridesTo cs k = rt at *
        have hw2 : IntKind.i64.wrap (x.arr - x.dep) = x.arr - x.dep := IntWalk.i64_in _ (by omega)
        have hw3 : IntKind.i64.wrap (ar - dp - rt - (x.arr - x.dep)) = ar - dp - rt - (x.arr - x.dep) := IntWalk.i64_in _ (by omega)
        go_wp2_with fail
        go_roundw
        case rel => exact ⟨k + 1, by omega, by go_num, by rw [HSucc.out], HB.out.alloc HB.out.size _⟩
        case measure => simp [RowKit.intOf]; omega
      · obtain rfl : k = n + 1 := by omega
        have hk2 : ¬ ((n + 1 : Nat) : Int) < (cs.length : Int) := by omega
        push_cast at hk2
        have HT2 := HTele
        go_wp2_with fail
        go_ret3
        exact ⟨by first | (rw [HT2.out]; done) | (rw [HT2.out]; rfl) | (rw [← HT2.out]; rfl), HB.out⟩
  | false =>
    rw [hans] at HV
    have HN : Hid (jtF t ch cs = (0, 0)) := by show _ = _; unfold jtF; rw [hans]; rfl
    clear hans
    go_enter Try.func32, Try.ntmps32
    go_wp2_with fail
    go_at_call 34
    refine (HV.out _ ((Below.refl _ _).alloc (Nat.le_refl _) _)).mono ?_
    rintro e w1 ⟨rfl, hb1⟩
    have HB1 : Hid (Below w.heap.size w w1) := ((Below.refl _ _).alloc (Nat.le_refl _) _).trans (hb1.mono (by simp))
    clear hb1
    go_wp2_with fail
    go_ret3
    exact ⟨by rw [HN.out]; rfl, HB1.out⟩

theorem bothJourneyTimes (t : TTD) (hf : TTFits t) (hs : TTSmall t) (ch : Int) (w1 : (Lit.int .i64 ch).wf = true) (cs : List LegD) (hfl : LegsFit cs) (hsl : LegsSmall cs) : ∃ (r0 r1 : Int) (r2 : Bool), ∀ (v lv : Value) (w : World), TTAt w v t → LegsAt w lv cs →
    Calls Try.prog 33 #[v, .int .i64 ch, lv] w (fun e w' => e = .returned (.tuple #[.int .i64 r0, .int .i64 r1, .bool r2]) ∧ Below w.heap.size w w') ∧ Calls Try.prog 32 #[v, .int .i64 ch, lv] w (fun e w' => e = .returned (.tuple #[.int .i64 r0, .int .i64 r1, .bool r2]) ∧ Below w.heap.size w w') :=
  ⟨_, _, _, fun v lv w h hl => ⟨specJT_any v lv t ch cs w h hl hf hs hsl, implJT_any v lv t ch cs w h hl hf hs hsl hfl⟩⟩
end Go.Proofs.Ytmcpafflnccfaaa
