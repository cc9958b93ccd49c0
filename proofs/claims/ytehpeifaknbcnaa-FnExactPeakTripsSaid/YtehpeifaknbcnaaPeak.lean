import Derived.Test.YtehpeifaknbcnaaMk34
import Derived.Test.YtehpeifaknbcnaaBusiestTime
import Derived.Test.YtehpeifaknbcnaaL5Good
import Derived.Test.YtehpeifaknbcnaaMk33
namespace Go.Proofs.Ytehpeifaknbcnaa
open Go.RowKit
set_option linter.unusedVariables false
set_option linter.unusedSimpArgs false

def runsT (t : TTD) : List SpanD := t.trips.map (fun x => (x.start, arrF t.net x))
theorem runsT_len (t : TTD) : (runsT t).length = t.trips.length := by simp [runsT]
theorem runsT_ok {t : TTD} (h : TTGood t) : SpansOk (runsT t) := by
  refine ⟨by rw [runsT_len]; have := h.2.1; omega, fun s hs => ?_⟩
  obtain ⟨x, hx, rfl⟩ := List.mem_map.1 hs
  obtain ⟨k, hk, rfl⟩ := List.getElem_of_mem hx
  have hc := (h.step k hk).2.2.1
  have := arr_after h.1 (h.lineIn k hk)
  exact ⟨hc.2.1, hc.2.2, by show (t.trips[k]'hk).start ≤ arrF t.net (t.trips[k]'hk); omega⟩
theorem runsT_at {t : TTD} {k : Nat} (hk : k < t.trips.length) : (runsT t)[k]'(by rw [runsT_len]; exact hk) = ((t.trips[k]).start, arrF t.net t.trips[k]) := by simp [runsT]
theorem runsT_take {t : TTD} {k : Nat} (hk : k < t.trips.length) : (runsT t).take (k + 1) = (runsT t).take k ++ [((t.trips[k]).start, arrF t.net t.trips[k])] := by
  rw [List.take_succ_eq_append_getElem (by rw [runsT_len]; exact hk), runsT_at hk]
noncomputable def peakA (t : TTD) : Int := if TTGood t then (busyT (runsT t) : Int) else 0
noncomputable def peakM (t : TTD) : Int := if TTGood t then (busyN (runsT t) : Int) else 0

set_option maxRecDepth 100000 in
set_option maxHeartbeats 4000000 in
theorem implPeak_any (v : Value) (t : TTD) (w : World) (hr : TTAt w v t) (hf : TTFits t) :
    Calls Try.prog 30 #[v] w fun e w' => e = .returned (.tuple #[.int .i64 (peakA t), .int .i64 (peakM t), .bool (ttB t)]) ∧ Below w.heap.size w w' := by
  have HTT := Lib.hid hr
  have HV := Lib.hid (fun W (hW : Below w.heap.size w W) => implTT_any v t W (hr.below rfl hW) hf)
  obtain ⟨a, c, a', c', b, d, rfl, hn, ht⟩ := tt_open hr
  have HT := Lib.hid ht
  obtain ⟨i0, hi, hz0, hz1, hz2⟩ := info_parts infoSpan
  clear hr hf hn ht
  unfold peakA peakM
  by_cases hg : TTGood t
  · rw [ttB_yes hg] at HV ⊢
    rw [if_pos hg, if_pos hg]
    have HG := Lib.hid hg
    have hlen := hg.2.1
    clear hg
    go_enter Try.func30, Try.ntmps30
    go_wp2_with fail
    go_at_call 74
    refine (HV.out _ ((Below.refl _ _).alloc (Nat.le_refl _) _)).mono ?_
    rintro e w1 ⟨rfl, hb1⟩
    have HB1 : Hid (Below w.heap.size w w1 ∧ w.heap.size < w1.heap.size) := ⟨((Below.refl _ _).alloc (Nat.le_refl _) _).trans (hb1.mono (by simp)), by have := hb1.size; simp at this; omega⟩
    have hz1' := HB1.out.2
    have p0 : w1.cell? ⟨w.heap.size, 0, none⟩ = some (.slice a t.net.stops.length c) := bkeep hb1 (by go_simp)
    have p1 : w1.cell? ⟨w.heap.size, 1, none⟩ = some (.slice a' t.net.lines.length c') := bkeep hb1 (by go_simp)
    have p2 : w1.cell? ⟨w.heap.size, 2, none⟩ = some (.slice b t.trips.length d) := bkeep hb1 (by go_simp)
    have HM0 : Hid ((w1.alloc (.cells #[] 104)).ownsRow (w.heap.size + 1) 104 2 (.slice (some ⟨w1.heap.size, 0, none⟩) 0 0) 0 (spanC ((runsT t).take 0))) := by
      have := World.ownsRow_made (base := w.heap.size + 1) (size := 2) (e := 104) w1 #[] 0 (by omega) (by decide) rfl
      show World.ownsRow _ _ _ _ _ _ _
      simpa [spanC] using this
    have P0 := acell p0 (.cells #[] 104)
    have P1 := acell p1 (.cells #[] 104)
    have P2 := acell p2 (.cells #[] 104)
    clear hb1 p0 p1 p2
    go_wp2_with fail
    go_loopw [5, 15] (fun ov i wr => ∃ (k cm : Nat) (am : Option Addr), k ≤ t.trips.length ∧ i = .int .i64 k ∧ ov = .slice am k cm ∧ Hid (wr.ownsRow (w.heap.size + 1) 104 2 (.slice am k cm) k (spanC ((runsT t).take k))) ∧
        wr.cell? ⟨w.heap.size, 0, none⟩ = some (.slice a t.net.stops.length c) ∧ wr.cell? ⟨w.heap.size, 1, none⟩ = some (.slice a' t.net.lines.length c') ∧ Hid (Below w.heap.size w wr ∧ w.heap.size < wr.heap.size))
      (fun _ i _ => t.trips.length - (RowKit.intOf i).toNat)
    case atStart => exact ⟨0, 0, some ⟨w1.heap.size, 0, none⟩, Nat.zero_le _, rfl, rfl, HM0, P0, P1, HB1.out.1.alloc (by omega) _, by simp; omega⟩
    case round =>
      clear P0 P1 P2 HB1 HM0 hz1'
      obtain ⟨k, cm, am, hk, rfl, rfl, HOwn, p0, p1, HB⟩ := hrel
      have hzr := HB.out.2
      by_cases hlt : k < t.trips.length
      · obtain ⟨g, go, rfl, hgb, y0, y1, y2⟩ := trip_at (HT.out.below rfl HB.out.1) k hlt
        have hk1 : (k : Int) < (t.trips.length : Int) := by omega
        have HSp := Lib.hid (fun W (hW : Below w.heap.size w W) => tripsSpan_any _ t.net t.trips[k] t.trips[k] W (tt_net (HTT.out.below rfl hW)).1 HG.out.1 (HG.out.step k hlt).2.2.1)
        have HTk := Lib.hid (runsT_take hlt)
        generalize t.trips[k] = x at *
        generalize hA : arrF t.net x = A at *
        clear hA
        obtain ⟨xi, xl, xs⟩ := x
        unfold tripV at HSp
        simp only at *
        have P0 := acell p0 (.cells #[.int .i64 xi, .int .i64 xl, .int .i64 xs] 89)
        have P1 := acell p1 (.cells #[.int .i64 xi, .int .i64 xl, .int .i64 xs] 89)
        go_wp2_with fail
        go_at_call 75
        refine (HSp.out _ (HB.out.1.alloc (by omega) _)).mono ?_
        rintro e w2 ⟨rfl, hb2⟩
        have HB2 : Hid (Below w.heap.size w w2 ∧ w.heap.size < w2.heap.size) := ⟨(HB.out.1.alloc (by omega) _).trans (hb2.mono (by simp; omega)), by have := hb2.size; simp at this; omega⟩
        have hz2' := HB2.out.2
        have HOw2 := Lib.hid (own_later (HOwn.out.alloc (.cells #[.int .i64 xi, .int .i64 xl, .int .i64 xs] 89)) hb2)
        have p0 := bkeep hb2 P0
        have p1 := bkeep hb2 P1
        clear hb2 P0 P1 HB HOwn y0 y1 y2 hzr
        go_wp2_with (at_builtin; refine wpList_append_own _ rfl _ _ 63 rfl (w.heap.size + 1) 104 i0 (.agg #[.int .i64 0, .int .i64 0]) 2 16 Try.underlying63 hi hz0 hz1 hz2 rfl (by decide) _ _ _ rfl (HOw2.out.alloc _) ⟨w2.heap.size, 0, none⟩ 1 1 (spanC [(xs, A)]) rfl rfl ?c1 ?c2 ?c3 ?c4 ?c5 ?_)
        case c1 => exact spanC_one _ _ _
        case c2 => exact spanC_cells _
        case c3 => unfold maxLen; omega
        case c4 => omega
        case c5 => simp; omega
        intro v' w5 hown' hgrow _
        have hown0 := HOw2.out
        have HB5 : Hid (Below w.heap.size w w5 ∧ w.heap.size < w5.heap.size) := ⟨(HB2.out.1.alloc (by omega) _).grown hgrow (by simp; omega) (fun g hg => by have := (hown0.lt g hg).1; omega), by have := hgrow.size; simp at this; omega⟩
        have hb6 : Below (w.heap.size + 1) (w2.alloc (.cells #[.int .i64 xs, .int .i64 A] 104)) w5 := (Below.refl _ _).grown hgrow (by simp; omega) (fun g hg => (hown0.lt g hg).1)
        have p0 : w5.cell? ⟨w.heap.size, 0, none⟩ = some (.slice a t.net.stops.length c) := by rw [hb6.cell (p := ⟨w.heap.size, 0, none⟩) (by simp)]; exact acell p0 _
        have p1 : w5.cell? ⟨w.heap.size, 1, none⟩ = some (.slice a' t.net.lines.length c') := by rw [hb6.cell (p := ⟨w.heap.size, 1, none⟩) (by simp)]; exact acell p1 _
        rw [← spanC_append, ← HTk.out] at hown'
        obtain ⟨a6, c6, rfl⟩ := own_shape hown'
        have HR5 := Lib.hid hown'
        clear hown' hgrow hown0 hb6
        go_wp2_with fail
        go_roundw
        case rel => exact ⟨k + 1, c6, a6, by omega, by go_num, rfl, HR5.out, p0, p1, HB5.out⟩
        case measure => simp [RowKit.intOf]; omega
      · obtain rfl : k = t.trips.length := by omega
        have hsp := HOwn.out
        have hrl := runsT_len t
        rw [← hrl, List.take_of_length_le (Nat.le_refl _)] at hsp
        have hsat := spansAt_own hsp
        have HBu := Lib.hid (implBusy_any _ (runsT t) wr hsat (by unfold SpansSmall; omega))
        have hok := runsT_ok HG.out
        unfold busyA busyM at HBu
        rw [if_pos hok, if_pos hok, spansB_yes hok, hrl] at HBu
        clear hsp hsat hok hrl
        go_wp2_with fail
        go_at_call 76
        refine HBu.out.mono ?_
        rintro e w3 ⟨rfl, hb3⟩
        go_wp2_with fail
        go_ret3
        exact ⟨rfl, HB.out.1.trans (hb3.mono HB.out.1.size)⟩
  · rw [ttB_no hg] at HV ⊢
    rw [if_neg hg, if_neg hg]
    go_enter Try.func30, Try.ntmps30
    go_wp2_with fail
    go_at_call 74
    refine (HV.out _ ((Below.refl _ _).alloc (Nat.le_refl _) _)).mono ?_
    rintro e w1 ⟨rfl, hb1⟩
    go_wp2_with fail
    go_ret3
    exact ⟨rfl, ((Below.refl _ _).alloc (Nat.le_refl _) _).trans (hb1.mono (by simp))⟩

def bmF (c : Nat → Nat) : Nat → Nat × Nat
  | 0 => (0, 0)
  | a + 1 => if (bmF c a).2 < c a then (a, c a) else bmF c a
theorem bmF_eq (c : Nat → Nat) : ∀ a, bmF c (a + 1) = (bestF c a, c (bestF c a))
  | 0 => by
    show (if 0 < c 0 then (0, c 0) else (0, 0)) = (0, c 0)
    by_cases h : 0 < c 0
    · rw [if_pos h]
    · rw [if_neg h]; simp; omega
  | a + 1 => by
    have ih := bmF_eq c a
    have e : bmF c (a + 1 + 1) = if (bmF c (a + 1)).2 < c (a + 1) then (a + 1, c (a + 1)) else bmF c (a + 1) := rfl
    have e2 : bestF c (a + 1) = if c (bestF c a) < c (a + 1) then a + 1 else bestF c a := rfl
    rw [e, ih, e2]
    by_cases h : c (bestF c a) < c (a + 1)
    · rw [if_pos h, if_pos h]
    · rw [if_neg h, if_neg h]
theorem l5EndF_any (v : Value) (t : TTD) (i : Nat) (w : World) (hr : TTAt w v t) (hg : TTGood t) (hi : i < t.trips.length) :
    ∀ W : World, Below w.heap.size w W → Calls Try.prog 73 #[v, .int .i64 i] W fun e w' => e = .returned (.int .i64 (arrF t.net t.trips[i])) ∧ Below W.heap.size W w' := by
  obtain ⟨k, hk, hx, hl, hok, ha⟩ := line_of hg.1 (hg.lineIn i hi)
  rw [ha]
  have hlf := line_facts hg.1 k hk
  have hst := (hg.step i hi).2.2.1
  exact l5End_any v t i w hr hi k hx hk hlf.1 hlf.2.1 hlf.2.2 hst.2.1.1 hst.2.1.2

set_option maxRecDepth 100000 in
set_option maxHeartbeats 4000000 in
theorem specPeak_any (v : Value) (t : TTD) (w : World) (hr : TTAt w v t) (hf : TTFits t) :
    Calls Try.prog 29 #[v] w fun e w' => e = .returned (.tuple #[.int .i64 (peakA t), .int .i64 (peakM t), .bool (ttB t)]) ∧ Below w.heap.size w w' := by
  have HTT := Lib.hid hr
  have HV := Lib.hid (fun W (hW : Below w.heap.size w W) => l5Good_any v t W (hr.below rfl hW) hf)
  obtain ⟨a, c, a', c', b, d, rfl, hn, ht⟩ := tt_open hr
  have HT := Lib.hid ht
  clear hr hf hn ht
  unfold peakA peakM
  by_cases hg : TTGood t
  · rw [ttB_yes hg] at HV ⊢
    rw [if_pos hg, if_pos hg]
    have HG := Lib.hid hg
    have hlen := hg.2.1
    clear hg
    have HEnd : Hid (((busyT (runsT t) : Nat) : Int) = ((bmF (covN (runsT t)) 1800).1 : Int) ∧ ((busyN (runsT t) : Nat) : Int) = ((bmF (covN (runsT t)) 1800).2 : Int)) := by
      have e := bmF_eq (covN (runsT t)) 1799
      rw [show (1800 : Nat) = 1799 + 1 from rfl, e]
      exact ⟨rfl, rfl⟩
    have HCt : Hid (∀ m k (h : k < t.trips.length), cov ((runsT t).take (k + 1)) m = cov ((runsT t).take k) m + if (t.trips[k]).start ≤ m ∧ m < arrF t.net t.trips[k] then 1 else 0) := fun m k h => by
      rw [runsT_take h, cov_append, cov_one]
    have HCl : Hid (∀ m k, cov ((runsT t).take k) m ≤ 12) := fun m k => by
      have := cov_le ((runsT t).take k) m
      have h2 : ((runsT t).take k).length ≤ (runsT t).length := by simp; omega
      rw [runsT_len] at h2
      omega
    have HCn : Hid (∀ m : Nat, cov ((runsT t).take t.trips.length) (m : Int) = covN (runsT t) m) := fun m => by
      rw [← runsT_len, List.take_of_length_le (Nat.le_refl _)]; rfl
    have HSt : Hid (∀ m, bmF (covN (runsT t)) (m + 1) = if (bmF (covN (runsT t)) m).2 < covN (runsT t) m then (m, covN (runsT t) m) else bmF (covN (runsT t)) m) := fun m => rfl
    go_enter Try.func29, Try.ntmps29
    go_wp2_with fail
    go_at_call 72
    refine (HV.out _ ((Below.refl _ _).alloc (Nat.le_refl _) _)).mono ?_
    rintro e w1 ⟨rfl, hb1⟩
    have HB1 : Hid (Below w.heap.size w w1 ∧ w.heap.size < w1.heap.size) := ⟨((Below.refl _ _).alloc (Nat.le_refl _) _).trans (hb1.mono (by simp)), by have := hb1.size; simp at this; omega⟩
    have p0 : w1.cell? ⟨w.heap.size, 0, none⟩ = some (.slice a t.net.stops.length c) := bkeep hb1 (by go_simp)
    have p1 : w1.cell? ⟨w.heap.size, 1, none⟩ = some (.slice a' t.net.lines.length c') := bkeep hb1 (by go_simp)
    have p2 : w1.cell? ⟨w.heap.size, 2, none⟩ = some (.slice b t.trips.length d) := bkeep hb1 (by go_simp)
    clear hb1
    go_wp2_with fail
    go_loopw [5, 6, 7] (fun bv mv i wr => ∃ m : Nat, m ≤ 1800 ∧ i = .int .i64 m ∧ bv = .int .i64 ((bmF (covN (runsT t)) m).1 : Int) ∧ mv = .int .i64 ((bmF (covN (runsT t)) m).2 : Int) ∧
        wr.cell? ⟨w.heap.size, 0, none⟩ = some (.slice a t.net.stops.length c) ∧ wr.cell? ⟨w.heap.size, 1, none⟩ = some (.slice a' t.net.lines.length c') ∧ wr.cell? ⟨w.heap.size, 2, none⟩ = some (.slice b t.trips.length d) ∧ Hid (Below w.heap.size w wr ∧ w.heap.size < wr.heap.size))
      (fun _ _ i _ => 1801 - (RowKit.intOf i).toNat)
    case atStart => exact ⟨0, by omega, rfl, rfl, rfl, p0, p1, p2, HB1.out⟩
    case round =>
      clear p0 p1 p2 HB1
      obtain ⟨m, hm, rfl, rfl, rfl, p0, p1, p2, HB⟩ := hrel
      have HStm := HSt.out m
      have HEn : Hid (m = 1800 → ((busyT (runsT t) : Nat) : Int) = ((bmF (covN (runsT t)) m).1 : Int) ∧ ((busyN (runsT t) : Nat) : Int) = ((bmF (covN (runsT t)) m).2 : Int)) := fun e => by rw [e]; exact HEnd.out
      by_cases hlt : m ≤ 1799
      · have hm1 : (m : Int) ≤ 1799 := by omega
        have HStp := Lib.hid HStm
        clear HStm HEn
        obtain ⟨B, hB⟩ : ∃ B, (bmF (covN (runsT t)) m).1 = B := ⟨_, rfl⟩
        obtain ⟨M, hM⟩ : ∃ M, (bmF (covN (runsT t)) m).2 = M := ⟨_, rfl⟩
        rw [hB, hM]
        have HBM := Lib.hid (And.intro hB hM)
        clear hB hM
        go_wp2_with fail
        go_loopw [8, 9] (fun nv i wr2 => ∃ k : Nat, k ≤ t.trips.length ∧ i = .int .i64 k ∧ nv = .int .i64 (cov ((runsT t).take k) (m : Int) : Int) ∧
            wr2.cell? ⟨w.heap.size, 0, none⟩ = some (.slice a t.net.stops.length c) ∧ wr2.cell? ⟨w.heap.size, 1, none⟩ = some (.slice a' t.net.lines.length c') ∧ wr2.cell? ⟨w.heap.size, 2, none⟩ = some (.slice b t.trips.length d) ∧ Hid (Below w.heap.size w wr2 ∧ w.heap.size < wr2.heap.size))
          (fun _ i _ => t.trips.length - (RowKit.intOf i).toNat)
        case atStart => exact ⟨0, Nat.zero_le _, rfl, by simp [cov], p0, p1, p2, HB.out⟩
        case round =>
          clear p0 p1 p2 HB
          obtain ⟨k, hk, rfl, rfl, p0, p1, p2, HB⟩ := hrel
          have hcl := HCl.out (m : Int) k
          by_cases hkl : k < t.trips.length
          · obtain ⟨g, go, rfl, hgb, y0, y1, y2⟩ := trip_at (HT.out.below rfl HB.out.1) k hkl
            have hk1 : (k : Int) < (t.trips.length : Int) := by omega
            have HEk := Lib.hid (l5EndF_any _ t k w HTT.out HG.out hkl)
            have HC := Lib.hid (HCt.out (m : Int) k hkl)
            generalize hA : arrF t.net t.trips[k] = A at *
            generalize (t.trips[k]).start = s at *
            clear hA
            generalize hcv : cov ((runsT t).take k) (m : Int) = cv at *
            by_cases h1 : s ≤ (m : Int)
            · by_cases h2 : (m : Int) < A
              · rw [if_pos ⟨h1, h2⟩] at HC
                go_wp2_with fail
                go_at_call 73
                refine (HEk.out _ HB.out.1).mono ?_
                rintro e w2 ⟨rfl, hb2⟩
                have HB2 : Hid (Below w.heap.size w w2 ∧ w.heap.size < w2.heap.size) := ⟨HB.out.1.trans (hb2.mono HB.out.1.size), Nat.lt_of_lt_of_le HB.out.2 hb2.size⟩
                have p0 := bkeep hb2 p0
                have p1 := bkeep hb2 p1
                have p2 := bkeep hb2 p2
                clear hb2
                go_wp2_with fail
                go_roundw
                case rel => exact ⟨k + 1, by omega, by go_num, by rw [HC.out]; go_num, p0, p1, p2, HB2.out⟩
                case measure => simp [RowKit.intOf]; omega
              · rw [if_neg (fun q => h2 q.2)] at HC
                go_wp2_with fail
                go_at_call 73
                refine (HEk.out _ HB.out.1).mono ?_
                rintro e w2 ⟨rfl, hb2⟩
                have HB2 : Hid (Below w.heap.size w w2 ∧ w.heap.size < w2.heap.size) := ⟨HB.out.1.trans (hb2.mono HB.out.1.size), Nat.lt_of_lt_of_le HB.out.2 hb2.size⟩
                have p0 := bkeep hb2 p0
                have p1 := bkeep hb2 p1
                have p2 := bkeep hb2 p2
                clear hb2
                go_wp2_with fail
                go_roundw
                case rel => exact ⟨k + 1, by omega, by go_num, by rw [HC.out]; rfl, p0, p1, p2, HB2.out⟩
                case measure => simp [RowKit.intOf]; omega
            · rw [if_neg (fun q => h1 q.1)] at HC
              go_wp2_with fail
              go_roundw
              case rel => exact ⟨k + 1, by omega, by go_num, by rw [HC.out]; rfl, p0, p1, p2, HB.out⟩
              case measure => simp [RowKit.intOf]; omega
          · obtain rfl : k = t.trips.length := by omega
            have HCv := Lib.hid (HCn.out m)
            rw [HCv.out]
            rw [HCv.out] at hcl
            have hS := HStp.out
            rw [HBM.out.2] at hS
            have HS := Lib.hid hS
            clear hS HStp
            generalize covN (runsT t) m = n at *
            by_cases hn : M < n
            · have hnI : (M : Int) < (n : Int) := by omega
              have HN : Hid (((bmF (covN (runsT t)) (m + 1)).1 = m) ∧ (bmF (covN (runsT t)) (m + 1)).2 = n) := by have h := HS.out; rw [if_pos hn] at h; rw [h]; exact ⟨rfl, rfl⟩
              clear HS hn
              go_wp2_with fail
              refine ⟨⟨m + 1, by omega, by go_num, by rw [HN.out.1], by rw [HN.out.2], p0, p1, p2, HB.out⟩, ?_⟩
              simp [RowKit.intOf]; omega
            · have hnI : ¬ (M : Int) < (n : Int) := by omega
              have HN : Hid (((bmF (covN (runsT t)) (m + 1)).1 = B) ∧ (bmF (covN (runsT t)) (m + 1)).2 = M) := by have h := HS.out; rw [if_neg hn] at h; rw [h]; exact HBM.out
              clear HS hn
              go_wp2_with fail
              refine ⟨⟨m + 1, by omega, by go_num, by rw [HN.out.1], by rw [HN.out.2], p0, p1, p2, HB.out⟩, ?_⟩
              simp [RowKit.intOf]; omega
      · have hE := HEn.out (by omega)
        have hm1 : ¬ (m : Int) ≤ 1799 := by omega
        have HE := Lib.hid hE
        clear hE HStm HEn
        go_wp2_with fail
        go_ret3
        exact ⟨by rw [HE.out.1, HE.out.2]; rfl, HB.out.1⟩
  · rw [ttB_no hg] at HV ⊢
    rw [if_neg hg, if_neg hg]
    go_enter Try.func29, Try.ntmps29
    go_wp2_with fail
    go_at_call 72
    refine (HV.out _ ((Below.refl _ _).alloc (Nat.le_refl _) _)).mono ?_
    rintro e w1 ⟨rfl, hb1⟩
    go_wp2_with fail
    go_ret3
    exact ⟨rfl, ((Below.refl _ _).alloc (Nat.le_refl _) _).trans (hb1.mono (by simp))⟩

theorem bothPeakTrips (t : TTD) (hf : TTFits t) (_hs : TTSmall t) : ∃ (r0 r1 : Int) (r2 : Bool), ∀ v w, TTAt w v t →
    Calls Try.prog 29 #[v] w (fun e w' => e = .returned (.tuple #[.int .i64 r0, .int .i64 r1, .bool r2]) ∧ Below w.heap.size w w') ∧ Calls Try.prog 30 #[v] w (fun e w' => e = .returned (.tuple #[.int .i64 r0, .int .i64 r1, .bool r2]) ∧ Below w.heap.size w w') :=
  ⟨_, _, _, fun v w h => ⟨specPeak_any v t w h hf, implPeak_any v t w h hf⟩⟩
end Go.Proofs.Ytehpeifaknbcnaa
