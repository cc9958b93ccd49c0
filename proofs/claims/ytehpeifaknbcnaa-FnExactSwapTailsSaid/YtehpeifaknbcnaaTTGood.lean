import Derived.Test.YtehpeifaknbcnaaTTLine
namespace Go.Proofs.Ytehpeifaknbcnaa
open Go.RowKit
set_option linter.unusedVariables false

noncomputable def canB (n : NetD) (x : TripD) : Bool := @decide (CanRun n x) (Classical.propDecidable _)
theorem canB_yes {n : NetD} {x : TripD} (h : CanRun n x) : canB n x = true := @decide_eq_true _ (Classical.propDecidable _) h
theorem canB_no {n : NetD} {x : TripD} (h : ¬ CanRun n x) : canB n x = false := @decide_eq_false _ (Classical.propDecidable _) h
theorem line_facts {n : NetD} (hg : NetGood n) (k : Nat) (hk : k < n.lines.length) : n.lines[k].runs.length + 1 = n.lines[k].stops.length ∧ n.lines[k].runs.length ≤ 6 ∧ ∀ r ∈ n.lines[k].runs, 1 ≤ r ∧ r ≤ 60 := by
  have h := (good_line hg k hk).2
  exact ⟨h.1.2.2, by have := h.1.2.1; have := h.1.2.2; omega, h.2.2.2⟩

set_option maxRecDepth 100000 in
set_option maxHeartbeats 2000000 in
theorem canRun_any (v : Value) (n : NetD) (x : TripD) (w : World) (hr : NetAt w v n) (hg : NetGood n) :
    Calls Try.prog 110 #[v, tripV x] w fun e w' => e = .returned (.bool (canB n x)) ∧ Below w.heap.size w w' := by
  have HAt := Lib.hid hr
  obtain ⟨a, c, a', c', rfl, -, -⟩ := net_open hr
  have HG := Lib.hid hg
  clear hr hg
  obtain ⟨xi, xl, xs⟩ := x
  have hways : xl < 0 ∨ (0 ≤ xl ∧ (n.lines.length : Int) ≤ xl) ∨ (0 ≤ xl ∧ xl < (n.lines.length : Int)) := by omega
  rcases hways with h0 | ⟨h0, h1⟩ | ⟨h0, h1⟩
  · rw [canB_no (fun h => by have := h.1.1; simp only at this; omega)]
    unfold tripV
    go_enter Try.func110, Try.ntmps110
    go_wp2
    go_ret
    exact ⟨rfl, ((Below.refl _ _).alloc (Nat.le_refl _) _).alloc (by simp) _⟩
  · rw [canB_no (fun h => by have := h.1.2; simp only at this; omega)]
    unfold tripV
    go_enter Try.func110, Try.ntmps110
    go_wp2
    go_ret
    exact ⟨rfl, ((Below.refl _ _).alloc (Nat.le_refl _) _).alloc (by simp) _⟩
  · obtain ⟨k, rfl⟩ := Int.eq_ofNat_of_zero_le h0
    have hk : k < n.lines.length := by omega
    have HV1 := Lib.hid (fun W => implValidTime_any xs W)
    by_cases hs : TimeOk xs
    · rw [timeB_yes hs] at HV1
      obtain ⟨hl1, hl2, hl3⟩ := line_facts HG.out k hk
      have HArr := Lib.hid (fun W (hW : Below w.heap.size w W) => arrivalOf_any _ n ⟨xi, k, xs⟩ W (HAt.out.below rfl hW) k rfl hk hl2 hl3 hs.1 hs.2)
      have HV2 := Lib.hid (fun W => implValidTime_any (xs + n.lines[k].runs.sum) W)
      have HC : Hid (canB n ⟨xi, k, xs⟩ = timeB (xs + n.lines[k].runs.sum)) := by
        have he : arrF n ⟨xi, k, xs⟩ = xs + n.lines[k].runs.sum := by unfold arrF; rw [allRun_at (x := ⟨xi, k, xs⟩) (i := k) rfl hk]
        show _ = _
        by_cases ht : TimeOk (xs + n.lines[k].runs.sum)
        · rw [timeB_yes ht, canB_yes ⟨⟨by simp, h1⟩, hs, by rw [he]; exact ht⟩]
        · rw [timeB_no ht, canB_no (fun h => ht (by rw [← he]; exact h.2.2))]
      rw [HC.out]
      clear hs hl1 hl2 hl3 HC
      unfold tripV at *
      simp only at HArr
      generalize timeB (xs + n.lines[k].runs.sum) = tb at *
      generalize xs + n.lines[k].runs.sum = ar at *
      go_enter Try.func110, Try.ntmps110
      go_wp2_with fail
      go_at_call 125
      refine (HV1.out _).mono ?_
      rintro e w1 ⟨rfl, rfl⟩
      go_wp2_with fail
      go_at_call 99
      refine (HArr.out _ (((Below.refl _ _).alloc (Nat.le_refl _) _).alloc (by simp) _)).mono ?_
      rintro e w1 ⟨rfl, hb1⟩
      have HB1 : Hid (Below w.heap.size w w1) := (((Below.refl _ _).alloc (Nat.le_refl _) _).alloc (by simp) _).trans (hb1.mono (by simp; omega))
      clear hb1
      go_wp2_with (go_at_call 125; refine (HV2.out _).mono ?_; rintro e w2 ⟨rfl, rfl⟩)
      go_ret
      exact ⟨rfl, HB1.out⟩
    · rw [timeB_no hs] at HV1
      rw [canB_no (fun h => hs h.2.1)]
      unfold tripV
      clear hs
      go_enter Try.func110, Try.ntmps110
      go_wp2_with (go_at_call 125; refine (HV1.out _).mono ?_; rintro e w2 ⟨rfl, rfl⟩)
      go_ret
      exact ⟨rfl, ((Below.refl _ _).alloc (Nat.le_refl _) _).alloc (by simp) _⟩

set_option maxRecDepth 100000 in
set_option maxHeartbeats 4000000 in
theorem implTT_any (v : Value) (t : TTD) (w : World) (hr : TTAt w v t) (hf : TTFits t) :
    Calls Try.prog 74 #[v] w fun e w' => e = .returned (.bool (ttB t)) ∧ Below w.heap.size w w' := by
  obtain ⟨a, c, a', c', b, d, rfl, hn, ht⟩ := tt_open hr
  have HN := Lib.hid (fun W (hW : Below w.heap.size w W) => implValid_any _ t.net W (hn.below rfl hW) hf.1)
  have HAt := Lib.hid hn
  have HT := Lib.hid ht
  clear hn ht hr hf
  by_cases hg : NetGood t.net
  · rw [netB_yes hg] at HN
    have HG := Lib.hid hg
    have HCan := Lib.hid (fun W (hW : Below w.heap.size w W) x => canRun_any _ t.net x W (HAt.out.below rfl hW) hg)
    clear hg
    by_cases hlen : t.trips.length ≤ 12
    · go_enter Try.func74, Try.ntmps74
      go_wp2_with fail
      go_at_call 51
      refine (HN.out _ ((Below.refl _ _).alloc (Nat.le_refl _) _)).mono ?_
      rintro e w1 ⟨rfl, hb1⟩
      have HB1 : Hid (Below w.heap.size w w1 ∧ w.heap.size < w1.heap.size) := ⟨((Below.refl _ _).alloc (Nat.le_refl _) _).trans (hb1.mono (by simp)), by have := hb1.size; simp at this; omega⟩
      have p0 : w1.cell? ⟨w.heap.size, 0, none⟩ = some (.slice a t.net.stops.length c) := bkeep hb1 (by go_simp)
      have p1 : w1.cell? ⟨w.heap.size, 1, none⟩ = some (.slice a' t.net.lines.length c') := bkeep hb1 (by go_simp)
      have p2 : w1.cell? ⟨w.heap.size, 2, none⟩ = some (.slice b t.trips.length d) := bkeep hb1 (by go_simp)
      clear hb1 HN
      go_wp2_with fail
      go_loopw [3, 19] (fun l i wr => ∃ k : Nat, k ≤ t.trips.length ∧ i = .int .i64 k ∧ (∃ L : Int, l = .int .i64 L ∧ Hid (L = lastId t k)) ∧ Hid (TripsTo t k) ∧
          wr.cell? ⟨w.heap.size, 0, none⟩ = some (.slice a t.net.stops.length c) ∧ wr.cell? ⟨w.heap.size, 1, none⟩ = some (.slice a' t.net.lines.length c') ∧ wr.cell? ⟨w.heap.size, 2, none⟩ = some (.slice b t.trips.length d) ∧ Hid (Below w.heap.size w wr ∧ w.heap.size < wr.heap.size))
        (fun _ i _ => t.trips.length - (RowKit.intOf i).toNat)
      case atStart => exact ⟨0, Nat.zero_le _, rfl, ⟨0, rfl, rfl⟩, (fun j hj h => by omega), p0, p1, p2, HB1⟩
      case round =>
        clear p0 p1 p2 HB1
        obtain ⟨k, hk, rfl, ⟨L, rfl, HL⟩, HTo, p0, p1, p2, HB⟩ := hrel
        by_cases hlt : k < t.trips.length
        · obtain ⟨g, go, rfl, hgb, y0, y1, y2⟩ := trip_at (HT.out.below rfl HB.out.1) k hlt
          have HCx := Lib.hid (fun W hW => HCan.out W hW t.trips[k])
          have hk1 : (k : Int) < (t.trips.length : Int) := by omega
          have HLast := Lib.hid (lastId_succ hlt)
          have HStep : Hid (L < (t.trips[k]).id → (t.trips[k]).id ≤ 999 → CanRun t.net t.trips[k] → TripStep t k hlt) := fun h1 h2 h3 => step_of hlt HTo.out (by rw [← HL.out]; exact h1) h2 h3
          have HNo1 : Hid (¬ L < (t.trips[k]).id → ¬ TTGood t) := fun h hg => h (by rw [HL.out]; exact step_last hlt (hg.step k hlt))
          have HNo2 : Hid (¬ (t.trips[k]).id ≤ 999 → ¬ TTGood t) := fun h hg => h (hg.step k hlt).2.1
          have HNo3 : Hid (¬ CanRun t.net t.trips[k] → ¬ TTGood t) := fun h hg => h (hg.step k hlt).2.2.1
          have HNext : Hid (TripStep t k hlt → TripsTo t (k + 1)) := fun h => tripsTo_succ hlt HTo.out h
          clear HTo HL
          unfold tripV at HCx
          by_cases hid1 : L < (t.trips[k]).id
          · by_cases hid2 : (t.trips[k]).id ≤ 999
            · by_cases hc : CanRun t.net t.trips[k]
              · have HNx := Lib.hid (HNext.out (HStep.out hid1 hid2 hc))
                rw [canB_yes hc] at HCx
                clear hc HNo1 HNo2 HNo3 HStep HNext
                generalize t.trips[k] = x at *
                obtain ⟨xi, xl, xs⟩ := x
                simp only at *
                have hz := HB.out.2
                have hd1 : decide (xi ≤ L) = false := decide_eq_false (by omega)
                have hd2 : decide (999 < xi) = false := decide_eq_false (by omega)
                go_wp2_with fail
                go_at_call 110
                refine (HCx.out _ (HB.out.1.alloc (by have := HB.out.2; omega) _)).mono ?_
                rintro e w2 ⟨rfl, hb2⟩
                have HB2 : Hid (Below w.heap.size w w2 ∧ w.heap.size < w2.heap.size) := ⟨(HB.out.1.alloc (by have := HB.out.2; omega) _).trans (hb2.mono (by have := HB.out.2; simp; omega)), by have := HB.out.2; have := hb2.size; simp at this; omega⟩
                have q0 : w2.cell? ⟨w.heap.size, 0, none⟩ = some (.slice a t.net.stops.length c) := bkeep hb2 (acell p0 _)
                have q1 : w2.cell? ⟨w.heap.size, 1, none⟩ = some (.slice a' t.net.lines.length c') := bkeep hb2 (acell p1 _)
                have q2 : w2.cell? ⟨w.heap.size, 2, none⟩ = some (.slice (some ⟨g, go, none⟩) t.trips.length d) := bkeep hb2 (acell p2 _)
                have x0 : w2.cell? ⟨wr.heap.size, 0, none⟩ = some (.int .i64 xi) := bkeep hb2 (by go_simp)
                clear hb2 p0 p1 p2 HB
                go_wp2_with fail
                go_roundw
                case rel => exact ⟨k + 1, by omega, by go_num, ⟨xi, rfl, HLast.out.symm⟩, HNx, q0, q1, q2, HB2⟩
                case measure => simp [RowKit.intOf]; omega
              · have HNO := Lib.hid (HNo3.out hc)
                rw [canB_no hc] at HCx
                clear hc HNo1 HNo2 HNo3 HStep HNext HLast
                generalize t.trips[k] = x at *
                obtain ⟨xi, xl, xs⟩ := x
                simp only at *
                have hz := HB.out.2
                have hd1 : decide (xi ≤ L) = false := decide_eq_false (by omega)
                have hd2 : decide (999 < xi) = false := decide_eq_false (by omega)
                go_wp2_with fail
                go_at_call 110
                refine (HCx.out _ (HB.out.1.alloc (by have := HB.out.2; omega) _)).mono ?_
                rintro e w2 ⟨rfl, hb2⟩
                have HB2 : Hid (Below w.heap.size w w2) := (HB.out.1.alloc (by have := HB.out.2; omega) _).trans (hb2.mono (by have := HB.out.2; simp; omega))
                clear hb2 p0 p1 p2 HB
                go_wp2_with fail
                go_ret
                exact ⟨ret_bool (ttB_no HNO.out).symm, HB2.out⟩
            · have HNO := Lib.hid (HNo2.out hid2)
              clear HNo1 HNo2 HNo3 HStep HNext HLast HCx
              generalize t.trips[k] = x at *
              obtain ⟨xi, xl, xs⟩ := x
              simp only at *
              have hz := HB.out.2
              have hd1 : decide (xi ≤ L) = false := decide_eq_false (by omega)
              have hd2 : decide (999 < xi) = true := decide_eq_true (by omega)
              go_wp2_with fail
              go_ret
              exact ⟨ret_bool (ttB_no HNO.out).symm, HB.out.1.alloc (by have := HB.out.2; omega) _⟩
          · have HNO := Lib.hid (HNo1.out hid1)
            clear HNo1 HNo2 HNo3 HStep HNext HLast HCx
            generalize t.trips[k] = x at *
            obtain ⟨xi, xl, xs⟩ := x
            simp only at *
            go_wp2_with fail
            go_ret
            exact ⟨ret_bool (ttB_no HNO.out).symm, HB.out.1.alloc (by have := HB.out.2; omega) _⟩
        · have HYES : Hid (TTGood t) := ⟨HG.out, hlen, by have := HTo.out; rw [show k = t.trips.length by omega] at this; exact this⟩
          go_wp2_with fail
          go_ret
          exact ⟨ret_bool (ttB_yes HYES.out).symm, HB.out.1⟩
    · rw [ttB_no (fun h => hlen h.2.1)]
      go_enter Try.func74, Try.ntmps74
      go_wp2_with fail
      go_at_call 51
      refine (HN.out _ ((Below.refl _ _).alloc (Nat.le_refl _) _)).mono ?_
      rintro e w1 ⟨rfl, hb1⟩
      have HB1 : Hid (Below w.heap.size w w1) := ((Below.refl _ _).alloc (Nat.le_refl _) _).trans (hb1.mono (by simp))
      have p2 : w1.cell? ⟨w.heap.size, 2, none⟩ = some (.slice b t.trips.length d) := bkeep hb1 (by go_simp)
      clear hb1
      go_wp2_with fail
      go_ret
      exact ⟨rfl, HB1.out⟩
  · rw [netB_no hg] at HN
    rw [ttB_no (fun h => hg h.1)]
    clear hg
    go_enter Try.func74, Try.ntmps74
    go_wp2_with fail
    go_at_call 51
    refine (HN.out _ ((Below.refl _ _).alloc (Nat.le_refl _) _)).mono ?_
    rintro e w1 ⟨rfl, hb1⟩
    have HB1 : Hid (Below w.heap.size w w1) := ((Below.refl _ _).alloc (Nat.le_refl _) _).trans (hb1.mono (by simp))
    clear hb1
    go_wp2_with fail
    go_ret
    exact ⟨rfl, HB1.out⟩
end Go.Proofs.Ytehpeifaknbcnaa
