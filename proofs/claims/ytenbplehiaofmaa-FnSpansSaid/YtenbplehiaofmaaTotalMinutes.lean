/-
  CONTRACTS: spec.TotalMinutes, impl.TotalMinutes; both sides in one form.
-/
import Derived.Test.YtenbplehiaofmaaMergeSpans
namespace Go.Proofs.Ytenbplehiaofmaa
open Go.RowKit
set_option linter.unusedVariables false

def totalA (xs : List SpanD) : Int := if SpansOk xs then (totalOf xs : Int) else 0

set_option maxRecDepth 100000 in
set_option maxHeartbeats 2000000 in
theorem specTotal_any (v : Value) (xs : List SpanD) (w : World) (hr : SpansAt w v xs) (hn : SpansSmall xs) :
    Calls Try.prog 39 #[v] w fun e w' => e = .returned (.tuple #[.int .i64 (totalA xs), .bool (spansB xs)]) ∧ Below w.heap.size w w' := by
  have HS := Lib.hid (l4Spans_any v xs w hr hn)
  have HC := Lib.hid (fun W (h : Below w.heap.size w W) (hok : SpansOk xs) => l4Counts_any v xs W (hr.below rfl h) hok)
  obtain ⟨a, c, rfl, _⟩ := spans_open hr
  clear hr
  unfold totalA
  by_cases hok : SpansOk xs
  · rw [spansB_yes hok] at HS ⊢
    rw [if_pos hok]
    have HO := Lib.hid hok
    clear hok
    go_enter Try.func39, Try.ntmps39
    go_wp2_with fail
    go_at_call 48
    refine HS.out.mono ?_
    rintro e w1 ⟨rfl, hb1⟩
    have HB1 := Lib.hid hb1
    clear hb1
    go_wp2_with fail
    go_at_call 51
    refine (HC.out _ HB1.out HO.out).mono ?_
    rintro e w2 ⟨c2, rfl, hown, hb2⟩
    have HB2 : Hid (Below w.heap.size w w2) := HB1.out.trans (hb2.mono HB1.out.size)
    have HCell : Hid (∀ t : Nat, t < 1800 → w1.heap.size < w2.heap.size ∧ w2.cell? ⟨w1.heap.size, t, none⟩ = some (.int .i64 (cov xs (t : Int) : Int))) := fun t ht => covTo_at hown t ht
    clear hown hb2 HB1
    generalize w1.heap.size = g at *
    go_wp2_with fail
    go_loopw [5, 6] (fun q i wr => ∃ t z : Nat, t ≤ 1800 ∧ z ≤ t ∧ i = .int .i64 (t : Int) ∧ q = .int .i64 (z : Int) ∧ Hid (z = totF (covB xs) t) ∧ wr = w2) (fun _ i _ => 1801 - (RowKit.intOf i).toNat)
    case atStart => exact ⟨0, 0, by omega, by omega, rfl, rfl, rfl, rfl⟩
    case round =>
      obtain ⟨t, z, ht, hzt, rfl, rfl, HZ, rfl⟩ := hrel
      by_cases hlt : t < 1800
      · obtain ⟨hg, hx⟩ := HCell.out t hlt
        have hcv := cov_le xs (t : Int)
        have h20 := HO.out.1
        by_cases hc : 0 < cov xs (t : Int)
        · have HN : Hid (z + 1 = totF (covB xs) (t + 1)) := by show _ = _; simp only [totF]; rw [if_pos (show covB xs (t : Int) = true by unfold covB; exact decide_eq_true hc), HZ.out]
          generalize cov xs (t : Int) = cv at *
          go_wp2_with fail
          go_roundw
          case rel => exact ⟨t + 1, z + 1, by omega, by omega, by go_num, by go_num, HN, trivial⟩
          case measure => simp [RowKit.intOf]; omega
        · have HN : Hid (z = totF (covB xs) (t + 1)) := by show _ = _; simp only [totF]; rw [if_neg (show ¬ covB xs (t : Int) = true by unfold covB; simpa using hc), HZ.out]
          generalize cov xs (t : Int) = cv at *
          go_wp2_with fail
          go_roundw
          case rel => exact ⟨t + 1, z, by omega, by omega, by go_num, by go_num, HN, trivial⟩
          case measure => simp [RowKit.intOf]; omega
      · have ht9 : t = 1800 := by omega
        subst ht9
        go_wp2_with fail
        go_ret2
        exact ⟨by rw [HZ.out]; rfl, HB2.out⟩
  · rw [spansB_no hok] at HS ⊢
    rw [if_neg hok]
    clear hok HC
    go_enter Try.func39, Try.ntmps39
    go_wp2_with fail
    go_at_call 48
    refine HS.out.mono ?_
    rintro e w1 ⟨rfl, hb1⟩
    go_wp2_with fail
    go_ret2
    exact ⟨rfl, hb1⟩

/-- the sums of canonical spans stay small -/
theorem sumLen_nonneg : ∀ (l : List SpanD), (∀ s ∈ l, s.1 < s.2) → 0 ≤ sumLen l
  | [], _ => by simp [sumLen]
  | a :: l, h => by
    have := sumLen_nonneg l (fun s hs => h s (List.mem_cons_of_mem _ hs))
    have := h a (List.mem_cons_self ..)
    show 0 ≤ ((a :: l).map fun s => s.2 - s.1).sum
    simp only [List.map_cons, List.sum_cons]
    show 0 ≤ a.2 - a.1 + sumLen l; omega
theorem sumLen_take_le (l : List SpanD) (k : Nat) (h : ∀ s ∈ l, s.1 < s.2) : 0 ≤ sumLen (l.take k) ∧ sumLen (l.take k) ≤ sumLen l := by
  have e : sumLen l = sumLen (l.take k) + sumLen (l.drop k) := by rw [← sumLen_append, List.take_append_drop]
  have := sumLen_nonneg (l.take k) (fun s hs => h s (List.mem_of_mem_take hs))
  have := sumLen_nonneg (l.drop k) (fun s hs => h s (List.mem_of_mem_drop hs))
  omega

set_option maxHeartbeats 2000000 in
theorem implTotal_any (v : Value) (xs : List SpanD) (w : World) (hr : SpansAt w v xs) (hn : SpansSmall xs) :
    Calls Try.prog 19 #[v] w fun e w' => e = .returned (.tuple #[.int .i64 (totalA xs), .bool (spansB xs)]) ∧ Below w.heap.size w w' := by
  have HS := Lib.hid (areSpans_any v xs w hr hn)
  have HM := Lib.hid (fun W (h : Below w.heap.size w W) (hok : SpansOk xs) => mergedSpans_any v xs W (hr.below rfl h) hok)
  obtain ⟨a, c, rfl, _⟩ := spans_open hr
  clear hr
  unfold totalA
  by_cases hok : SpansOk xs
  · rw [spansB_yes hok] at HS ⊢
    rw [if_pos hok]
    have HO := Lib.hid hok
    have HT := Lib.hid (totalOf_eq hok.2)
    have htl : (totalOf xs : Int) ≤ 1800 := by have := totF_le (covB xs) 1800; unfold totalOf; omega
    have HIn := Lib.hid (mergedOf_in hok.2)
    have hml := mergedOf_small xs
    clear hok
    generalize totalOf xs = tot at *
    go_enter Try.func19, Try.ntmps19
    go_wp2_with fail
    go_at_call 44
    refine HS.out.mono ?_
    rintro e w1 ⟨rfl, hb1⟩
    have HB1 := Lib.hid hb1
    clear hb1
    go_wp2_with fail
    go_at_call 46
    refine (HM.out _ HB1.out HO.out).mono ?_
    rintro e w2 ⟨v2, rfl, hin, hb2⟩
    have HB2 : Hid (Below w.heap.size w w2) := HB1.out.trans (hb2.mono HB1.out.size)
    obtain ⟨a2, c2, rfl, hc2, hm2, HX⟩ := spans_open hin.at
    clear hin hb2 HB1
    generalize hm : mergedOf xs = ms at *
    clear hm
    go_wp2_with fail
    go_loopw [4, 13] (fun q i wr => ∃ (k : Nat) (z : Int), k ≤ ms.length ∧ 0 ≤ z ∧ z ≤ tot ∧ i = .int .i64 (k : Int) ∧ q = .int .i64 z ∧ Hid (z = sumLen (ms.take k)) ∧ Hid (Below w2.heap.size w2 wr)) (fun _ i _ => ms.length - (RowKit.intOf i).toNat)
    case atStart => exact ⟨0, 0, Nat.zero_le _, Int.le_refl _, by omega, rfl, rfl, (show (0 : Int) = sumLen (ms.take 0) from rfl), Below.refl _ _⟩
    case round =>
      obtain ⟨k, z, hk, hz0, hzt, rfl, rfl, HZ, HB⟩ := hrel
      by_cases hlt : k < ms.length
      · obtain ⟨b, off, rfl, hbl, y0, y1⟩ := HX.out k hlt
        have hx0 := HB.out.cell (p := ⟨b, off + k * 2, none⟩) hbl
        rw [y0] at hx0
        have hx1 := HB.out.cell (p := ⟨b, off + k * 2 + 1, none⟩) hbl
        rw [y1] at hx1
        clear y0 y1
        have hin := HIn.out _ (List.getElem_mem hlt)
        have HN := Lib.hid (sumLen_take ms k hlt)
        have hle := (sumLen_take_le ms (k + 1) (fun s hs => (HIn.out s hs).2.1)).2
        have hT := HT.out
        have hZ := HZ.out
        have hN := HN.out
        have hle2 : z + (ms[k].2 - ms[k].1) ≤ tot := by omega
        have HN2 : Hid (z + (ms[k].2 - ms[k].1) = sumLen (ms.take (k + 1))) := by show _ = _; omega
        clear HN hle hT hZ hN HZ
        generalize ms[k] = y at *
        obtain ⟨p, q⟩ := y
        simp only at *
        go_wp2_with fail
        go_roundw
        case rel => exact ⟨k + 1, z + (q - p), by omega, by omega, by omega, by go_num, by go_num, HN2, HB.out.alloc HB.out.size _⟩
        case measure => simp [RowKit.intOf]; omega
      · have hkl : k = ms.length := by omega
        subst hkl
        have HR : Hid ((tot : Int) = z) := by show _ = _; have := HZ.out; rw [List.take_length] at this; rw [HT.out, this]
        have hzz := HR.out
        clear HR HZ HT
        subst hzz
        go_wp2_with fail
        go_ret2
        exact ⟨rfl, HB2.out.trans (HB.out.mono HB2.out.size)⟩
  · rw [spansB_no hok] at HS ⊢
    rw [if_neg hok]
    clear hok HM
    go_enter Try.func19, Try.ntmps19
    go_wp2_with fail
    go_at_call 44
    refine HS.out.mono ?_
    rintro e w1 ⟨rfl, hb1⟩
    go_wp2_with fail
    go_ret2
    exact ⟨rfl, hb1⟩

theorem bothTotalMinutes (d : List SpanD) (hf : SpansFit d) (hs : SpansSmall d) : ∃ (r : Int) (b : Bool), ∀ (v : Value) (w : World), SpansAt w v d →
    (Calls Try.prog 39 #[v] w fun e w' => e = .returned (.tuple #[.int .i64 r, .bool b]) ∧ Below w.heap.size w w') ∧
    Calls Try.prog 19 #[v] w fun e w' => e = .returned (.tuple #[.int .i64 r, .bool b]) ∧ Below w.heap.size w w' :=
  ⟨_, _, fun v w h => ⟨specTotal_any v d w h hs, implTotal_any v d w h hs⟩⟩
end Go.Proofs.Ytenbplehiaofmaa
