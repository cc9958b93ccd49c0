/-
  THE WALK of laws.FnSpans: for every code the law returns true and nothing that was in memory turns.
-/
import Derived.Test.YtenbplehiaofmaaMergeSpans
import Derived.Test.YtenbplehiaofmaaTotalMinutes
import Derived.Test.YtenbplehiaofmaaFreeSpans
import Derived.Test.YtenbplehiaofmaaBusiestTime
import Derived.Test.YtenbplehiaofmaaOverlapOf
import Derived.Test.YtenbplehiaofmaaVSpans
import Derived.Test.YtenbplehiaofmaaCodeIn
import Derived.Test.YtenbplehiaofmaaDrawFree
import Derived.Test.YtenbplehiaofmaaSpansFact
import Derived.Deep.DeepCutAuto
import Derived.Deep.RegionLaw
import Derived.BigQuiet
namespace Go.Proofs.Ytenbplehiaofmaa.fnSpans
open Go.RowKit
set_option linter.unusedVariables false
set_option linter.unusedSimpArgs false

theorem step_own {P : Program} {ops : Array Oper} {o : Oper} {a : Act} {w : World} {K : Act → World → Prop} {Q : Exit → Act → World → Prop} {E : Prop} (hg : o.guard = none) (h : Oper.wp P o a w K Q) : if Region.wanted o (yielded ops a.tmps) = true then Oper.wp P o a w K Q else E := by
  have hw : Region.wanted o (yielded ops a.tmps) = true := by simp [Region.wanted, hg]
  rw [if_pos hw]; exact h
theorem kp4 {W w w' : World} {N : Nat} {p0 p1 p2 p3 : Addr} {x0 x1 x2 x3 : Value} (hb : Below w.heap.size w w') (h : w.cell? p0 = some x0 ∧ w.cell? p1 = some x1 ∧ w.cell? p2 = some x2 ∧ w.cell? p3 = some x3 ∧ Below W.heap.size W w ∧ N ≤ w.heap.size) : w'.cell? p0 = some x0 ∧ w'.cell? p1 = some x1 ∧ w'.cell? p2 = some x2 ∧ w'.cell? p3 = some x3 ∧ Below W.heap.size W w' ∧ N ≤ w'.heap.size := by
  obtain ⟨h0, h1, h2, h3, hl, hn⟩ := h
  exact ⟨bkeep hb h0, bkeep hb h1, bkeep hb h2, bkeep hb h3, hl.trans (hb.mono hl.size), Nat.le_trans hn hb.size⟩
theorem st4 {W w : World} {N c : Nat} {p0 p1 p2 p3 : Addr} {x0 x1 x2 x3 u v : Value} (hc : N ≤ c) (hW : W.heap.size ≤ N) (q0 : p0.block < N) (q1 : p1.block < N) (q2 : p2.block < N) (q3 : p3.block < N) (h : w.cell? p0 = some x0 ∧ w.cell? p1 = some x1 ∧ w.cell? p2 = some x2 ∧ w.cell? p3 = some x3 ∧ Below W.heap.size W w ∧ N ≤ w.heap.size) : ((w.setCell ⟨c, 0, none⟩ u).setCell ⟨c, 1, none⟩ v).cell? p0 = some x0 ∧ ((w.setCell ⟨c, 0, none⟩ u).setCell ⟨c, 1, none⟩ v).cell? p1 = some x1 ∧ ((w.setCell ⟨c, 0, none⟩ u).setCell ⟨c, 1, none⟩ v).cell? p2 = some x2 ∧ ((w.setCell ⟨c, 0, none⟩ u).setCell ⟨c, 1, none⟩ v).cell? p3 = some x3 ∧ Below W.heap.size W ((w.setCell ⟨c, 0, none⟩ u).setCell ⟨c, 1, none⟩ v) ∧ N ≤ ((w.setCell ⟨c, 0, none⟩ u).setCell ⟨c, 1, none⟩ v).heap.size := by
  obtain ⟨h0, h1, h2, h3, hl, hn⟩ := h
  have hb : Below N w ((w.setCell ⟨c, 0, none⟩ u).setCell ⟨c, 1, none⟩ v) := ((Below.refl N w).setCell (p := ⟨c, 0, none⟩) hc _).setCell (p := ⟨c, 1, none⟩) hc _
  exact ⟨(by rw [hb.cell q0]; exact h0), (by rw [hb.cell q1]; exact h1), (by rw [hb.cell q2]; exact h2), (by rw [hb.cell q3]; exact h3), hl.trans (hb.mono hW), Nat.le_trans hn hb.size⟩
/-- the answer's box: above N -/
def Bx (N : Nat) (w : World) (c : Nat) (s : SpanD) : Prop := SpanBox w c s ∧ N ≤ c
theorem Bx.keep {w w' : World} {N c : Nat} {s : SpanD} (h : Bx N w c s) (hb : Below w.heap.size w w') : Bx N w' c s := ⟨h.1.keep hb, h.2⟩
theorem Bx.drew {w : World} {N c : Nat} {s : SpanD} (h : Bx N w c s) : Bx N w.drew c s := h.keep (Below.refl _ _).drew
theorem nb4 {W w : World} {N : Nat} {p0 p1 p2 p3 : Addr} {x0 x1 x2 x3 : Value} (s : SpanD) (t : TypeId) (h : w.cell? p0 = some x0 ∧ w.cell? p1 = some x1 ∧ w.cell? p2 = some x2 ∧ w.cell? p3 = some x3 ∧ Below W.heap.size W w ∧ N ≤ w.heap.size) : Bx N (w.alloc (.cells #[.int .i64 s.1, .int .i64 s.2] t)) w.heap.size s := ⟨SpanBox.new w s t, h.2.2.2.2.2⟩

theorem implFree_v (v : Value) (xs : List SpanD) (s : SpanD) (w : World) (hr : SpansAt w v xs) (hn : SpansSmall xs) :
    Calls Try.prog 15 #[v, .agg #[.int .i64 s.1, .int .i64 s.2]] w fun e w' => ∃ z, e = .returned (.tuple #[z, .bool (freeK xs s)]) ∧ SpansIn w.heap.size w'.heap.size w' z (freeA xs s) ∧ Below w.heap.size w w' := by
  unfold freeA freeK
  by_cases h : SpansOk xs ∧ SpanOk s
  · rw [if_pos h, decide_eq_true h]; exact implFree_yes v xs s w hr hn h.1 h.2
  · rw [if_neg h, decide_eq_false h]; exact implFree_no v xs s w hr hn h

theorem off_facts {xs : List SpanD} {s : SpanD} (hok : SpansOk xs) {i j : Nat} (hi : i < (mergedOf xs).length) (hj : j < (freeA xs s).length) :
    freeK xs s = true ∧ overB (mergedOf xs)[i] (freeA xs s)[j] = false ∧ overK (mergedOf xs)[i] (freeA xs s)[j] = true := by
  by_cases h : SpansOk xs ∧ SpanOk s
  · have e : freeA xs s = freeOf xs s := by unfold freeA; rw [if_pos h]
    have hm := merged_pos hok hi
    have hmem : (freeA xs s)[j] ∈ freeOf xs s := by rw [← e]; exact List.getElem_mem hj
    have hf := free_in h.2 _ hmem
    have ho := free_off hok (List.getElem_mem hi) hmem
    generalize (freeA xs s)[j] = b at *
    generalize (mergedOf xs)[i] = a at *
    have ha : SpanOk a := by unfold SpanOk TimeOk; omega
    have hb : SpanOk b := by unfold SpanOk TimeOk; omega
    have hc : common a b = (0, 0) := by unfold common; rw [if_pos ho]
    refine ⟨decide_eq_true h, ?_, decide_eq_true ⟨ha, hb⟩⟩
    unfold overB; rw [hc]; simp
  · have e : freeA xs s = [] := by unfold freeA; rw [if_neg h]
    rw [e] at hj; simp at hj

theorem yes_facts {xs : List SpanD} (h : spansB xs = true) : SpansOk xs ∧ mergeA xs = mergedOf xs ∧ totalA xs = sumLen (mergeA xs) ∧ totalA xs ≤ 1800 ∧ (busyM xs = 0 ↔ totalA xs = 0) ∧ ∀ s ∈ mergeA xs, s.1 < s.2 := by
  have hok : SpansOk xs := of_decide_eq_true h
  have e : mergeA xs = mergedOf xs := by unfold mergeA; rw [if_pos hok]
  have et : totalA xs = (totalOf xs : Int) := by unfold totalA; rw [if_pos hok]
  have eb : busyM xs = (busyN xs : Int) := by unfold busyM; rw [if_pos hok]
  refine ⟨hok, e, ?_, ?_, ?_, ?_⟩
  · rw [et, e]; exact totalOf_eq hok.2
  · rw [et]; have := totF_le (covB xs) 1800; unfold totalOf; omega
  · rw [et, eb]; exact most_zero xs
  · rw [e]; exact fun s hs => (mergedOf_in hok.2 s hs).2.1
theorem no_facts {xs : List SpanD} (h : spansB xs = false) : totalA xs = 0 := by
  have hok : ¬ SpansOk xs := of_decide_eq_false h
  unfold totalA; rw [if_neg hok]
/-- what is known of two merged spans, one behind the other, and of a free one -/
def MsFact (ms fr : List SpanD) (fk : Bool) : Prop :=
  (∀ i (hi : i < ms.length), 0 ≤ ms[i].1 ∧ ms[i].1 < ms[i].2 ∧ ms[i].2 ≤ 1799) ∧ (∀ i (hi : i + 1 < ms.length), (ms[i]'(by omega)).2 < ms[i + 1].1) ∧
  ∀ i (hi : i < ms.length) j (hj : j < fr.length), fk = true ∧ overB ms[i] fr[j] = false ∧ overK ms[i] fr[j] = true
theorem ms_fact {xs : List SpanD} (s : SpanD) (h : spansB xs = true) : MsFact (mergeA xs) (freeA xs s) (freeK xs s) := by
  obtain ⟨hok, e, _⟩ := yes_facts h
  unfold MsFact
  rw [e]
  exact ⟨fun i hi => merged_pos hok hi, fun i hi => merged_apart hok hi, fun i hi j hj => off_facts hok hi hj⟩

theorem freeA_small (xs : List SpanD) (s : SpanD) : SpansSmall (freeA xs s) := by
  unfold freeA SpansSmall
  split
  · rename_i h; have := freeOf_small xs s h.2; omega
  · simp
theorem mergeA_small (xs : List SpanD) : SpansSmall (mergeA xs) := by
  unfold mergeA SpansSmall
  split
  · have := mergedOf_small xs; omega
  · simp

set_option maxRecDepth 100000 in
set_option maxHeartbeats 8000000 in
theorem walk (v0 : Value) (W : World) (S0 : CodeAt W v0) (hL : laidMetH Try.prog Rows.fnSpansRow.laid W) (hsh : W.ShapedOpen Try.prog) :
    Calls Try.prog 3 #[v0] W fun e w' => e = .returned (.bool true) ∧ Below W.heap.size W w' := by
  clear hL hsh
  have HD := Lib.hid (drawFreeSpans_any v0 W S0)
  obtain ⟨l, a, c, rfl, h1, h2, h3⟩ := S0
  clear h3
  obtain ⟨b1, b2⟩ := vBig_any a _ c W (show (l.map byteV).length ≤ maxLen by omega)
  generalize (l.map byteV).length = n at *
  by_cases hbig : 65536 < n
  · have HB := Lib.hid (b1 hbig)
    clear b1 b2
    go_enter Try.func3, Try.ntmps3
    go_wp2_with (go_at_call 13; refine HB.out.mono ?_; rintro e w' ⟨rfl, rfl⟩)
    go_ret
    exact ⟨rfl, Below.refl _ _⟩
  have HB := Lib.hid (b2 (by omega))
  clear b1 b2
  go_enter Try.func3, Try.ntmps3
  go_wp2_with fail
  go_at_call 13
  refine HB.out.mono ?_
  rintro e w' ⟨rfl, rfl⟩
  clear HB
  go_wp2_with fail
  go_at_call 14
  refine HD.out.mono ?_
  rintro e w1 ⟨⟨xs, ⟨s1, s2⟩, z, hxs, rfl, hown⟩, hb⟩
  clear HD
  have hn : SpansSmall xs := by unfold SpansSmall; omega
  have HN := Lib.hid hn
  have HSz := Lib.hid (spansAt_own hown)
  have HB1 := Lib.hid hb
  clear hown hb hn hxs
  go_wp2_with fail
  have HBx := Lib.hid (SpanBox.new w1 (s1, s2) 26)
  have HZ2 := Lib.hid (HSz.out.below rfl ((Below.refl _ _).alloc (Nat.le_refl _) (.cells #[.int .i64 s1, .int .i64 s2] 26)))
  have HB2 : Hid (Below W.heap.size W (w1.alloc (.cells #[.int .i64 s1, .int .i64 s2] 26))) := HB1.out.alloc HB1.out.size _
  clear HSz HB1
  simp only at HBx
  go_at_call 15
  generalize w1.alloc (.cells #[.int .i64 s1, .int .i64 s2] 26) = w2 at *
  generalize w1.heap.size = bb at *
  refine (implFree_v z xs (s1, s2) w2 HZ2.out HN.out).mono ?_
  rintro e w3 ⟨zf, rfl, hin, hb⟩
  have HZ3 := Lib.hid (HZ2.out.below rfl hb)
  have HBx3 := Lib.hid (HBx.out.keep hb)
  have HF3 := Lib.hid hin.at
  have HB3 := Lib.hid (HB2.out.trans (hb.mono HB2.out.size))
  have HMs := Lib.hid (fun h => ms_fact (xs := xs) (s1, s2) h)
  have HFn := Lib.hid (freeA_small xs (s1, s2))
  have HSF := Lib.hid (fun W h => specFree_any z xs (s1, s2) W h HN.out)
  obtain ⟨x0, x1, xf⟩ := HBx3.out
  simp only at x0 x1
  clear hin hb HZ2 HBx HB2
  generalize freeK xs (s1, s2) = fk at *
  generalize freeA xs (s1, s2) = fr at *
  go_wp2_with fail
  go_at_call 16
  refine (HSF.out w3 HZ3.out).mono ?_
  rintro e w4 ⟨zg, rfl, hin, hb⟩
  have HZ4 := Lib.hid (HZ3.out.below rfl hb)
  have HF4 := Lib.hid (HF3.out.below rfl hb)
  have HG4 := Lib.hid hin.at
  have HB4 := Lib.hid (HB3.out.trans (hb.mono HB3.out.size))
  clear hin hb HZ3 HF3 HB3 x0 x1 xf HBx3 HSF
  go_wp2_with fail
  go_at_call 17
  refine (vSpans_any zf zg fr w4 HF4.out HG4.out HFn.out).mono ?_
  rintro e w5 ⟨rfl, hb⟩
  have HZ5 := Lib.hid (HZ4.out.below rfl hb)
  have HF5 := Lib.hid (HF4.out.below rfl hb)
  have HB5 := Lib.hid (HB4.out.trans (hb.mono HB4.out.size))
  clear hb HZ4 HF4 HG4 HB4
  have HYes := Lib.hid (fun h => yes_facts (xs := xs) h)
  have HNo := Lib.hid (fun h => no_facts (xs := xs) h)
  have HMn := Lib.hid (mergeA_small xs)
  have HIM := Lib.hid (fun W h => implMerge_any z xs W h HN.out)
  have HSM := Lib.hid (fun W h => specMerge_any z xs W h HN.out)
  have HIT := Lib.hid (fun W h => implTotal_any z xs W h HN.out)
  have HIB := Lib.hid (fun W h => implBusy_any z xs W h HN.out)
  generalize spansB xs = tb at *
  generalize mergeA xs = ms at *
  generalize totalA xs = tot at *
  generalize busyM xs = most at *
  generalize busyA xs = bt at *
  clear HN
  go_wp2_with fail
  go_at_call 18
  refine (HIM.out w5 HZ5.out).mono ?_
  rintro e w6 ⟨zm, rfl, hin, hb⟩
  have HZ6 := Lib.hid (HZ5.out.below rfl hb)
  have HF6 := Lib.hid (HF5.out.below rfl hb)
  have HM6 := Lib.hid hin.at
  have HB6 := Lib.hid (HB5.out.trans (hb.mono HB5.out.size))
  clear hin hb HZ5 HF5 HB5 HIM
  go_wp2_with fail
  go_at_call 19
  refine (HIT.out w6 HZ6.out).mono ?_
  rintro e w7 ⟨rfl, hb⟩
  have HZ7 := Lib.hid (HZ6.out.below rfl hb)
  have HF7 := Lib.hid (HF6.out.below rfl hb)
  have HM7 := Lib.hid (HM6.out.below rfl hb)
  have HB7 := Lib.hid (HB6.out.trans (hb.mono HB6.out.size))
  clear hb HZ6 HF6 HM6 HB6 HIT
  go_wp2_with fail
  go_at_call 20
  refine (HIB.out w7 HZ7.out).mono ?_
  rintro e w8 ⟨rfl, hb⟩
  have HZ8 := Lib.hid (HZ7.out.below rfl hb)
  have HF8 := Lib.hid (HF7.out.below rfl hb)
  have HM8 := Lib.hid (HM7.out.below rfl hb)
  have HB8 := Lib.hid (HB7.out.trans (hb.mono HB7.out.size))
  clear hb HZ7 HF7 HM7 HB7 HIB
  go_wp2_with fail
  go_at_call 21
  refine (HSM.out w8 HZ8.out).mono ?_
  rintro e w9 ⟨zn, rfl, hin, hb⟩
  have HF9 := Lib.hid (HF8.out.below rfl hb)
  have HM9 := Lib.hid (HM8.out.below rfl hb)
  have HN9 := Lib.hid hin.at
  have HB9 := Lib.hid (HB8.out.trans (hb.mono HB8.out.size))
  clear hin hb HZ8 HF8 HM8 HB8 HSM
  go_wp2_with fail
  go_at_call 17
  refine (vSpans_any zm zn ms w9 HM9.out HN9.out HMn.out).mono ?_
  rintro e w10 ⟨rfl, hb⟩
  have HFa := HF9.out.below rfl hb
  have HMa := HM9.out.below rfl hb
  have HBa := Lib.hid (HB9.out.trans (hb.mono HB9.out.size))
  obtain ⟨fa, fc, rfl, _, _, HF⟩ := spans_open HFa
  obtain ⟨ma, mc, rfl, _, _, HM⟩ := spans_open HMa
  clear hb HF9 HM9 HN9 HB9 HFa HMa
  cases tb
  · have ht := HNo.out rfl
    subst ht
    clear HNo HYes HMs
    go_wp2_with fail
    go_ret
    exact ⟨rfl, HBa.out⟩
  · obtain ⟨-, -, ht, htl, hmz, hpos⟩ := HYes.out rfl
    have hms := HMs.out rfl
    have HT := Lib.hid ht
    have HZ := Lib.hid hmz
    have HP := Lib.hid hpos
    have HS := Lib.hid hms
    have ht0 : 0 ≤ tot := by rw [ht]; have := sumLen_take_le ms 0 hpos; omega
    clear ht hmz hpos hms HNo HYes HMs
    have hmn := HMn.out
    have hfn := HFn.out
    unfold SpansSmall at hmn hfn
    go_wp2_with fail
    clear HFn HMn
    go_loopw [18, 19] (fun q i wr => ∃ (k : Nat) (y : Int), k ≤ ms.length ∧ 0 ≤ y ∧ y ≤ tot ∧ i = .int .i64 (k : Int) ∧ q = .int .i64 y ∧ Hid (y = sumLen (ms.take k)) ∧ Hid (Below w10.heap.size w10 wr)) (fun _ i _ => ms.length - (RowKit.intOf i).toNat)
    case atStart => exact ⟨0, 0, Nat.zero_le _, Int.le_refl _, ht0, rfl, rfl, (show (0 : Int) = sumLen (ms.take 0) from rfl), Below.refl _ _⟩
    case round =>
      obtain ⟨k, y, hk, hy0, hyt, rfl, rfl, HY, HB⟩ := hrel
      by_cases hlt : k < ms.length
      · obtain ⟨b, off, hma, hbl, u0, u1⟩ := HM.out k hlt
        subst hma
        have hx0 := HB.out.cell (p := ⟨b, off + k * 2, none⟩) hbl
        rw [u0] at hx0
        have hx1 := HB.out.cell (p := ⟨b, off + k * 2 + 1, none⟩) hbl
        rw [u1] at hx1
        have HCk := Lib.hid (And.intro u0 u1)
        clear u0 u1
        have hpk := HS.out.1 k hlt
        have HSt := Lib.hid (sumLen_take ms k hlt)
        have hle := (sumLen_take_le ms (k + 1) HP.out).2
        have hT := HT.out
        have hY := HY.out
        have hN := HSt.out
        have hle2 : y + (ms[k].2 - ms[k].1) ≤ tot := by omega
        have HN2 : Hid (y + (ms[k].2 - ms[k].1) = sumLen (ms.take (k + 1))) := by show _ = _; omega
        have HOv := Lib.hid (fun j (hj : j < fr.length) => HS.out.2.2 k hlt j hj)
        have HAp := Lib.hid (fun j (e : j + 1 = k) => (show (ms[j]'(by omega)).2 < ms[k].1 by subst e; exact HS.out.2.1 j hlt))
        clear HSt hle hT hY hN HY
        generalize hmk : ms[k] = mk at *
        clear hmk
        obtain ⟨p, q⟩ := mk
        simp only at *
        have hd1 : decide (q ≤ p) = false := by simp; omega
        obtain ⟨wd, hwd⟩ : ∃ wd : World, wd = wr := ⟨_, rfl⟩
        subst hwd
        go_upto_region 20 with fail
        go_cut [130] (fun s wx => s = .bool false ∧ Hid (Below wd.heap.size wd wx))
        case first =>
          by_cases hk0 : 0 < k
          rotate_left
          · have hd2 : decide ((0 : Int) < (k : Int)) = false := by simp; omega
            go_quiet (fail)
            all_goals go_wp2_with fail
            all_goals go_meet
            exact ⟨rfl, below_drewN (Below.refl _ _) _⟩
          · obtain ⟨j, rfl⟩ : ∃ j, k = j + 1 := ⟨k - 1, by omega⟩
            obtain ⟨b', off', hma', hbl', u0, u1⟩ := HM.out j (by omega)
            obtain ⟨e1, e2⟩ : b' = b ∧ off' = off := by injection hma' with e; injection e with e1 e2 e3; exact ⟨e1.symm, e2.symm⟩
            subst e1
            subst e2
            have hv1 := HB.out.cell (p := ⟨b', off' + j * 2 + 1, none⟩) hbl'
            rw [u1] at hv1
            have hap := HAp.out j rfl
            clear u0 u1 hma' HAp
            generalize ms[j] = mj at *
            obtain ⟨p', q'⟩ := mj
            simp only at *
            have hd2 : decide ((p : Int) ≤ q') = false := by simp; omega
            push_cast at *
            have hw : IntKind.i64.wrap ((j : Int) + 1 - 1) = (j : Int) := by rw [IntWalk.i64_in _ ⟨by omega, by omega⟩]; omega
            go_quiet (fail)
            all_goals go_wp2_with fail
            all_goals go_meet
            exact ⟨rfl, below_drewN (Below.refl _ _) _⟩
        case rest =>
        obtain ⟨rfl, HBc⟩ := hcut
        clear hx0 hx1 hd1 HAp
        have HB2 : Hid (Below w10.heap.size w10 wc) := HB.out.trans (HBc.out.mono HB.out.size)
        obtain ⟨wo, hwo⟩ : ∃ wo : World, wo = wc := ⟨_, rfl⟩
        subst hwo
        have x0 := HB2.out.cell (p := ⟨b, off + k * 2, none⟩) hbl
        rw [HCk.out.1] at x0
        have x1 := HB2.out.cell (p := ⟨b, off + k * 2 + 1, none⟩) hbl
        rw [HCk.out.2] at x1
        have hw1 : IntKind.i64.wrap (y + q) = y + q := IntWalk.i64_in _ ⟨by omega, by omega⟩
        have hw2 : IntKind.i64.wrap (y + q - p) = y + q - p := IntWalk.i64_in _ ⟨by omega, by omega⟩
        go_wp2_with (go_quiet (fail))
        clear hw1 hw2 x0 x1
        go_loopw [20] (fun i wr => ∃ j : Nat, j ≤ fr.length ∧ i = .int .i64 (j : Int) ∧ Hid (Below wo.heap.size wo wr)) (fun i _ => fr.length - (RowKit.intOf i).toNat)
        case atStart => exact ⟨0, Nat.zero_le _, rfl, below_drewN (Below.refl _ _) _⟩
        case round =>
          obtain ⟨j, hj, rfl, HBi⟩ := hrel
          have HBj := Lib.hid (HB2.out.trans (HBi.out.mono HB2.out.size))
          by_cases hjl : j < fr.length
          · obtain ⟨rfl, hov, hok⟩ := HOv.out j hjl
            obtain ⟨b2, off2, hfa, hbl2, u0, u1⟩ := HF.out j hjl
            subst hfa
            have HIm := Lib.hid (fun w => implOverlap_any (p, q) fr[j] w)
            rw [hov, hok] at HIm
            have y0 := HBj.out.cell (p := ⟨b2, off2 + j * 2, none⟩) hbl2
            rw [u0] at y0
            have y1 := HBj.out.cell (p := ⟨b2, off2 + j * 2 + 1, none⟩) hbl2
            rw [u1] at y1
            have x0 := HBj.out.cell (p := ⟨b, off + k * 2, none⟩) hbl
            rw [HCk.out.1] at x0
            have x1 := HBj.out.cell (p := ⟨b, off + k * 2 + 1, none⟩) hbl
            rw [HCk.out.2] at x1
            clear u0 u1 hov hok
            generalize overV (p, q) fr[j] = rv at *
            generalize fr[j] = fj at *
            obtain ⟨p2, q2⟩ := fj
            obtain ⟨r1, r2⟩ := rv
            simp only at *
            obtain ⟨we, hwe⟩ : ∃ we : World, we = wr := ⟨_, rfl⟩
            subst hwe
            have hsz := HBj.out.size
            have hBel : Below we.heap.size we we := Below.refl _ _
            have hNn : we.heap.size ≤ we.heap.size := Nat.le_refl _
            have hWN : we.heap.size ≤ we.heap.size := Nat.le_refl _
            have hq0 : b < we.heap.size := by omega
            have hq1 : b2 < we.heap.size := by omega
            go_upto_region 26 with fail
            go_cut [22, 23] (fun s22 s23 wx => s22 = .bool false ∧ s23 = .bool true ∧ Hid (wx.cell? ⟨b, off + k * 2, none⟩ = some (.int .i64 p) ∧ wx.cell? ⟨b, off + k * 2 + 1, none⟩ = some (.int .i64 q) ∧ wx.cell? ⟨b2, off2 + j * 2, none⟩ = some (.int .i64 p2) ∧ wx.cell? ⟨b2, off2 + j * 2 + 1, none⟩ = some (.int .i64 q2) ∧ Below we.heap.size we wx ∧ we.heap.size ≤ wx.heap.size))
            case first =>
              go_region_held3 (fun w' => w'.cell? ⟨b, off + k * 2, none⟩ = some (.int .i64 p) ∧ w'.cell? ⟨b, off + k * 2 + 1, none⟩ = some (.int .i64 q) ∧ w'.cell? ⟨b2, off2 + j * 2, none⟩ = some (.int .i64 p2) ∧ w'.cell? ⟨b2, off2 + j * 2 + 1, none⟩ = some (.int .i64 q2) ∧ Below we.heap.size we w' ∧ we.heap.size ≤ w'.heap.size)
                (first | (exact ⟨x0, x1, y0, y1, hBel.drew, hNn⟩) | (exact kp4 hb (by assumption)) | (exact kp4 ((Below.refl _ _).alloc (Nat.le_refl _) _) (by assumption)) | (exact kp4 ((Below.refl _ _).alloc (Nat.le_refl _) _) hSk) | (exact st4 hbx.2 hWN hq0 hq0 hq1 hq1 hSk))
                (((go_at_call 22; refine (HIm.out _).mono ?_); rintro e w' ⟨rfl, hb⟩; (first | (have hbn := Bx.keep hbx hb; clear hbx; have hbx := hbn; clear hbn) | (have hbx := Bx.keep (nb4 (0, 0) 26 hSk) hb) | (have hbx := Bx.keep (nb4 (0, 0) 26 ⟨x0, x1, y0, y1, hBel.drew, hNn⟩) hb) | (have hbx := Bx.keep (nb4 (0, 0) 26 ⟨x0, x1, y0, y1, hBel, hNn⟩).drew hb) | skip); (have hSn := kp4 hb (by assumption)); (try clear hSk); (have hSk := hSn); clear hSn; (try simp only [World.size_alloc] at hbx); (try clear t0 t1 tf); (try (have t0 := hbx.1.c0)); (try (have t1 := hbx.1.c1)); (try (have tf := hbx.1.fz)); (try simp only at t0 t1)))
              all_goals go_wp2_with fail
              all_goals go_meet
              all_goals first
                | exact ⟨rfl, rfl, kp4 ((Below.refl _ _).alloc (Nat.le_refl _) _) hSk⟩
                | exact ⟨rfl, rfl, st4 hbx.2 hWN hq0 hq0 hq1 hq1 hSk⟩
                | trace_state
            case rest =>
            obtain ⟨rfl, rfl, HS5⟩ := hcut
            have HB5 : Hid (Below wo.heap.size wo wc) := HBi.out.trans (HS5.out.2.2.2.2.1.mono HBi.out.size)
            clear x0 x1 y0 y1 HS5 hBel hNn hWN HIm
            go_wp2_with fail
            go_roundw
            case rel => exact ⟨j + 1, by omega, by go_num, HB5⟩
            case measure => simp [RowKit.intOf]; omega
          · have HB6 : Hid (Below w10.heap.size w10 wr) := HBj.out
            clear HBi HBj HB2
            go_wp2_with fail
            go_roundw
            case rel => exact ⟨k + 1, y + (q - p), by omega, by omega, by omega, by go_num, by go_num, HN2, HB6⟩
            case measure => simp [RowKit.intOf]; omega
      · have hkl : k = ms.length := by omega
        subst hkl
        have HR : Hid (tot = y) := by show _ = _; have := HY.out; rw [List.take_length] at this; rw [HT.out, this]
        have hyy := HR.out
        clear HR HY HT
        subst hyy
        by_cases hz : tot = 0
        · have hm0 := HZ.out.2 hz
          clear HZ
          subst hz
          subst hm0
          go_wp2_with fail
          go_ret
          exact ⟨rfl, HBa.out.trans (HB.out.mono HBa.out.size)⟩
        · have hm0 : ¬ most = 0 := fun e => hz (HZ.out.1 e)
          have hm1 : (most == 0) = false := by simpa using hm0
          have hz1 : (tot == 0) = false := by simpa using hz
          clear HZ
          go_wp2_with fail
          go_ret
          exact ⟨rfl, HBa.out.trans (HB.out.mono HBa.out.size)⟩
end Go.Proofs.Ytenbplehiaofmaa.fnSpans
