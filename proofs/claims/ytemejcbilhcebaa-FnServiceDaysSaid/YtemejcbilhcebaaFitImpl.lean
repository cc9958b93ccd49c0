import Derived.Test.YtemejcbilhcebaaFitUsual
import Derived.Test.YtemejcbilhcebaaFitBox
import Derived.Test.YtemejcbilhcebaaCalValid
namespace Go.Proofs.Ytemejcbilhcebaa
open Go.RowKit
set_option linter.unusedVariables false
attribute [local go_sem] Oper.semAt_some

theorem calBox_out {lo hi b : Nat} {w w' : World} {c : CalD} {av rv : Value} (h : CalBox w b c av rv) (ho : Out lo hi w w') (hs : b < lo ∨ hi ≤ b) : CalBox w' b c av rv := by
  obtain ⟨c0, c1, c2, c3, c4⟩ := h
  exact ⟨ho.cell hs c0, ho.cell hs c1, ho.cell hs c2, ho.cell hs c3, ho.cell hs c4⟩
theorem free_out {lo hi b : Nat} {w w' : World} {c : CalD} {av rv : Value} (h : CalBox w b c av rv) (hf : ∀ o, w.frozen? ⟨b, o, none⟩ = false) (ho : Out lo hi w w') (hs : b < lo ∨ hi ≤ b) (o : Nat) : w'.frozen? ⟨b, o, none⟩ = false := by
  rw [World.frozen?_of_block (w := w) (ho.block hs h.lt)]; exact hf o
theorem calZ_in (l u : Nat) (w : World) : CalIn l u w (.agg #[.int .i64 0, .int .i64 0, .int .i64 0, .slice none 0 0, .slice none 0 0]) calZ :=
  ⟨_, _, rfl, IntsIn.nil _ _ _, IntsIn.nil _ _ _, .inl rfl⟩

set_option maxRecDepth 100000 in
set_option maxHeartbeats 4000000 in
theorem implFit_any (v : Value) (lo hi : Int) (days : List Int) (w : World) (hr : RowAt w v (ints days)) (w0 : (Lit.int .i64 lo).wf = true) (w1 : (Lit.int .i64 hi).wf = true) (hn : days.length ≤ 1048576) :
    Calls Try.prog 19 #[.int .i64 lo, .int .i64 hi, v] w fun e w' => ∃ z, e = .returned (.tuple #[z, .bool (fitB lo hi days)]) ∧ CalIn w.heap.size w'.heap.size w' z (fitAns lo hi days) ∧ Below w.heap.size w w' := by
  have HRow := Lib.hid (fun W (h : Below w.heap.size w W) => hr.below rfl h)
  obtain ⟨a, c, rfl, _⟩ := ints_open hr
  clear hr
  have HB0 : Hid (Below w.heap.size w (w.alloc (.cells #[.int .i64 0, .int .i64 0, .int .i64 0, .slice none 0 0, .slice none 0 0] 46))) := (Below.refl _ _).alloc (Nat.le_refl _) _
  by_cases hl : 0 ≤ lo ∧ lo ≤ hi ∧ hi ≤ 3650
  rotate_left
  · have HN := Lib.hid (fitAns_no (lo := lo) (hi := hi) (days := days) fun h => hl h.1.1)
    have H1 := Lib.hid hl
    clear hl w0 w1
    go_enter Try.func19, Try.ntmps19
    go_wp2_with fail
    go_at_call 66
    refine (areBounds_no _ _ _ H1.out).mono ?_
    rintro e w' ⟨rfl, rfl⟩
    go_wp2_with fail
    refine bodyPost_ret (v := .tuple #[.agg #[.int .i64 0, .int .i64 0, .int .i64 0, .slice none 0 0, .slice none 0 0], .bool false]) (by simp only [results, Try.results19]; go_simp) rfl ⟨_, by rw [HN.out.2], by rw [HN.out.1]; exact calZ_in _ _ _, HB0.out⟩
  have HL := Lib.hid hl
  obtain ⟨n1, n2, n3⟩ := hl
  clear w0 w1
  by_cases h2 : hi - lo ≤ 200
  rotate_left
  · have HN := Lib.hid (fitAns_no (lo := lo) (hi := hi) (days := days) fun h => h2 h.1.2.1)
    have h2' : 200 < hi - lo := by omega
    clear h2
    go_enter Try.func19, Try.ntmps19
    go_wp2_with fail
    go_at_call 66
    refine (areBounds_yes _ _ _ HL.out).mono ?_
    rintro e w' ⟨rfl, rfl⟩
    go_wp2_with fail
    refine bodyPost_ret (v := .tuple #[.agg #[.int .i64 0, .int .i64 0, .int .i64 0, .slice none 0 0, .slice none 0 0], .bool false]) (by simp only [results, Try.results19]; go_simp) rfl ⟨_, by rw [HN.out.2], by rw [HN.out.1]; exact calZ_in _ _ _, HB0.out⟩
  by_cases hri : Rise days lo hi
  rotate_left
  · have HN := Lib.hid (fitAns_no (lo := lo) (hi := hi) (days := days) fun h => hri h.1.2.2)
    have HR := Lib.hid (riseB_no hri)
    clear hri
    go_enter Try.func19, Try.ntmps19
    go_wp2_with fail
    go_at_call 66
    refine (areBounds_yes _ _ _ HL.out).mono ?_
    rintro e w' ⟨rfl, rfl⟩
    go_wp2_with fail
    go_at_call 67
    refine (areDaysWithin_any _ days lo hi _ (HRow.out _ HB0.out)).mono ?_
    rintro e w' ⟨rfl, rfl⟩
    rw [HR.out]
    go_wp2_with fail
    refine bodyPost_ret (v := .tuple #[.agg #[.int .i64 0, .int .i64 0, .int .i64 0, .slice none 0 0, .slice none 0 0], .bool false]) (by simp only [results, Try.results19]; go_simp) rfl ⟨_, by rw [HN.out.2], by rw [HN.out.1]; exact calZ_in _ _ _, HB0.out⟩
  have HRi := Lib.hid hri
  have HR := Lib.hid (riseB_yes hri)
  have HPw := Lib.hid (rise_pair hri)
  clear hri
  have HIs := Lib.hid (fun W (h : Below w.heap.size w W) d => isListed_any _ days d W (HRow.out W h) HPw.out hn)
  obtain ⟨i0, hi', iz0, iz1, iz2⟩ := info_parts infoInt
  go_enter Try.func19, Try.ntmps19
  go_wp2_with fail
  go_at_call 66
  refine (areBounds_yes _ _ _ HL.out).mono ?_
  rintro e w' ⟨rfl, rfl⟩
  go_wp2_with fail
  go_at_call 67
  refine (areDaysWithin_any _ days lo hi _ (HRow.out _ HB0.out)).mono ?_
  rintro e w' ⟨rfl, rfl⟩
  rw [HR.out]
  go_wp2_with fail
  go_at_call 68
  refine (usualWeekdays_any _ lo hi days _ (HRow.out _ HB0.out) HL.out HPw.out hn).mono ?_
  rintro e w1 ⟨rfl, hb1⟩
  have HB1 : Hid (Below w.heap.size w w1) := HB0.out.trans (hb1.mono (by simp))
  have hz1 : w.heap.size < w1.heap.size := by have := hb1.size; simp at this; omega
  have c0 : CalBox w1 w.heap.size calZ (.slice none 0 0) (.slice none 0 0) := (calBox_new w calZ (.slice none 0 0) (.slice none 0 0) _).keep hb1
  have HZb := Lib.hid c0
  have HZf : Hid (∀ o, w1.frozen? ⟨w.heap.size, o, none⟩ = false) := fun o => fkeep hb1 (by simp) (by go_simp)
  clear hb1 c0
  go_wp2_with fail
  go_loopw [9] (fun i wr => ∃ k : Nat, i = .int .i64 (lo + (k : Int)) ∧ lo + (k : Int) ≤ hi + 1 ∧ (∃ na nr a1 c1 a2 c2, na ≤ k ∧ nr ≤ k ∧ Hid (na = (fitTo lo hi days k).added.length) ∧ Hid (nr = (fitTo lo hi days k).removed.length) ∧ Hid (FitBox wr w1.heap.size w1.heap.size (fitTo lo hi days k) (.slice a1 na c1) (.slice a2 nr c2))) ∧ Hid (CalBox wr w.heap.size calZ (.slice none 0 0) (.slice none 0 0)) ∧ Hid (∀ o, wr.frozen? ⟨w.heap.size, o, none⟩ = false) ∧ Hid (Below w.heap.size w wr) ∧ w1.heap.size < wr.heap.size) (fun i _ => (3651 - RowKit.intOf i).toNat)
  case atStart =>
    refine ⟨0, by simp, by omega, ⟨0, 0, none, 0, none, 0, by omega, by omega, rfl, rfl, ?_⟩, HZb.out.keep ((Below.refl _ _).alloc (Nat.le_refl _) _), fun o => fkeep ((Below.refl _ _).alloc (Nat.le_refl _) _) hz1 (HZf.out o), HB1.out.alloc (by omega) _, by simp⟩
    exact ⟨calBox_new w1 (fitTo lo hi days 0) (.slice none 0 0) (.slice none 0 0) _, fun o => by go_simp, World.ownsRow_nil _ _ _ _, World.ownsRow_nil _ _ _ _, .inl rfl, by simp [Value.ownBlock], by simp [Value.ownBlock]⟩
  case round =>
    clear HZb HZf HB1
    obtain ⟨k, rfl, hk, ⟨na, nr, a1, c1, a2, c2, hna, hnr, HNA, HNR, HF⟩, HZb, HZf, HB, hz⟩ := hrel
    by_cases hlt : lo + (k : Int) ≤ hi
    rotate_left
    · have HE : Hid (fitTo lo hi days k = fitC lo hi days) := by show _ = fitTo _ _ _ _; rw [show fitN lo hi = k by unfold fitN; omega]
      have hgt : hi < lo + (k : Int) := by omega
      have HV := Lib.hid (implValidCal_any _ _ wr HF.out.calAt)
      obtain ⟨p0, p1, p2, p3, p4⟩ := HF.out.box
      have p0 : wr.cell? ⟨w1.heap.size, 0, none⟩ = some (.int .i64 lo) := p0
      have p1 : wr.cell? ⟨w1.heap.size, 1, none⟩ = some (.int .i64 hi) := p1
      have p2 : wr.cell? ⟨w1.heap.size, 2, none⟩ = some (.int .i64 (fitW lo hi days)) := p2
      clear hlt
      go_wp2_with fail
      go_at_call 23
      refine HV.out.mono ?_
      rintro e w2 ⟨rfl, hb2⟩
      have HB2 : Hid (Below w.heap.size w w2) := HB.out.trans (hb2.mono (by omega))
      have HF2 := Lib.hid (HF.out.keep hb2)
      have HZb2 := Lib.hid (HZb.out.keep hb2)
      have HZf2 : Hid (∀ o, w2.frozen? ⟨w.heap.size, o, none⟩ = false) := fun o => fkeep hb2 (by show w.heap.size < _; omega) (HZf.out o)
      have hz2 : w1.heap.size < w2.heap.size := by have := hb2.size; omega
      clear hb2 p0 p1 p2 p3 p4
      by_cases hg : CalGood (fitTo lo hi days k)
      rotate_left
      · rw [calB_no hg]
        have HN := Lib.hid (fitAns_no (lo := lo) (hi := hi) (days := days) fun h => hg (by rw [HE.out]; exact h.2))
        clear hg
        obtain ⟨r0, r1, r2, r3, r4⟩ := HZb2.out
        have r0 : w2.cell? ⟨w.heap.size, 0, none⟩ = some (.int .i64 0) := r0
        have r1 : w2.cell? ⟨w.heap.size, 1, none⟩ = some (.int .i64 0) := r1
        have r2 : w2.cell? ⟨w.heap.size, 2, none⟩ = some (.int .i64 0) := r2
        have hf := HZf2.out
        go_wp2_with fail
        refine bodyPost_ret (v := .tuple #[.agg #[.int .i64 0, .int .i64 0, .int .i64 0, .slice none 0 0, .slice none 0 0], .bool false]) (by simp only [results, Try.results19]; go_simp) rfl ⟨_, by rw [HN.out.2], by rw [HN.out.1]; exact calZ_in _ _ _, ((((HB2.out.setCell (p := ⟨w.heap.size, 0, none⟩) (Nat.le_refl _) _).setCell (p := ⟨w.heap.size, 1, none⟩) (Nat.le_refl _) _).setCell (p := ⟨w.heap.size, 2, none⟩) (Nat.le_refl _) _).setCell (p := ⟨w.heap.size, 3, none⟩) (Nat.le_refl _) _).setCell (p := ⟨w.heap.size, 4, none⟩) (Nat.le_refl _) _⟩
      · rw [calB_yes hg]
        have HN := Lib.hid (fitAns_yes (lo := lo) (hi := hi) (days := days) ⟨⟨HL.out, h2, HRi.out⟩, by rw [← HE.out]; exact hg⟩)
        clear hg
        obtain ⟨p0, p1, p2, p3, p4⟩ := HF2.out.box
        have p0 : w2.cell? ⟨w1.heap.size, 0, none⟩ = some (.int .i64 lo) := p0
        have p1 : w2.cell? ⟨w1.heap.size, 1, none⟩ = some (.int .i64 hi) := p1
        have p2 : w2.cell? ⟨w1.heap.size, 2, none⟩ = some (.int .i64 (fitW lo hi days)) := p2
        obtain ⟨r0, r1, r2, r3, r4⟩ := HZb2.out
        have r0 : w2.cell? ⟨w.heap.size, 0, none⟩ = some (.int .i64 0) := r0
        have r1 : w2.cell? ⟨w.heap.size, 1, none⟩ = some (.int .i64 0) := r1
        have r2 : w2.cell? ⟨w.heap.size, 2, none⟩ = some (.int .i64 0) := r2
        have hf := HZf2.out
        go_wp2_with fail
        refine bodyPost_ret (v := .tuple #[.agg #[.int .i64 lo, .int .i64 hi, .int .i64 (fitW lo hi days), .slice a1 na c1, .slice a2 nr c2], .bool true]) (by simp only [results, Try.results19]; go_simp; exact ⟨rfl, rfl, rfl⟩) rfl ⟨_, by rw [HN.out.2], ?_, ((((HB2.out.setCell (p := ⟨w.heap.size, 0, none⟩) (Nat.le_refl _) _).setCell (p := ⟨w.heap.size, 1, none⟩) (Nat.le_refl _) _).setCell (p := ⟨w.heap.size, 2, none⟩) (Nat.le_refl _) _).setCell (p := ⟨w.heap.size, 3, none⟩) (Nat.le_refl _) _).setCell (p := ⟨w.heap.size, 4, none⟩) (Nat.le_refl _) _⟩
        rw [HN.out.1, ← HE.out]
        exact (HF2.out.calIn.out ((((((Out.refl w.heap.size (w.heap.size + 1) w2).setCell (p := ⟨w.heap.size, 0, none⟩) (Nat.le_refl _) (Nat.lt_succ_self _) _).setCell (p := ⟨w.heap.size, 1, none⟩) (Nat.le_refl _) (Nat.lt_succ_self _) _).setCell (p := ⟨w.heap.size, 2, none⟩) (Nat.le_refl _) (Nat.lt_succ_self _) _).setCell (p := ⟨w.heap.size, 3, none⟩) (Nat.le_refl _) (Nat.lt_succ_self _) _).setCell (p := ⟨w.heap.size, 4, none⟩) (Nat.le_refl _) (Nat.lt_succ_self _) _) (.inr (by omega))).base (by omega) (by simp [World.setCell])
    have hd0 : 0 ≤ lo + (k : Int) := by omega
    have hd1 : lo + (k : Int) ≤ 3650 := by omega
    have HI := Lib.hid (HIs.out wr HB.out (lo + (k : Int)))
    have HW := Lib.hid (fun W => hasWeekday_any (fitW lo hi days) (lo + (k : Int)) W (fitW_bd lo hi days).1 (fitW_bd lo hi days).2 hd0 hd1)
    go_wp2_with fail
    go_at_call 69
    refine HI.out.mono ?_
    rintro e w2 ⟨rfl, q, hq⟩
    have hb2 : Below wr.heap.size wr w2 := by rw [hq]; exact below_drewN (Below.refl _ _) q
    have HB2 : Hid (Below w.heap.size w w2) := HB.out.trans (hb2.mono (by omega))
    have HF2 := Lib.hid (HF.out.keep hb2)
    have HZb2 := Lib.hid (HZb.out.keep hb2)
    have HZf2 : Hid (∀ o, w2.frozen? ⟨w.heap.size, o, none⟩ = false) := fun o => fkeep hb2 (by show w.heap.size < _; omega) (HZf.out o)
    have hz2 : w1.heap.size < w2.heap.size := by have := hb2.size; omega
    obtain ⟨p0, p1, p2, p3, p4⟩ := HF2.out.box
    have p0 : w2.cell? ⟨w1.heap.size, 0, none⟩ = some (.int .i64 lo) := p0
    have p1 : w2.cell? ⟨w1.heap.size, 1, none⟩ = some (.int .i64 hi) := p1
    have p2 : w2.cell? ⟨w1.heap.size, 2, none⟩ = some (.int .i64 (fitW lo hi days)) := p2
    have hf2 := HF2.out.free
    clear hb2 hq HF HZb HZf HB hz
    by_cases hin : inB (lo + (k : Int)) days = true
    · by_cases hwd : wdB (fitW lo hi days) (lo + (k : Int)) = true
      · have HT := Lib.hid (fitTo_same (hin.trans hwd.symm))
        rw [hwd] at HW
        rw [hin]
        clear hin hwd
        go_wp2_with fail
        go_at_call 70
        refine (HW.out _).mono ?_
        rintro e w3 ⟨rfl, rfl⟩
        go_wp2_with fail
        go_roundw
        case rel => exact ⟨k + 1, by rw [show lo + ((k + 1 : Nat) : Int) = lo + (k : Int) + 1 by omega], by omega, ⟨na, nr, a1, c1, a2, c2, by omega, by omega, by rw [HT.out]; exact HNA.out, by rw [HT.out]; exact HNR.out, by rw [HT.out]; exact HF2.out⟩, HZb2.out, HZf2.out, HB2.out, hz2⟩
        case measure => simp [RowKit.intOf]; omega
      · have hwd' : wdB (fitW lo hi days) (lo + (k : Int)) = false := by simpa using hwd
        have HT := Lib.hid (fitTo_add hin hwd')
        have HO : Hid (w2.ownsRow w1.heap.size 3 1 (.slice a1 na c1) na (ints (fitTo lo hi days k).added)) := by show World.ownsRow _ _ _ _ _ _ _; have := HF2.out.adds; rw [← HNA.out] at this; exact this
        rw [hwd'] at HW
        rw [hin]
        clear hin hwd hwd'
        go_wp2_with fail
        go_at_call 70
        refine (HW.out _).mono ?_
        rintro e w3 ⟨rfl, rfl⟩
        go_wp2_with (at_builtin; refine wpList_append_own_at _ rfl _ _ 34 rfl w1.heap.size 3 i0 (.int .i64 0) 1 8 Try.underlying34 hi' iz0 iz1 iz2 rfl (by decide) (.slice a1 na c1) na _ rfl (HO.out.alloc _) ⟨w2.heap.size, 0, none⟩ 1 1 [.int .i64 (lo + (k : Int))] rfl rfl ?c1 ?c2 ?c3 ?c4 ?c5 ?_)
        case c1 => exact one_new _ _
        case c2 => exact fit_one w2 _ (t := 3)
        case c3 => unfold maxLen; omega
        case c4 => omega
        case c5 => simp; omega
        intro v' w4 hown' hgrow _ hloc
        obtain ⟨⟨q0, q1, q2, q3, q4⟩, hf4⟩ := HF2.out.mid _ hgrow HF2.out.offA
        have HFN := Lib.hid (HF2.out.addA (x := lo + (k : Int)) (by omega) (by rw [← HNA.out]; exact hown') hgrow hloc)
        have hrl : ∀ g, Value.ownBlock (.slice a1 na c1) = some g → w1.heap.size ≤ g := fun g hg => (HF2.out.adds.lt g hg).1
        have HBN := Lib.hid (fitBox_below (W := w) (B := w.heap.size) (b := w1.heap.size) (i := 3) HB2.out (by omega) hgrow (fun g hg => by have := hrl g hg; omega) (by omega) v')
        have HON : Hid (Out w1.heap.size (w1.heap.size + (w4.heap.size + 1)) w2 (w4.setCell ⟨w1.heap.size, 3, none⟩ v')) := ⟨fitBox_below (Below.refl _ _) (by omega) hgrow hrl (Nat.le_refl _) v', fun b hb hl => by have := hgrow.size; simp at this; omega⟩
        have hzN : w1.heap.size < w4.heap.size := by have := hgrow.size; simp at this; omega
        obtain ⟨av', cv', rfl⟩ := own_shape hown'
        clear hown' hgrow hloc hrl
        go_wp2_with fail
        go_roundw
        case rel =>
          refine ⟨k + 1, by rw [show lo + ((k + 1 : Nat) : Int) = lo + (k : Int) + 1 by omega], by omega, ⟨na + 1, nr, av', cv', a2, c2, by omega, by omega, ?_, ?_, ?_⟩, calBox_out HZb2.out HON.out (.inl hz1), free_out HZb2.out HZf2.out HON.out (.inl hz1), HBN.out, by rw [size_setCell']; exact hzN⟩
          · show _ = _; rw [HT.out]; simp [HNA.out]
          · show _ = _; rw [HT.out]; simp [HNR.out]
          · show FitBox _ _ _ _ _ _; rw [HT.out]; exact HFN.out
        case measure => simp [RowKit.intOf]; omega
    · have hin' : inB (lo + (k : Int)) days = false := by simpa using hin
      by_cases hwd : wdB (fitW lo hi days) (lo + (k : Int)) = true
      · have HT := Lib.hid (fitTo_rem hin' hwd)
        have HO : Hid (w2.ownsRow w1.heap.size 3 1 (.slice a2 nr c2) nr (ints (fitTo lo hi days k).removed)) := by show World.ownsRow _ _ _ _ _ _ _; have := HF2.out.rems; rw [← HNR.out] at this; exact this
        rw [hwd] at HW
        rw [hin']
        clear hin hwd hin'
        go_wp2_with fail
        go_at_call 70
        refine (HW.out _).mono ?_
        rintro e w3 ⟨rfl, rfl⟩
        go_wp2_with (at_builtin; refine wpList_append_own_at _ rfl _ _ 34 rfl w1.heap.size 3 i0 (.int .i64 0) 1 8 Try.underlying34 hi' iz0 iz1 iz2 rfl (by decide) (.slice a2 nr c2) nr _ rfl (HO.out.alloc _) ⟨w2.heap.size, 0, none⟩ 1 1 [.int .i64 (lo + (k : Int))] rfl rfl ?c1 ?c2 ?c3 ?c4 ?c5 ?_)
        case c1 => exact one_new _ _
        case c2 => exact fit_one w2 _ (t := 3)
        case c3 => unfold maxLen; omega
        case c4 => omega
        case c5 => simp; omega
        intro v' w4 hown' hgrow _ hloc
        obtain ⟨⟨q0, q1, q2, q3, q4⟩, hf4⟩ := HF2.out.mid _ hgrow HF2.out.offR
        have HFN := Lib.hid (HF2.out.addR (x := lo + (k : Int)) (by omega) (by rw [← HNR.out]; exact hown') hgrow hloc)
        have hrl : ∀ g, Value.ownBlock (.slice a2 nr c2) = some g → w1.heap.size ≤ g := fun g hg => (HF2.out.rems.lt g hg).1
        have HBN := Lib.hid (fitBox_below (W := w) (B := w.heap.size) (b := w1.heap.size) (i := 4) HB2.out (by omega) hgrow (fun g hg => by have := hrl g hg; omega) (by omega) v')
        have HON : Hid (Out w1.heap.size (w1.heap.size + (w4.heap.size + 1)) w2 (w4.setCell ⟨w1.heap.size, 4, none⟩ v')) := ⟨fitBox_below (Below.refl _ _) (by omega) hgrow hrl (Nat.le_refl _) v', fun b hb hl => by have := hgrow.size; simp at this; omega⟩
        have hzN : w1.heap.size < w4.heap.size := by have := hgrow.size; simp at this; omega
        obtain ⟨av', cv', rfl⟩ := own_shape hown'
        clear hown' hgrow hloc hrl
        go_wp2_with fail
        go_roundw
        case rel =>
          refine ⟨k + 1, by rw [show lo + ((k + 1 : Nat) : Int) = lo + (k : Int) + 1 by omega], by omega, ⟨na, nr + 1, a1, c1, av', cv', by omega, by omega, ?_, ?_, ?_⟩, calBox_out HZb2.out HON.out (.inl hz1), free_out HZb2.out HZf2.out HON.out (.inl hz1), HBN.out, by rw [size_setCell']; exact hzN⟩
          · show _ = _; rw [HT.out]; simp [HNA.out]
          · show _ = _; rw [HT.out]; simp [HNR.out]
          · show FitBox _ _ _ _ _ _; rw [HT.out]; exact HFN.out
        case measure => simp [RowKit.intOf]; omega
      · have hwd' : wdB (fitW lo hi days) (lo + (k : Int)) = false := by simpa using hwd
        have HT := Lib.hid (fitTo_same (hin'.trans hwd'.symm))
        rw [hwd'] at HW
        rw [hin']
        clear hin hin' hwd hwd'
        go_wp2_with fail
        go_at_call 70
        refine (HW.out _).mono ?_
        rintro e w3 ⟨rfl, rfl⟩
        go_wp2_with fail
        go_roundw
        case rel => exact ⟨k + 1, by rw [show lo + ((k + 1 : Nat) : Int) = lo + (k : Int) + 1 by omega], by omega, ⟨na, nr, a1, c1, a2, c2, by omega, by omega, by rw [HT.out]; exact HNA.out, by rw [HT.out]; exact HNR.out, by rw [HT.out]; exact HF2.out⟩, HZb2.out, HZf2.out, HB2.out, hz2⟩
        case measure => simp [RowKit.intOf]; omega
end Go.Proofs.Ytemejcbilhcebaa
