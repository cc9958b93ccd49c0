import Derived.Test.YtemejcbilhcebaaFitP
import Derived.Test.YtemejcbilhcebaaNextRun
import Derived.Test.YtemejcbilhcebaaCountDays
import Derived.Test.YtemejcbilhcebaaCommonDays
namespace Go.Proofs.Ytemejcbilhcebaa
set_option linter.unusedVariables false
set_option linter.unusedSimpArgs false

theorem fit_runs {lo hi : Int} {days : List Int} (h : FitGood lo hi days) (x : Int) : Runs (fitC lo hi days) x ↔ x ∈ days := by
  obtain ⟨⟨⟨h0, h1, h2⟩, h3, hr⟩, hg⟩ := h
  have hm := rise_mem hr
  have hN : ((fitN lo hi : Nat) : Int) = hi - lo + 1 := by unfold fitN; omega
  have ea : x ∈ (fitC lo hi days).added ↔ (lo ≤ x ∧ x < lo + fitN lo hi) ∧ plusB days (fitW lo hi days) x = true := by
    show x ∈ dayRow _ _ _ ↔ _
    rw [dayRow_mem]; exact and_assoc.symm
  have er : x ∈ (fitC lo hi days).removed ↔ (lo ≤ x ∧ x < lo + fitN lo hi) ∧ minusB days (fitW lo hi days) x = true := by
    show x ∈ dayRow _ _ _ ↔ _
    rw [dayRow_mem]; exact and_assoc.symm
  unfold Runs
  rw [ea, er]
  show ((lo ≤ x ∧ x ≤ hi) ∧ _) ↔ _
  have ei : inB x days = true ↔ x ∈ days := by unfold inB; simp
  show (_ ∧ if wdB (fitW lo hi days) x = true then _ else _) ↔ _
  unfold plusB minusB
  by_cases hw : wdB (fitW lo hi days) x = true
  · rw [if_pos hw]
    simp only [hw, Bool.and_true, Bool.not_eq_true', Bool.not_true, Bool.and_false]
    constructor
    · rintro ⟨hb, hn⟩
      by_cases hx : x ∈ days
      · exact hx
      · exact absurd ⟨⟨hb.1, by omega⟩, by simpa using mt ei.1 hx⟩ hn
    · intro hx
      exact ⟨hm x hx, fun ⟨_, hn⟩ => by rw [ei.2 hx] at hn; cases hn⟩
  · rw [if_neg hw]
    have hw' : wdB (fitW lo hi days) x = false := by simpa using hw
    simp only [hw', Bool.not_false, Bool.and_true, ei]
    exact ⟨fun ⟨_, _, hx⟩ => hx, fun hx => ⟨hm x hx, ⟨(hm x hx).1, by have := (hm x hx).2; omega⟩, hx⟩⟩
theorem fit_days {lo hi : Int} {days : List Int} (h : FitGood lo hi days) : daysOf (fitC lo hi days) lo = days := by
  refine asc_ext (dayRow_asc _ _ _) (rise_pair h.1.2.2) fun x => ?_
  unfold daysOf
  rw [dayRow_mem, runsB_iff, fit_runs h]
  have hm := rise_mem h.1.2.2
  have hN : ((daysN (fitC lo hi days) lo : Nat) : Int) = hi + 1 - lo := by
    have := h.1.1
    unfold daysN
    show (((hi + 1 - lo).toNat : Nat) : Int) = _
    omega
  exact ⟨fun g => g.2.2, fun g => ⟨(hm x g).1, by have := (hm x g).2; omega, g⟩⟩

theorem serv_facts {lo hi : Int} {days : List Int} (h : FitGood lo hi days) :
    cntOf (fitC lo hi days) = days.length ∧ calB (fitC lo hi days) = true ∧ (∀ x ∈ days, onB (fitC lo hi days) x = true ∧ okB (fitC lo hi days) x = true) ∧
    okAB (fitC lo hi days) (fitC lo hi days) = true ∧ (comAns (fitC lo hi days) (fitC lo hi days)).length ≤ days.length ∧
    comAns (fitC lo hi days) (fitC lo hi days) = days.take (comAns (fitC lo hi days) (fitC lo hi days)).length := by
  have hd := fit_days h
  have hm := rise_mem h.1.2.2
  have hc : comAns (fitC lo hi days) (fitC lo hi days) = days.take 20 := by
    rw [(comAns_yes ⟨h.2, h.2⟩).1]
    unfold comL
    have e : bothB (fitC lo hi days) (fitC lo hi days) = runsB (fitC lo hi days) := by funext x; simp [bothB]
    rw [e]
    show (daysOf (fitC lo hi days) lo).take 20 = _
    rw [hd]
  refine ⟨?_, calB_yes h.2, fun x hx => ?_, (comAns_yes ⟨h.2, h.2⟩).2, ?_, ?_⟩
  · rw [cntOf_yes h.2]; show (((daysOf (fitC lo hi days) lo).length : Nat) : Int) = _; rw [hd]
  · have hk : okB (fitC lo hi days) x = true := okB_yes ⟨h.2, by have := (hm x hx).1; have := h.1.1; omega, by have := (hm x hx).2; have := h.1.1; omega⟩
    exact ⟨by rw [onB_yes hk]; exact runsB_yes ((fit_runs h x).2 hx), hk⟩
  · rw [hc]; simp; omega
  · rw [hc, List.length_take]
    by_cases hl : 20 ≤ days.length
    · rw [Nat.min_eq_left hl]
    · rw [Nat.min_eq_right (by omega), List.take_of_length_le (by omega), List.take_of_length_le (by omega)]
theorem next_facts {c : CalD} {d : Int} (h : nextB c d = true) : onB c (nextD c d) = true ∧ okB c (nextD c d) = true ∧ nextD c (nextD c d) = nextD c d ∧ nextB c (nextD c d) = true ∧ d ≤ nextD c d := by
  have hk : okB c d = true := by
    cases hh : okB c d
    · rw [(next_none (nextO_no hh)).2] at h; cases h
    · rfl
  obtain ⟨hg, hd0, hd1⟩ : CalGood c ∧ 0 ≤ d ∧ d ≤ 3650 := by simpa [okB] using hk
  obtain ⟨x, hx⟩ : ∃ x, nextO c d = some x := Option.isSome_iff_exists.1 h
  have hx' := hx
  rw [nextO_yes hk] at hx'
  have hmem : x ∈ daysOf c d := List.mem_of_head? hx'
  unfold daysOf at hmem
  rw [dayRow_mem] at hmem
  obtain ⟨g1, g2, g3⟩ := hmem
  have hr := runsB_iff.1 g3
  have hkx : okB c x = true := okB_yes ⟨hg, by omega, by have := hr.1.2; have := hg.1.2.2.1; omega⟩
  have hnx : nextO c x = some x := by
    rw [nextO_yes hkx]
    unfold daysOf
    exact dayRow_head (Int.le_refl _) (by have := hr.1.2; unfold daysN; omega) g3 (fun y h1 h2 => by omega)
  rw [(next_some hx).1]
  exact ⟨by rw [onB_yes hkx]; exact g3, hkx, (next_some hnx).1, (next_some hnx).2, g1⟩
end Go.Proofs.Ytemejcbilhcebaa
