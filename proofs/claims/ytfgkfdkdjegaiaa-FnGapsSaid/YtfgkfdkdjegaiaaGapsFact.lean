/-
  PLAIN FACTS for the laws of headways: what is drawn is small; gaps add up to the period, the largest one is among them.
-/
import Derived.Test.YtfgkfdkdjegaiaaDrawPass
import Derived.Test.YtfgkfdkdjegaiaaUnevenness
import Derived.Test.YtfgkfdkdjegaiaaRInts
namespace Go.Proofs.Ytfgkfdkdjegaiaa
open Go.RowKit
set_option linter.unusedVariables false
set_option linter.unusedSimpArgs false

theorem lineTot_le : ∀ (ls : List LineD), (∀ l ∈ ls, AnyLn l) → lineTot ls ≤ 36 * ls.length
  | [], _ => by simp [lineTot]
  | l :: ls, h => by
    have h1 := h l (by simp)
    have h2 := lineTot_le ls (fun x hx => h x (by simp [hx]))
    have h3 : lineSz l ≤ 36 := by have := h1.1; have := h1.2.1; have := h1.2.2.1; unfold lineSz; omega
    unfold lineTot at *
    simp only [List.map_cons, List.sum_cons, List.length_cons]
    omega
theorem any_fits {d : NetD} (h1 : d.stops.length ≤ 8 ∧ ∀ s ∈ d.stops, s.size ≤ 20) (h2 : d.lines.length ≤ 12) (h3 : ∀ l ∈ d.lines, AnyLn l) : NetFits d ∧ NetSmall d := by
  refine ⟨⟨fun s hs => by have := h1.2 s hs; unfold maxLen; omega, fun l hl => anyLn_fits (h3 l hl)⟩, by omega, by omega, fun l hl => ?_, ?_⟩
  · have h := h3 l hl
    have := h.1; have := h.2.1; have := h.2.2.1
    unfold LineSmall; omega
  · have := lineTot_le d.lines h3; omega

theorem gp_facts (n : NetD) (p : Int) (xs : List PatternD) (stop : Int) :
    ((gpF n p xs stop).length = (prF n p xs stop).length ∧ (gpF n p xs stop).length ≤ 3 ∧ (∀ x ∈ gpF n p xs stop, 0 ≤ x ∧ x ≤ 60)) ∧ (askG n p xs stop = true → patsB n p xs = true) ∧
    (servB n p xs stop = decide (0 < (gpF n p xs stop).length)) ∧ 0 ≤ unF n p xs stop ∧
    (servB n p xs stop = true → (gpF n p xs stop).sum = p ∧ (lgF n p xs stop).1 ∈ gpF n p xs stop ∧ (∀ x ∈ gpF n p xs stop, x ≤ (lgF n p xs stop).1) ∧ (lgF n p xs stop).2 ∈ prF n p xs stop ∧ dwF n p xs stop = (sqs (gpF n p xs stop), p)) := by
  have hl := gpF_len n p xs stop
  have h3 := prF_len n p xs stop
  refine ⟨⟨hl, by omega, gpF_good⟩, fun h => patsB_yes (askG_iff h).1, by unfold servB; rw [hl], ?_, fun h => ?_⟩
  · unfold unF
    split
    · rename_i h
      have hs : servB n p xs stop = true := by
        unfold unB at h; simp only [Bool.and_eq_true] at h; exact h.1
      exact unev_nonneg (servB_yes hs)
    · exact Int.le_refl _
  · have hp := servB_yes h
    have hg : 0 < (gpF n p xs stop).length := by omega
    rw [lgF_yes h, dwF_yes h]
    refine ⟨?_, lgV_mem hg, fun x hx => lgV_max x hx, ?_, rfl⟩
    · unfold gpF; exact gaps_sum hp
    · have hi := lgI_lt hg
      have hi2 : lgI (gpF n p xs stop) < (prF n p xs stop).length := by omega
      simp only
      rw [List.getD, List.getElem?_eq_getElem hi2]
      exact List.getElem_mem _
end Go.Proofs.Ytfgkfdkdjegaiaa
