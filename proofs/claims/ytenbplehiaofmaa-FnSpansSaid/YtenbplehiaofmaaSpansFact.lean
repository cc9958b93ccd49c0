/-
  PLAIN FACTS for the law of spans: merged spans lie apart and are not empty, free ones have no time in common with them; the most is 0 exactly if the total is.
-/
import Derived.Test.YtenbplehiaofmaaSpanP
namespace Go.Proofs.Ytenbplehiaofmaa
set_option linter.unusedVariables false

theorem merged_pos {l : List SpanD} (h : SpansOk l) {i : Nat} (hi : i < (mergedOf l).length) : 0 ≤ (mergedOf l)[i].1 ∧ (mergedOf l)[i].1 < (mergedOf l)[i].2 ∧ (mergedOf l)[i].2 ≤ 1799 :=
  mergedOf_in h.2 _ (List.getElem_mem hi)
theorem merged_apart {l : List SpanD} (h : SpansOk l) {i : Nat} (hi : i + 1 < (mergedOf l).length) : (mergedOf l)[i].2 < (mergedOf l)[i + 1].1 :=
  List.pairwise_iff_getElem.1 (mergedOf_canon h.2).apart i (i + 1) (by omega) hi (by omega)
theorem free_canon (l : List SpanD) (w : SpanD) : Canon (fun t => w.1 ≤ t ∧ t < w.1 + (w.2 - w.1).toNat ∧ (!covB l t) = true) (freeOf l w) := runsF_canon _ _ _
theorem free_in {l : List SpanD} {w : SpanD} (hw : SpanOk w) : ∀ s ∈ freeOf l w, 0 ≤ s.1 ∧ s.1 < s.2 ∧ s.2 ≤ 1799 := fun s hs => by
  have c := free_canon l w
  have hp := c.pos s hs
  have h1 := (c.has s.1).2 ⟨s, hs, by omega, hp⟩
  have h2 := (c.has (s.2 - 1)).2 ⟨s, hs, by omega, by omega⟩
  unfold SpanOk TimeOk at hw
  refine ⟨by omega, hp, ?_⟩
  have := h2.2.1; omega
theorem free_off {l : List SpanD} {w a b : SpanD} (h : SpansOk l) (ha : a ∈ mergedOf l) (hb : b ∈ freeOf l w) : min a.2 b.2 ≤ max a.1 b.1 := by
  have c := mergedOf_canon h.2
  have d := free_canon l w
  by_cases hc : min a.2 b.2 ≤ max a.1 b.1
  · exact hc
  · have g1 : Has l (max a.1 b.1) := (c.has _).2 ⟨a, ha, by omega, by omega⟩
    have g2 := (d.has (max a.1 b.1)).2 ⟨b, hb, by omega, by omega⟩
    have g3 := (cov_has _ _).2 g1
    have := g2.2.2
    simp [covB] at this
    omega
theorem totF_zero (P : Int → Bool) : ∀ n, totF P n = 0 ↔ ∀ t : Nat, t < n → P t = false
  | 0 => by simp [totF]
  | n + 1 => by
    have ih := totF_zero P n
    simp only [totF]
    constructor
    · intro h t ht
      split at h
      · omega
      · rename_i hp
        by_cases e : t = n
        · subst e; simpa using hp
        · exact ih.1 h t (by omega)
    · intro h
      rw [if_neg (by rw [h n (by omega)]; simp)]
      exact ih.2 fun t ht => h t (by omega)
theorem most_zero (l : List SpanD) : ((busyN l : Int) = 0) ↔ ((totalOf l : Int) = 0) := by
  have hb := bestF_spec (covN l) 1799
  have hz := totF_zero (covB l) 1800
  unfold busyN totalOf
  constructor
  · intro h
    have h0 : covN l (busyT l) = 0 := by omega
    have : totF (covB l) 1800 = 0 := hz.2 fun t ht => by
      have := hb.2.1 t (by omega)
      unfold busyT at h0
      have e : covN l t = 0 := by omega
      unfold covN at e
      simp [covB, e]
    omega
  · intro h
    have h0 : totF (covB l) 1800 = 0 := by omega
    have := hz.1 h0 (busyT l) (by have := busyT_le l; omega)
    unfold covB at this
    have e : cov l ((busyT l : Nat) : Int) = 0 := by
      have := of_decide_eq_false this; omega
    unfold covN
    omega
end Go.Proofs.Ytenbplehiaofmaa
