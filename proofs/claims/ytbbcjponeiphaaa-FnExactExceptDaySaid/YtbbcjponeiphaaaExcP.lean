/-
  PLAIN WORDS of an exception, of no program: an ascending list with or without one day.
-/
import Derived.Test.YtbbcjponeiphaaaCalP
namespace Go.Proofs.Ytbbcjponeiphaaa
set_option linter.unusedVariables false

/-- an ascending list with the day, or without it -/
def exL (l : List Int) (d : Int) (b : Bool) : List Int := l.filter (· < d) ++ ((if b then [d] else []) ++ l.filter (d < ·))
theorem exc_parts {d : Int} : ∀ {l : List Int}, l.Pairwise (· < ·) → l.take (l.countP (· < d)) = l.filter (· < d) ∧ l.drop (l.countP (· < d)) = l.filter (d ≤ ·)
  | [], _ => by simp
  | x :: l, h => by
    obtain ⟨h1, h2⟩ := List.pairwise_cons.1 h
    obtain ⟨i1, i2⟩ := exc_parts (d := d) h2
    by_cases hx : x < d
    · have hn : ¬ d ≤ x := by omega
      simp only [List.countP_cons, hx, decide_true, if_true, List.take_succ_cons, List.drop_succ_cons, List.filter_cons, hn, decide_false]
      exact ⟨by rw [i1], by simpa using i2⟩
    · have hz : l.countP (· < d) = 0 := by
        rw [List.countP_eq_zero]; intro y hy; have := h1 y hy; simp; omega
      have hf : l.filter (· < d) = [] := by
        rw [List.filter_eq_nil_iff]; intro y hy; have := h1 y hy; simp; omega
      have hg : l.filter (d ≤ ·) = l := by
        rw [List.filter_eq_self]; intro y hy; have := h1 y hy; simp; omega
      have hd : d ≤ x := by omega
      simp [List.countP_cons, hx, hz, hf, hg, hd, List.filter_cons]
theorem exc_le {d : Int} {l : List Int} (h : d ∉ l) : l.filter (d ≤ ·) = l.filter (d < ·) := by
  apply List.filter_congr
  intro x hx
  have : x ≠ d := fun e => h (e ▸ hx)
  rw [Bool.eq_iff_iff]; simp; omega
theorem exc_eq {d : Int} : ∀ {l : List Int}, l.Pairwise (· < ·) → d ∈ l → l.filter (d ≤ ·) = d :: l.filter (d < ·)
  | [], _, h => by simp at h
  | x :: l, hp, h => by
    obtain ⟨h1, h2⟩ := List.pairwise_cons.1 hp
    by_cases e : x = d
    · subst e
      have hn : x ∉ l := fun g => by have := h1 x g; omega
      simp [List.filter_cons, exc_le hn]
    · have hm : d ∈ l := by
        rcases List.mem_cons.1 h with g | g
        · exact absurd g.symm e
        · exact g
      have hlt : x < d := h1 d hm
      have g1 : ¬ d ≤ x := by omega
      have g2 : ¬ d < x := by omega
      simp only [List.filter_cons, g1, g2, decide_false]
      simpa using exc_eq h2 hm
theorem exL_add {d : Int} {l : List Int} (hp : l.Pairwise (· < ·)) (h : d ∉ l) : l.take (l.countP (· < d)) ++ d :: l.drop (l.countP (· < d)) = exL l d true := by
  obtain ⟨h1, h2⟩ := exc_parts (d := d) hp
  rw [h1, h2, exc_le h]; simp [exL]
theorem exL_have {d : Int} {l : List Int} (hp : l.Pairwise (· < ·)) (h : d ∈ l) : exL l d true = l := by
  obtain ⟨h1, h2⟩ := exc_parts (d := d) hp
  rw [exc_eq hp h] at h2
  conv => rhs; rw [← List.take_append_drop (l.countP (· < d)) l, h1, h2]
  simp [exL]
theorem exL_none {d : Int} {l : List Int} (hp : l.Pairwise (· < ·)) (h : d ∉ l) : exL l d false = l := by
  obtain ⟨h1, h2⟩ := exc_parts (d := d) hp
  rw [exc_le h] at h2
  conv => rhs; rw [← List.take_append_drop (l.countP (· < d)) l, h1, h2]
  simp [exL]
theorem exL_cut {d : Int} {l : List Int} (hp : l.Pairwise (· < ·)) (h : d ∈ l) : l.countP (· < d) < l.length ∧ l.take (l.countP (· < d)) ++ l.drop (l.countP (· < d) + 1) = exL l d false := by
  obtain ⟨h1, h2⟩ := exc_parts (d := d) hp
  rw [exc_eq hp h] at h2
  constructor
  · have := congrArg List.length h2
    simp at this; omega
  · rw [h1, show l.drop (l.countP (· < d) + 1) = (l.drop (l.countP (· < d))).tail by simp, h2]; simp [exL]
theorem exL_filter {d : Int} {l : List Int} (hp : l.Pairwise (· < ·)) : l.filter (fun x => x != d) = exL l d false := by
  by_cases h : d ∈ l
  · obtain ⟨h1, h2⟩ := exc_parts (d := d) hp
    rw [exc_eq hp h] at h2
    conv => lhs; rw [← List.take_append_drop (l.countP (· < d)) l, h1, h2]
    rw [List.filter_append, List.filter_cons]
    have e1 : (l.filter (· < d)).filter (fun x => x != d) = l.filter (· < d) := by
      rw [List.filter_eq_self]; intro y hy; have := (List.mem_filter.1 hy).2; simp at this ⊢; omega
    have e2 : (l.filter (d < ·)).filter (fun x => x != d) = l.filter (d < ·) := by
      rw [List.filter_eq_self]; intro y hy; have := (List.mem_filter.1 hy).2; simp at this ⊢; omega
    rw [e1, e2]; simp [exL]
  · rw [exL_none hp h, List.filter_eq_self]
    intro y hy
    have : y ≠ d := fun e => h (e ▸ hy)
    simpa using this
theorem exL_len (l : List Int) (d : Int) (b : Bool) : (exL l d b).length ≤ 2 * l.length + 1 := by
  have h1 := List.length_filter_le (· < d) l
  have h2 := List.length_filter_le (d < ·) l
  unfold exL
  cases b <;> simp <;> omega
end Go.Proofs.Ytbbcjponeiphaaa
