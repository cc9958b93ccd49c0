/-
  PLAIN FACTS on splitting and joining: the parts of a text, joined again, are the text; both sides of JoinStrings at once; the order of texts is strict.
-/
import Derived.Test.YtffcgblionlhhaaJoin
import Derived.Test.YtffcgblionlhhaaSplitString
namespace Go.Proofs.Ytffcgblionlhhaa
open Go.RowKit
set_option linter.unusedVariables false

theorem sj_all (c : UInt8) (l : List UInt8) : jn c ((spFold c l).1.map toB ++ [toB (spFold c l).2]) = l ∧ (∀ x ∈ (spFold c l).1, c ∉ x) ∧ c ∉ (spFold c l).2 := by
  rcases List.eq_nil_or_concat l with rfl | ⟨t, b, rfl⟩
  · refine ⟨?_, by simp [spFold], by simp [spFold]⟩
    show jn c [toB []] = []
    rw [jn_one]; rfl
  · obtain ⟨h1, h2, h3⟩ := sj_all c t
    rw [List.concat_eq_append, spFold_snoc, spStep]
    by_cases hb : b = c
    · subst hb
      rw [if_pos rfl]
      refine ⟨?_, ?_, by simp⟩
      · simp only [List.map_append, List.map_cons, List.map_nil]
        rw [jn_snoc _ _ _ (by simp), h1]; simp [toB]
      · intro x hx
        simp only [List.mem_append, List.mem_singleton] at hx
        rcases hx with hx | rfl
        · exact h2 x hx
        · exact h3
    · rw [if_neg hb]
      refine ⟨?_, h2, by simp only [List.mem_append, List.mem_singleton]; rintro (h | h); exact h3 h; exact hb h.symm⟩
      by_cases hn : (spFold c t).1.map toB = []
      · simp only [hn, List.nil_append] at h1 ⊢
        rw [jn_one] at h1 ⊢
        have e : (toB (spFold c t).2).data.toList = (spFold c t).2 := rfl
        rw [e] at h1
        show (spFold c t).2 ++ [b] = t ++ [b]
        rw [h1]
      · rw [jn_snoc _ _ _ hn] at h1 ⊢
        have e : (toB (spFold c t).2).data.toList = (spFold c t).2 := rfl
        rw [e] at h1
        show jn c ((spFold c t).1.map toB) ++ [c] ++ ((spFold c t).2 ++ [b]) = t ++ [b]
        rw [← List.append_assoc, h1]
termination_by l.length
decreasing_by simp_all

theorem splitB_eq (c : UInt8) (s : ByteArray) : splitB c s = (spFold c s.data.toList).1.map toB ++ [toB (spFold c s.data.toList).2] := by simp [splitB, splitL]
theorem split_join (c : UInt8) (s : ByteArray) : jn c (splitB c s) = s.data.toList := by rw [splitB_eq]; exact (sj_all c s.data.toList).1
theorem split_joins {c : UInt8} {s : ByteArray} (hs : s.size ≤ 4000) : Joins c (splitB c s) ∧ (⟨(jn c (splitB c s)).toArray⟩ : ByteArray) = s ∧ (splitB c s).length + sumSz (splitB c s) ≤ 1048576 := by
  have hne : splitB c s ≠ [] := by rw [splitB_eq]; simp
  have hl := length_list s
  refine ⟨⟨hne, fun x hx => ?_, by rw [split_join]; omega⟩, by rw [split_join, ← eq_mk], ?_⟩
  · rw [splitB_eq] at hx
    simp only [List.mem_append, List.mem_map, List.mem_singleton] at hx
    rcases hx with ⟨y, hy, rfl⟩ | rfl
    · exact (sj_all c s.data.toList).2.1 y hy
    · exact (sj_all c s.data.toList).2.2
  · have h1 := jn_len c (splitB c s) hne
    rw [split_join] at h1
    omega

theorem sumSz_bound (m : Nat) : ∀ xs : List ByteArray, (∀ x ∈ xs, x.size ≤ m) → sumSz xs ≤ m * xs.length
  | [], _ => by simp [sumSz]
  | x :: xs, h => by
    have h1 := sumSz_bound m xs (fun y hy => h y (List.mem_cons_of_mem _ hy))
    have h2 := h x List.mem_cons_self
    have e : sumSz (x :: xs) = x.size + sumSz xs := by simp [sumSz]
    rw [e, List.length_cons, Nat.mul_succ]; omega
/-- JoinStrings on both sides -/
theorem join_both (xs : List ByteArray) (sep : ByteArray) (hn : xs.length + sumSz xs ≤ 1048576) : ∃ (J : ByteArray) (q : Bool), ∀ (v : Value) (w : World), RowAt w v (strs xs) →
    Calls Try.prog 20 #[v, .string sep] w (fun e w' => e = .returned (.tuple #[.string J, .bool q]) ∧ Below w.heap.size w w') ∧
    Calls Try.prog 21 #[v, .string sep] w (fun e w' => e = .returned (.tuple #[.string J, .bool q]) ∧ Below w.heap.size w w') := by
  by_cases hbad : sep.size ≠ 1 ∨ xs = []
  · refine ⟨⟨#[]⟩, false, fun v w hr => ⟨(implJoin_badsep v xs sep w hr hbad).mono ?_, (specJoin_badsep v xs sep w hr hbad).mono ?_⟩⟩
    · rintro e w' ⟨rfl, rfl⟩; exact ⟨rfl, Below.refl _ _⟩
    · rintro e w' ⟨rfl, rfl⟩; exact ⟨rfl, Below.refl _ _⟩
  · have hne : xs ≠ [] := fun h => hbad (.inr h)
    obtain ⟨c, rfl⟩ := sep_one sep (by by_cases h : sep.size = 1; exact h; exact absurd (.inl h) hbad)
    have hx : ∀ x ∈ xs, x.size ≤ 1048576 := fun x hx => by
      obtain ⟨k, hk, rfl⟩ := List.getElem_of_mem hx
      have := sumSz_bd xs k hk
      omega
    by_cases hj : Joins c xs
    · exact ⟨_, true, fun v w hr => ⟨(implJoin_any v xs c w hr hn hne).1 hj, ((specJoin_any v xs c w hr (by omega) hx hne).1 hj).mono fun _ _ ⟨h1, h2⟩ => ⟨h1, h2.below⟩⟩⟩
    · exact ⟨_, false, fun v w hr => ⟨(implJoin_any v xs c w hr hn hne).2 hj, ((specJoin_any v xs c w hr (by omega) hx hne).2 hj).mono fun _ _ ⟨h1, h2⟩ => ⟨h1, h2.below⟩⟩⟩
/-- what is split joins again -/
theorem join_split (s : ByteArray) (c : UInt8) (hs : s.size ≤ 4000) (v : Value) (w : World) (hr : RowAt w v (strs (splitB c s))) :
    Calls Try.prog 20 #[v, .string ⟨#[c]⟩] w (fun e w' => e = .returned (.tuple #[.string s, .bool true]) ∧ Below w.heap.size w w') := by
  obtain ⟨h1, h2, h3⟩ := split_joins (c := c) hs
  have := (implJoin_any v (splitB c s) c w hr h3 h1.1).1 h1
  rw [h2] at this
  exact this

/-- the order of texts -/
theorem bytesLess_asymm : ∀ a b : List UInt8, (Op.bytesLess a b && Op.bytesLess b a) = false
  | [], [] => by simp [Op.bytesLess]
  | [], _ :: _ => by simp [Op.bytesLess]
  | _ :: _, [] => by simp [Op.bytesLess]
  | x :: xs, y :: ys => by
    have ih := bytesLess_asymm xs ys
    simp only [Op.bytesLess] at *
    by_cases h1 : x < y
    · have h2 : ¬ y < x := fun h => absurd h1 (UInt8.lt_asymm h)
      simp [h1, h2]
      try (intro e; subst e; exact absurd h1 (UInt8.lt_irrefl _))
    · by_cases h2 : y < x
      · simp [h1, h2]
        try (intro e; subst e; exact absurd h2 (UInt8.lt_irrefl _))
      · simp [h1, h2]
        intro _ hx _
        rw [hx] at ih
        simpa using ih
theorem implLess_any (a b : ByteArray) (w : World) : Calls Try.prog 23 #[.string a, .string b] w fun e w' => e = .returned (.bool (Op.bytesLess a.toList b.toList)) ∧ w = w' := by
  go_enter Try.func23, Try.ntmps23
  go_wp2
  go_ret
  exact ⟨rfl, rfl⟩
theorem specLess_any (a b : ByteArray) (w : World) : Calls Try.prog 24 #[.string a, .string b] w fun e w' => e = .returned (.bool (Op.bytesLess a.toList b.toList)) ∧ w = w' := by
  go_enter Try.func24, Try.ntmps24
  go_wp2
  go_ret
  exact ⟨rfl, rfl⟩
end Go.Proofs.Ytffcgblionlhhaa
