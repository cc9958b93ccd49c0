/-
  PLAIN FACTS on ascending lists of numbers: two with the same members are one; entering keeps a list ascending.
-/
import Derived.Test.YtniankcjgcackaaPut
import Derived.Test.YtniankcjgcackaaAscP
namespace Go.Proofs.Ytniankcjgcackaa

theorem putL_cons (x y : Int) (ys : List Int) : putL x (y :: ys) = if y < x then y :: putL x ys else if y = x then y :: ys else x :: y :: ys := by
  by_cases hy : y < x
  · have e : putAt x (y :: ys) = putAt x ys + 1 := by simp [putAt, hy]
    rw [if_pos hy]
    unfold putL
    rw [e]
    simp only [List.getElem?_cons_succ, List.take_succ_cons, List.drop_succ_cons, List.cons_append]
    split <;> rfl
  · have e : putAt x (y :: ys) = 0 := by simp [putAt, hy]
    rw [if_neg hy]
    unfold putL
    rw [e]
    simp only [List.getElem?_cons_zero, Option.some.injEq, List.take_zero, List.drop_zero, List.nil_append, List.singleton_append]
theorem putL_mem (x : Int) : ∀ (xs : List Int) (z : Int), z ∈ putL x xs ↔ z = x ∨ z ∈ xs
  | [], z => by simp [putL, putAt]
  | y :: ys, z => by
    rw [putL_cons]
    split
    · rw [List.mem_cons, putL_mem x ys z, List.mem_cons]
      constructor
      · rintro (h | h | h) <;> simp [h]
      · rintro (h | h | h) <;> simp [h]
    · split
      · rename_i e
        subst e
        constructor
        · intro h; exact .inr h
        · rintro (h | h)
          · simp [h]
          · exact h
      · simp
theorem putL_asc (x : Int) : ∀ (xs : List Int), AscI xs → AscI (putL x xs)
  | [], _ => by simp [putL, putAt, AscI]
  | y :: ys, h => by
    have h' := List.pairwise_cons.1 h
    rw [putL_cons]
    split
    · rename_i hy
      refine List.pairwise_cons.2 ⟨fun z hz => ?_, putL_asc x ys h'.2⟩
      rcases (putL_mem x ys z).1 hz with e | g
      · rw [e]; exact hy
      · exact h'.1 z g
    · split
      · exact h
      · rename_i h1 h2
        refine List.pairwise_cons.2 ⟨fun z hz => ?_, h⟩
        rcases List.mem_cons.1 hz with e | g
        · rw [e]; omega
        · have := h'.1 z g; omega
end Go.Proofs.Ytniankcjgcackaa
