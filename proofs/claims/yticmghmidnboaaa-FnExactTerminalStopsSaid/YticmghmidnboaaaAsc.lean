/-
  PLAIN FACTS on ascending lists of numbers: two with the same members are one; entering keeps a list ascending.
-/
import Derived.Test.YticmghmidnboaaaPut
namespace Go.Proofs.Yticmghmidnboaaa

def Asc (xs : List Int) : Prop := xs.Pairwise (· < ·)
theorem asc_ext : ∀ {xs ys : List Int}, Asc xs → Asc ys → (∀ x, x ∈ xs ↔ x ∈ ys) → xs = ys
  | [], [], _, _, _ => rfl
  | [], y :: ys, _, _, h => absurd ((h y).2 (by simp)) (by simp)
  | x :: xs, [], _, _, h => absurd ((h x).1 (by simp)) (by simp)
  | x :: xs, y :: ys, hx, hy, h => by
    have hx' := List.pairwise_cons.1 hx
    have hy' := List.pairwise_cons.1 hy
    have e : x = y := by
      have h1 := (h x).1 (by simp)
      have h2 := (h y).2 (by simp)
      rcases List.mem_cons.1 h1 with e | g1
      · exact e
      · rcases List.mem_cons.1 h2 with e | g2
        · exact e.symm
        · have := hy'.1 x g1; have := hx'.1 y g2; omega
    subst e
    rw [asc_ext hx'.2 hy'.2 fun z => ?_]
    constructor
    · intro hz
      rcases List.mem_cons.1 ((h z).1 (by simp [hz])) with e | g
      · have := hx'.1 z hz; omega
      · exact g
    · intro hz
      rcases List.mem_cons.1 ((h z).2 (by simp [hz])) with e | g
      · have := hy'.1 z hz; omega
      · exact g
theorem putL_cons (x y : Int) (ys : List Int) : putL x (y :: ys) = if y < x then y :: putL x ys else if y = x then y :: ys else x :: y :: ys := by
  by_cases hy : y < x
  · have e : putAt x (y :: ys) = putAt x ys + 1 := by simp [putAt, hy]
    rw [if_pos hy]
    unfold putL
    rw [e]
    simp only [List.getElem?_cons_succ, List.take_succ_cons, List.drop_succ_cons, List.cons_append]
    split <;> rfl
  · have e : putAt x (y :: ys) = 0 := by simp [putAt, hy]
    rw [if_neg hy]
    unfold putL
    rw [e]
    simp only [List.getElem?_cons_zero, Option.some.injEq, List.take_zero, List.drop_zero, List.nil_append, List.singleton_append]
theorem putL_mem (x : Int) : ∀ (xs : List Int) (z : Int), z ∈ putL x xs ↔ z = x ∨ z ∈ xs
  | [], z => by simp [putL, putAt]
  | y :: ys, z => by
    rw [putL_cons]
    split
    · rw [List.mem_cons, putL_mem x ys z, List.mem_cons]
      constructor
      · rintro (h | h | h) <;> simp [h]
      · rintro (h | h | h) <;> simp [h]
    · split
      · rename_i e
        subst e
        constructor
        · intro h; exact .inr h
        · rintro (h | h)
          · simp [h]
          · exact h
      · simp
theorem putL_asc (x : Int) : ∀ (xs : List Int), Asc xs → Asc (putL x xs)
  | [], _ => by simp [putL, putAt, Asc]
  | y :: ys, h => by
    have h' := List.pairwise_cons.1 h
    rw [putL_cons]
    split
    · rename_i hy
      refine List.pairwise_cons.2 ⟨fun z hz => ?_, putL_asc x ys h'.2⟩
      rcases (putL_mem x ys z).1 hz with e | g
      · rw [e]; exact hy
      · exact h'.1 z g
    · split
      · exact h
      · rename_i h1 h2
        refine List.pairwise_cons.2 ⟨fun z hz => ?_, h⟩
        rcases List.mem_cons.1 hz with e | g
        · rw [e]; omega
        · have := h'.1 z g; omega
end Go.Proofs.Yticmghmidnboaaa
