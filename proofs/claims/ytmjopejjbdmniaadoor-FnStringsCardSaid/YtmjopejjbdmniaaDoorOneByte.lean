/-
  PLAIN FACTS: a sealed text in which one byte is changed is the seal of no text.
-/
import Derived.Test.YtmjopejjbdmniaaDoorStr
import Derived.Test.YtmjopejjbdmniaaDoorRead
namespace Go.Proofs.YtmjopejjbdmniaaDoor
open Go.RowKit
open Go.Lib

theorem step_inj (h1 h2 c : Int) (a1 : 0 ≤ h1) (b1 : h1 < 999979) (a2 : 0 ≤ h2) (b2 : h2 < 999979) (e : (41 * h1 + c + 1) % 999979 = (41 * h2 + c + 1) % 999979) : h1 = h2 := by omega
theorem step_new (h c d : Int) (hc : 0 ≤ c ∧ c < 256) (hd : 0 ≤ d ∧ d < 256) (e : (41 * h + c + 1) % 999979 = (41 * h + d + 1) % 999979) : c = d := by omega

theorem sumL_append_inj (x y z : List UInt8) (h : sumL (x ++ z) = sumL (y ++ z)) : sumL x = sumL y := by
  rcases List.eq_nil_or_concat z with rfl | ⟨t, c, rfl⟩
  · simpa using h
  · rw [List.concat_eq_append, ← List.append_assoc, ← List.append_assoc, sumL_snoc, sumL_snoc] at h
    have b1 := sumL_bd (x ++ t)
    have b2 := sumL_bd (y ++ t)
    exact sumL_append_inj x y t (step_inj _ _ _ b1.1 b1.2 b2.1 b2.2 h)
termination_by z.length
decreasing_by simp_all

theorem sumL_change (l : List UInt8) (k : Nat) (hk : k < l.length) (d : UInt8) (hd : d ≠ l[k]) : sumL (l.set k d) ≠ sumL l := by
  intro h
  have e1 : l = l.take k ++ [l[k]] ++ l.drop (k + 1) := by
    rw [List.append_assoc, List.singleton_append, List.getElem_cons_drop, List.take_append_drop]
  have e2 : l.set k d = l.take k ++ [d] ++ l.drop (k + 1) := by
    rw [List.set_eq_take_append_cons_drop, if_pos hk, List.append_assoc, List.singleton_append]
  rw [e2] at h
  conv at h => rhs; rw [e1]
  have h2 := sumL_append_inj _ _ _ h
  rw [sumL_snoc, sumL_snoc] at h2
  have h3 := step_new _ _ _ ⟨by omega, by have := d.toNat_lt; omega⟩ ⟨by omega, by have := l[k].toNat_lt; omega⟩ h2
  exact hd (UInt8.toNat_inj.1 (by omega))

theorem mark_unique : ∀ (a a' b b' : List UInt8), (35 : UInt8) ∉ a → (35 : UInt8) ∉ a' → a ++ 35 :: b = a' ++ 35 :: b' → a = a' ∧ b = b'
  | [], [], b, b', _, _, h => by simpa using h
  | [], y :: r, b, b', _, h2, h => by
    have : (35 : UInt8) = y := by simpa using congrArg List.head? h
    exact absurd (by simp [this]) h2
  | x :: r, [], b, b', h1, _, h => by
    have : x = (35 : UInt8) := by simpa using congrArg List.head? h
    exact absurd (by simp [this]) h1
  | x :: r, y :: s, b, b', h1, h2, h => by
    have e : x = y ∧ r ++ 35 :: b = s ++ 35 :: b' := by simpa using h
    obtain ⟨e1, e2⟩ := mark_unique r s b b' (fun m => h1 (by simp [m])) (fun m => h2 (by simp [m])) e.2
    exact ⟨by rw [e.1, e1], e2⟩

theorem itoaSum_good (l : List UInt8) : (35 : UInt8) ∉ itoa (sumL l) ∧ digV (itoa (sumL l)) = sumL l := by
  obtain ⟨k, hk⟩ := Int.eq_ofNat_of_zero_le (sumL_bd l).1
  rw [hk, itoa_nonneg]
  obtain ⟨g1, g2⟩ := decDigits_good k
  exact ⟨fun m => by have := g1 35 m; revert this; decide, g2⟩

theorem not_sealed (x t : List UInt8) (k : Nat) (d : UInt8) (hx : (35 : UInt8) ∉ x) (ht : (35 : UInt8) ∉ t) (hk : k < (sealL x).length) (hd : d ≠ (sealL x)[k]) : (sealL x).set k d ≠ sealL t := by
  intro h
  obtain ⟨gx, dx⟩ := itoaSum_good x
  obtain ⟨gt, dt⟩ := itoaSum_good t
  have ex : sealL x = x ++ 35 :: itoa (sumL x) := by simp [sealL]
  have et : sealL t = t ++ 35 :: itoa (sumL t) := by simp [sealL]
  rw [et] at h
  rcases Nat.lt_trichotomy k x.length with h1 | h1 | h1
  · have hd' : d ≠ x[k] := by
      intro e; apply hd; rw [e]; simp only [ex]; rw [List.getElem_append_left h1]
    have es : (sealL x).set k d = x.set k d ++ 35 :: itoa (sumL x) := by rw [ex, List.set_append_left k d h1]
    rw [es] at h
    by_cases h35 : d = 35
    · have e2 : x.set k d = x.take k ++ 35 :: x.drop (k + 1) := by rw [List.set_eq_take_append_cons_drop, if_pos h1, h35]
      rw [e2, List.append_assoc, List.cons_append] at h
      obtain ⟨_, e3⟩ := mark_unique _ _ _ _ (fun m => hx (List.mem_of_mem_take m)) ht h
      exact gt (by rw [← e3]; simp)
    · have hno : (35 : UInt8) ∉ x.set k d := by
        intro m
        rcases List.mem_or_eq_of_mem_set m with m | m
        · exact hx m
        · exact h35 m.symm
      obtain ⟨e1, e2⟩ := mark_unique _ _ _ _ hno ht h
      have : sumL (x.set k d) = sumL x := by rw [e1, ← dt, ← e2, dx]
      exact sumL_change x k h1 d hd' this
  · have hd' : d ≠ 35 := by
      intro e; apply hd; rw [e]; simp only [ex]; rw [List.getElem_append_right (by omega)]; simp [h1]
    have es : (sealL x).set k d = x ++ d :: itoa (sumL x) := by
      rw [ex, List.set_append_right k d (by omega)]; simp [h1]
    rw [es] at h
    have m : (35 : UInt8) ∈ x ++ d :: itoa (sumL x) := by rw [h]; simp
    rcases List.mem_append.1 m with m | m
    · exact hx m
    · rcases List.mem_cons.1 m with m | m
      · exact hd' m.symm
      · exact gx m
  · obtain ⟨j, hj⟩ : ∃ j, k = x.length + 1 + j := ⟨k - x.length - 1, by omega⟩
    have es : (sealL x).set k d = x ++ 35 :: (itoa (sumL x)).set j d := by
      rw [ex, List.set_append_right k d (by omega), hj, show x.length + 1 + j - x.length = j + 1 by omega]; rfl
    have hjl : j < (itoa (sumL x)).length := by rw [ex] at hk; simp at hk; omega
    have hd' : d ≠ (itoa (sumL x))[j] := by
      intro e; apply hd; rw [e]; simp only [ex]; rw [List.getElem_append_right (by omega)]; simp [hj, show x.length + 1 + j - x.length = j + 1 by omega]
    rw [es] at h
    obtain ⟨e1, e2⟩ := mark_unique _ _ _ _ hx ht h
    subst e1
    have := congrArg (fun l => l[j]?) e2
    simp [hjl] at this
    exact hd' this
end Go.Proofs.YtmjopejjbdmniaaDoor
