/-
  PLAIN FACTS on the reading of decimal texts, of no program: the model's reading 'readL' gives n exactly for the text of n, |n| at most 999999.
-/
import Derived.Test.YtmjopejjbdmniaaDoorStr
import Derived.Lib.AtoiTie
import Derived.Lib.AtoiAllCases
namespace Go.Proofs.YtmjopejjbdmniaaDoor
open Go.RowKit
open Go.Lib

def digV (l : List UInt8) : Int := l.foldl (fun n c => 10 * n + ((c.toNat : Int) - 48)) 0
def allDig (l : List UInt8) : Prop := ∀ c ∈ l, 48 ≤ c.toNat ∧ c.toNat ≤ 57
theorem digV_snoc (l : List UInt8) (c : UInt8) : digV (l ++ [c]) = 10 * digV l + ((c.toNat : Int) - 48) := by simp [digV, List.foldl_append]
theorem allDig_snoc (l : List UInt8) (c : UInt8) : allDig (l ++ [c]) ↔ allDig l ∧ 48 ≤ c.toNat ∧ c.toNat ≤ 57 := by
  unfold allDig; constructor
  · intro h; exact ⟨fun d hd => h d (by simp [hd]), h c (by simp)⟩
  · rintro ⟨h1, h2⟩ d hd
    rcases List.mem_append.1 hd with h | h
    · exact h1 d h
    · obtain rfl : d = c := by simpa using h
      exact h2
theorem digV_bd (l : List UInt8) (h : allDig l) : 0 ≤ digV l ∧ digV l < 10 ^ l.length := by
  rcases List.eq_nil_or_concat l with rfl | ⟨t, c, rfl⟩
  · simp [digV]
  · rw [List.concat_eq_append] at h ⊢
    obtain ⟨h1, h2, h3⟩ := (allDig_snoc t c).1 h
    have ih := digV_bd t h1
    rw [digV_snoc, List.length_append, List.length_singleton, Int.pow_succ]
    omega
termination_by l.length
decreasing_by simp_all
theorem digV_lt6 (l : List UInt8) (h : allDig l) (h6 : l.length ≤ 6) : 0 ≤ digV l ∧ digV l ≤ 999999 := by
  have hb := digV_bd l h
  have hp : (10 : Int) ^ l.length ≤ 10 ^ 6 := by
    have : (10 : Nat) ^ l.length ≤ 10 ^ 6 := Nat.pow_le_pow_right (by decide) h6
    exact_mod_cast this
  omega

theorem dig_byte (r : Nat) (h : r < 10) : (UInt8.ofNat (48 + r)).toNat = 48 + r := by
  rw [UInt8.toNat_ofNat']; omega
theorem decDigits_good (k : Nat) : allDig (decDigits k) ∧ digV (decDigits k) = k := by
  induction k using Nat.strongRecOn with
  | _ k ih =>
    by_cases h : k < 10
    · rw [decDigits, dif_pos h]
      have := dig_byte k h
      refine ⟨fun c hc => ?_, ?_⟩
      · obtain rfl : c = UInt8.ofNat (48 + k) := by simpa using hc
        omega
      · have e : digV [UInt8.ofNat (48 + k)] = 10 * 0 + (((UInt8.ofNat (48 + k)).toNat : Int) - 48) := rfl
        rw [e, this]; omega
    · rw [decDigits, dif_neg h]
      obtain ⟨h1, h2⟩ := ih (k / 10) (by omega)
      have := dig_byte (k % 10) (by omega)
      refine ⟨(allDig_snoc _ _).2 ⟨h1, by omega⟩, ?_⟩
      rw [digV_snoc, h2, this]; omega
theorem nDigits_le6 (k : Nat) (h : k ≤ 999999) : nDigits k ≤ 6 := by
  by_cases h0 : k = 0
  · subst h0; rw [nDigits_small (by decide)]; decide
  · by_cases h7 : nDigits k ≤ 6
    · exact h7
    · exfalso
      obtain ⟨m, hm1, hm2⟩ : ∃ m, 10 ^ m ≤ k ∧ k < 10 ^ (m + 1) := by
        refine ⟨nDigits k - 1, ?_, ?_⟩
        · have : ∀ u : Nat, 1 ≤ u → 10 ^ (nDigits u - 1) ≤ u := by
            intro u
            induction u using Nat.strongRecOn with
            | _ u ih =>
              intro hu
              by_cases hs : u < 10
              · rw [nDigits_small hs]; simpa using hu
              · rw [nDigits_big hs]
                have h1 := ih (u / 10) (by omega) (by omega)
                have h2 := nDigits_pos (u / 10)
                obtain ⟨j, hj⟩ : ∃ j, nDigits (u / 10) = j + 1 := ⟨nDigits (u / 10) - 1, by omega⟩
                rw [hj] at h1 ⊢
                simp only [Nat.add_sub_cancel] at h1 ⊢
                rw [Nat.pow_succ]; omega
          exact this k (by omega)
        · have := lt_pow_nDigits k
          rw [show nDigits k - 1 + 1 = nDigits k by have := nDigits_pos k; omega]
          exact this
      have e := nDigits_unique m k hm1 hm2
      have : 10 ^ 6 ≤ 10 ^ m := Nat.pow_le_pow_right (by decide) (by omega)
      omega

/-- the part behind a minus sign, if there is one -/
def restL (l : List UInt8) : List UInt8 := if 1 < l.length ∧ l.head? = some 45 then l.tail else l
def signV (l : List UInt8) : Int := if (restL l).length < l.length then -digV (restL l) else digV (restL l)
/-- the text of a number within the bounds -/
def TextOf (l : List UInt8) (n : Int) : Prop := -999999 ≤ n ∧ n ≤ 999999 ∧ itoa n = l

/-- the model's reading: the number and whether there is one -/
def readV (l : List UInt8) : Int × Bool := if 1 ≤ (restL l).length ∧ (restL l).length ≤ 6 ∧ (∀ c ∈ restL l, 48 ≤ c.toNat ∧ c.toNat ≤ 57) ∧ itoa (signV l) = l then (signV l, true) else (0, false)
theorem readV_yes {l : List UInt8} (h1 : 1 ≤ (restL l).length) (h2 : (restL l).length ≤ 6) (h3 : allDig (restL l)) (h4 : itoa (signV l) = l) : readV l = (signV l, true) := if_pos ⟨h1, h2, h3, h4⟩
theorem readV_len {l : List UInt8} (h : (restL l).length < 1 ∨ 6 < (restL l).length) : readV l = (0, false) := if_neg (by omega)
theorem readV_dig {l : List UInt8} (h : ¬ allDig (restL l)) : readV l = (0, false) := if_neg (fun g => h g.2.2.1)
theorem readV_text {l : List UInt8} (h : itoa (signV l) ≠ l) : readV l = (0, false) := if_neg (fun g => h g.2.2.2)

theorem restL_itoa (n : Int) (h0 : -999999 ≤ n) (h1 : n ≤ 999999) : 1 ≤ (restL (itoa n)).length ∧ (restL (itoa n)).length ≤ 6 ∧ allDig (restL (itoa n)) ∧ signV (itoa n) = n := by
  by_cases hn : 0 ≤ n
  · obtain ⟨k, rfl⟩ := Int.eq_ofNat_of_zero_le hn
    obtain ⟨g1, g2⟩ := decDigits_good k
    have hr : restL (itoa (k : Int)) = decDigits k := by
      rw [itoa_nonneg, restL]
      rw [if_neg]
      rintro ⟨_, h⟩
      have := g1 45 (List.mem_of_mem_head? h)
      revert this; decide
    have e : signV (itoa (k : Int)) = k := by
      rw [signV, hr, itoa_nonneg, if_neg (by omega), g2]
    rw [e, hr, decDigits_length]
    exact ⟨nDigits_pos k, nDigits_le6 k (by omega), g1, rfl⟩
  · obtain ⟨k, hk⟩ : ∃ k : Nat, n = -(k : Int) := ⟨n.natAbs, by omega⟩
    subst hk
    obtain ⟨g1, g2⟩ := decDigits_good k
    have hl := decDigits_length k
    have hp := nDigits_pos k
    have hr : restL (itoa (-(k : Int))) = decDigits k := by
      rw [itoa_neg k (by omega), restL, if_pos ⟨by simp; omega, rfl⟩]
      rfl
    have e : signV (itoa (-(k : Int))) = -(k : Int) := by
      rw [signV, hr, itoa_neg k (by omega), if_pos (by simp), g2]
    rw [e, hr, hl]
    exact ⟨hp, nDigits_le6 k (by omega), g1, rfl⟩

theorem readV_of {l : List UInt8} {n : Int} (h : TextOf l n) : readV l = (n, true) := by
  obtain ⟨h0, h1, rfl⟩ := h
  obtain ⟨g1, g2, g3, g4⟩ := restL_itoa n h0 h1
  rw [readV_yes g1 g2 g3 (by rw [g4]), g4]
theorem readV_none {l : List UInt8} (h : ∀ n, ¬ TextOf l n) : readV l = (0, false) := by
  unfold readV
  refine if_neg fun g => ?_
  obtain ⟨_, g2, g3, g4⟩ := g
  have hb := digV_lt6 (restL l) g3 g2
  refine h (signV l) ⟨?_, ?_, g4⟩ <;> · unfold signV; split <;> omega

/-! the library's reading of such a text -/
theorem decFrom_snoc (l : List UInt8) (b : UInt8) : ∀ acc, decFrom acc (l ++ [b]) = (decFrom acc l).bind fun n => (digitVal b).map fun d => n * 10 + d := by
  induction l with
  | nil => intro acc; cases h : digitVal b <;> simp [decFrom, h]
  | cons a t ih =>
    intro acc
    cases h : digitVal a with
    | none => simp [decFrom, h]
    | some d => simp [decFrom, h, ih]
theorem decFrom_digits (k : Nat) : decFrom 0 (decDigits k) = some k := by
  induction k using Nat.strongRecOn with
  | _ k ih =>
    by_cases h : k < 10
    · rw [decDigits, dif_pos h]
      have := dig_byte k h
      simp only [decFrom, digitVal]
      rw [this, if_pos (by omega)]
      show some (0 * 10 + (48 + k - 48)) = some k
      congr 1; omega
    · rw [decDigits, dif_neg h, decFrom_snoc, ih (k / 10) (by omega)]
      have := dig_byte (k % 10) (by omega)
      have hd : digitVal (UInt8.ofNat (48 + k % 10)) = some (k % 10) := by
        rw [digitVal, if_pos (by omega)]; congr 1; omega
      rw [hd]
      simp; omega
theorem atoiAll_itoa (n : Int) (h0 : -999999 ≤ n) (h1 : n ≤ 999999) : atoiAll (itoa n) = .ok n := by
  by_cases hn : 0 ≤ n
  · obtain ⟨k, rfl⟩ := Int.eq_ofNat_of_zero_le hn
    have hl := decDigits_length k
    have h6 := nDigits_le6 k (by omega)
    rw [itoa_nonneg, atoiAll_short _ (by omega)]
    have g1 := (decDigits_good k).1
    have hd := decFrom_digits k
    cases hc : decDigits k with
    | nil => rw [hc] at hl; have := nDigits_pos k; simp at hl; omega
    | cons b r =>
      have hb := g1 b (by rw [hc]; simp)
      have b1 : (b == 45) = false := by
        rw [beq_eq_false_iff_ne]; rintro rfl; revert hb; decide
      have b2 : (b == 43) = false := by
        rw [beq_eq_false_iff_ne]; rintro rfl; revert hb; decide
      rw [hc] at hd
      simp [atoi, b1, b2, decNat, hd, NumEnd.ofOption]
  · obtain ⟨k, hk⟩ : ∃ k : Nat, n = -(k : Int) := ⟨n.natAbs, by omega⟩
    subst hk
    have hl := decDigits_length k
    have h6 := nDigits_le6 k (by omega)
    rw [itoa_neg k (by omega), atoiAll_short _ (by simp; omega)]
    have hd := decFrom_digits k
    have hne : decDigits k ≠ [] := by intro h; rw [h] at hl; have := nDigits_pos k; simp at hl; omega
    simp [atoi, decNat, hd, NumEnd.ofOption, hne]
end Go.Proofs.YtmjopejjbdmniaaDoor
