/-
  JOINED TEXTS, each under its own namespace line: HeadQ, IsValidNetwork.
-/
import Derived.Test.YtfgkfdkdjegaiaaHeadP
import Derived.Test.YtfgkfdkdjegaiaaMk17
namespace Go.Proofs.Ytfgkfdkdjegaiaa
set_option linter.unusedVariables false
set_option linter.unusedSimpArgs false

/-- asked rightly, at a stop of the network -/
noncomputable def askG (n : NetD) (p : Int) (xs : List PatternD) (stop : Int) : Bool := patsB n p xs && (decide (0 ≤ stop) && decide (stop < (n.stops.length : Int)))
theorem askG_yes {n : NetD} {p : Int} {xs : List PatternD} {stop : Int} (h : PatsGood n p xs) (h0 : 0 ≤ stop) (h1 : stop < (n.stops.length : Int)) : askG n p xs stop = true := by unfold askG; rw [patsB_yes h]; simp [h0, h1]
theorem askG_no {n : NetD} {p : Int} {xs : List PatternD} {stop : Int} (h : ¬ (PatsGood n p xs ∧ 0 ≤ stop ∧ stop < (n.stops.length : Int))) : askG n p xs stop = false := by
  cases hb : askG n p xs stop with
  | false => rfl
  | true =>
    exfalso; unfold askG at hb; simp only [Bool.and_eq_true, decide_eq_true_eq] at hb
    exact h ⟨patsB_iff hb.1, hb.2⟩
theorem askG_iff {n : NetD} {p : Int} {xs : List PatternD} {stop : Int} (h : askG n p xs stop = true) : PatsGood n p xs ∧ 0 ≤ stop ∧ stop < (n.stops.length : Int) := by
  unfold askG at h; simp only [Bool.and_eq_true, decide_eq_true_eq] at h
  exact ⟨patsB_iff h.1, h.2⟩
noncomputable def prF (n : NetD) (p : Int) (xs : List PatternD) (stop : Int) : List Int := if askG n p xs stop then restS n p xs stop else []
noncomputable def gpF (n : NetD) (p : Int) (xs : List PatternD) (stop : Int) : List Int := gaps (prF n p xs stop) p
theorem prF_mem {n : NetD} {p : Int} {xs : List PatternD} {stop : Int} : ∀ r ∈ prF n p xs stop, 0 ≤ r ∧ r < p := by
  intro r hr
  unfold prF at hr
  cases h : askG n p xs stop with
  | false => rw [h] at hr; simp at hr
  | true => rw [h] at hr; simp at hr; exact restS_mem (askG_iff h).1.2.1.1 r hr
theorem prF_sorted (n : NetD) (p : Int) (xs : List PatternD) (stop : Int) : Sorted (prF n p xs stop) := by
  unfold prF; split
  · exact restS_sorted n p xs stop
  · intro i j hij hj; simp at hj
theorem prF_len (n : NetD) (p : Int) (xs : List PatternD) (stop : Int) : (prF n p xs stop).length ≤ 3 := by
  unfold prF
  cases h : askG n p xs stop with
  | false => simp
  | true => simp; exact Nat.le_trans (restS_len n p xs stop) (askG_iff h).1.2.2.1.2
theorem prF_ask {n : NetD} {p : Int} {xs : List PatternD} {stop : Int} (h : 0 < (prF n p xs stop).length) : askG n p xs stop = true := by
  cases ha : askG n p xs stop with
  | true => rfl
  | false => unfold prF at h; rw [ha] at h; simp at h
theorem prF_p {n : NetD} {p : Int} {xs : List PatternD} {stop : Int} (h : 0 < (prF n p xs stop).length) : 1 ≤ p ∧ p ≤ 60 := (askG_iff (prF_ask h)).1.2.1

/-- some pattern serves the stop -/
noncomputable def servB (n : NetD) (p : Int) (xs : List PatternD) (stop : Int) : Bool := decide (0 < (prF n p xs stop).length)
noncomputable def dwF (n : NetD) (p : Int) (xs : List PatternD) (stop : Int) : Int × Int := if servB n p xs stop then (sqs (gpF n p xs stop), p) else (0, 0)
noncomputable def lgF (n : NetD) (p : Int) (xs : List PatternD) (stop : Int) : Int × Int := if servB n p xs stop then (lgV (gpF n p xs stop), (prF n p xs stop).getD (lgI (gpF n p xs stop)) 0) else (0, 0)
noncomputable def unB (n : NetD) (p : Int) (xs : List PatternD) (stop : Int) : Bool := servB n p xs stop && decide (((prF n p xs stop).length : Int) ≤ p)
noncomputable def unF (n : NetD) (p : Int) (xs : List PatternD) (stop : Int) : Int := if unB n p xs stop then unev (prF n p xs stop) p else 0
def evB (c p : Int) : Bool := decide (1 ≤ p ∧ p ≤ 60) && decide (1 ≤ c ∧ c ≤ p)
def evF (c p : Int) : List Int := if evB c p then evenL c.toNat p else []

/-! places of meeting -/
def meetK (A B : Nat → Int) : Nat → List Int
  | 0 => []
  | k + 1 => meetK A B k ++ (if B k = A k then [(k : Int)] else [])
theorem meetK_len (A B : Nat → Int) : ∀ k, (meetK A B k).length ≤ k
  | 0 => Nat.le_refl _
  | k + 1 => by have := meetK_len A B k; simp only [meetK, List.length_append]; split <;> simp <;> omega
theorem meetK_yes {A B : Nat → Int} {k : Nat} (h : B k = A k) : meetK A B (k + 1) = meetK A B k ++ [(k : Int)] := by simp [meetK, h]
theorem meetK_no {A B : Nat → Int} {k : Nat} (h : ¬ B k = A k) : meetK A B (k + 1) = meetK A B k := by simp [meetK, h]
def pt (xs : List PatternD) (a : Int) : PatternD := xs.getD a.toNat ⟨0, 0⟩
theorem pt_at {xs : List PatternD} {k : Nat} (hk : k < xs.length) : pt xs (k : Int) = xs[k] := by simp [pt, List.getD, hk]
def rsAt (n : NetD) (p : Int) (x : PatternD) (stops : List Int) (k : Nat) : Int := restI n p x (stops.getD k 0)
noncomputable def mtB (n : NetD) (p : Int) (xs : List PatternD) (a b : Int) : Bool := patsB n p xs && (decide (0 ≤ a ∧ a < (xs.length : Int)) && decide (0 ≤ b ∧ b < (xs.length : Int)))
noncomputable def mtF (n : NetD) (p : Int) (xs : List PatternD) (a b : Int) : List Int :=
  if mtB n p xs a b then
    let st := (lnI n (pt xs a).line).stops
    meetK (rsAt n p (pt xs a) st) (rsAt n p (pt xs b) st) st.length
  else []
theorem mtB_yes {n : NetD} {p : Int} {xs : List PatternD} {a b : Int} (h : PatsGood n p xs) (h1 : 0 ≤ a ∧ a < (xs.length : Int)) (h2 : 0 ≤ b ∧ b < (xs.length : Int)) : mtB n p xs a b = true := by
  unfold mtB; rw [patsB_yes h]; simp only [Bool.true_and, Bool.and_eq_true, decide_eq_true_eq]; exact ⟨h1, h2⟩
theorem mtB_no {n : NetD} {p : Int} {xs : List PatternD} {a b : Int} (h : ¬ (PatsGood n p xs ∧ (0 ≤ a ∧ a < (xs.length : Int)) ∧ (0 ≤ b ∧ b < (xs.length : Int)))) : mtB n p xs a b = false := by
  cases hb : mtB n p xs a b with
  | false => rfl
  | true =>
    exfalso; unfold mtB at hb; simp only [Bool.and_eq_true, decide_eq_true_eq] at hb
    exact h ⟨patsB_iff hb.1, hb.2⟩

/-! minutes of a change -/
theorem mod_two {x p : Int} (h0 : 0 ≤ x) (h1 : x < p + p) : x % p = if x < p then x else x - p := by
  split
  · exact Int.emod_eq_of_lt h0 (by omega)
  · rw [show x = (x - p) + p * 1 by omega, Int.add_mul_emod_self_left]
    rw [Int.emod_eq_of_lt (by omega) (by omega)]; omega
/-- how long until the rest comes -/
def twD (r walk tgt p : Int) : Int := (tgt - (r + walk) % p + p) % p
theorem twD_in {r walk tgt p : Int} (hp : 1 ≤ p) : 0 ≤ twD r walk tgt p ∧ twD r walk tgt p < p := ⟨Int.emod_nonneg _ (by omega), Int.emod_lt_of_pos _ (by omega)⟩
theorem tw_iff {r walk tgt p : Int} (hp : 1 ≤ p) (ht : 0 ≤ tgt ∧ tgt < p) {j : Int} (hj : 0 ≤ j) (hjd : j ≤ twD r walk tgt p) : (r + (walk + j)) % p = tgt ↔ j = twD r walk tgt p := by
  have hf0 := Int.emod_nonneg (r + walk) (show p ≠ 0 by omega)
  have hf1 := Int.emod_lt_of_pos (r + walk) (show 0 < p by omega)
  have hd := twD_in (r := r) (walk := walk) (tgt := tgt) hp
  have e1 : (r + (walk + j)) % p = ((r + walk) % p + j) % p := by
    rw [show r + (walk + j) = (r + walk) + j by omega, Int.emod_add_emod]
  unfold twD at *
  rw [e1, mod_two (by omega) (by omega)]
  rw [mod_two (x := tgt - (r + walk) % p + p) (by omega) (by omega)] at *
  split <;> split at * <;> omega
noncomputable def twB (n : NetD) (p : Int) (xs : List PatternD) (a b stop walk : Int) : Bool :=
  mtB n p xs a b && (decide (0 ≤ stop ∧ stop < (n.stops.length : Int)) && (decide (a ≠ b) && (decide (0 ≤ walk ∧ walk ≤ 60) &&
    decide (1 ≤ fstIdx stop (lnI n (pt xs a).line).stops ∧ 0 ≤ fstIdx stop (lnI n (pt xs b).line).stops ∧ fstIdx stop (lnI n (pt xs b).line).stops ≠ ((lnI n (pt xs b).line).stops.length : Int) - 1))))
noncomputable def twF (n : NetD) (p : Int) (xs : List PatternD) (a b stop walk : Int) : Int :=
  if twB n p xs a b stop walk then walk + twD (restI n p (pt xs a) stop) walk (restI n p (pt xs b) stop) p else 0
end Go.Proofs.Ytfgkfdkdjegaiaa

namespace Go.Proofs.Ytfgkfdkdjegaiaa
open Go.RowKit
set_option linter.unusedVariables false

end Go.Proofs.Ytfgkfdkdjegaiaa
