import Derived.Test.YtfgkfdkdjegaiaaMk11
import Derived.Test.YtfgkfdkdjegaiaaMk22
namespace Go.Proofs.Ytfgkfdkdjegaiaa
set_option linter.unusedVariables false
set_option linter.unusedSimpArgs false

def PatEach (n : NetD) (p : Int) (x : PatternD) : Prop := (0 ≤ x.line ∧ x.line < (n.lines.length : Int)) ∧ (0 ≤ x.offs ∧ x.offs < p)
def PatsGood (n : NetD) (p : Int) (xs : List PatternD) : Prop := NetGood n ∧ (1 ≤ p ∧ p ≤ 60) ∧ (1 ≤ xs.length ∧ xs.length ≤ 3) ∧ ∀ k (hk : k < xs.length), PatEach n p xs[k]
noncomputable def patsB (n : NetD) (p : Int) (xs : List PatternD) : Bool := @decide (PatsGood n p xs) (Classical.propDecidable _)
theorem patsB_yes {n : NetD} {p : Int} {xs : List PatternD} (h : PatsGood n p xs) : patsB n p xs = true := by unfold patsB; exact @decide_eq_true _ (Classical.propDecidable _) h
theorem patsB_no {n : NetD} {p : Int} {xs : List PatternD} (h : ¬ PatsGood n p xs) : patsB n p xs = false := by unfold patsB; exact @decide_eq_false _ (Classical.propDecidable _) h
theorem patsB_iff {n : NetD} {p : Int} {xs : List PatternD} (h : patsB n p xs = true) : PatsGood n p xs := by unfold patsB at h; exact @of_decide_eq_true _ (Classical.propDecidable _) h

def lnI (n : NetD) (i : Int) : LineD := n.lines.getD i.toNat ⟨.empty, [], []⟩
theorem lnI_at {n : NetD} {i : Int} {k : Nat} (h : i = k) (hk : k < n.lines.length) : lnI n i = n.lines[k] := by
  subst h; simp [lnI, List.getD, hk]
def restI (n : NetD) (p : Int) (x : PatternD) (stop : Int) : Int :=
  if fstIdx stop (lnI n x.line).stops < 0 then -1 else (x.offs + runSum (lnI n x.line) 0 (fstIdx stop (lnI n x.line).stops).toNat) % p
theorem rest_no {n : NetD} {p : Int} {x : PatternD} {stop : Int} (h : fstIdx stop (lnI n x.line).stops < 0) : restI n p x stop = -1 := if_pos h
theorem rest_yes {n : NetD} {p : Int} {x : PatternD} {stop : Int} {k : Nat} (h : fstIdx stop (lnI n x.line).stops = k) : restI n p x stop = (x.offs + runSum (lnI n x.line) 0 k) % p := by
  unfold restI; rw [if_neg (by omega), h]; rfl
theorem rest_in {n : NetD} {p : Int} (hp : 1 ≤ p) (x : PatternD) (stop : Int) : -1 ≤ restI n p x stop ∧ restI n p x stop < p := by
  unfold restI; split
  · omega
  · have h1 := Int.emod_nonneg (x.offs + runSum (lnI n x.line) 0 (fstIdx stop (lnI n x.line).stops).toNat) (show p ≠ 0 by omega)
    have h2 := Int.emod_lt_of_pos (x.offs + runSum (lnI n x.line) 0 (fstIdx stop (lnI n x.line).stops).toNat) (show 0 < p by omega)
    omega
theorem rest_neg {n : NetD} {p : Int} (hp : 1 ≤ p) {x : PatternD} {stop : Int} : restI n p x stop < 0 ↔ fstIdx stop (lnI n x.line).stops < 0 := by
  constructor
  · intro h
    by_cases hf : fstIdx stop (lnI n x.line).stops < 0
    · exact hf
    · exfalso
      unfold restI at h; rw [if_neg hf] at h
      have h1 := Int.emod_nonneg (x.offs + runSum (lnI n x.line) 0 (fstIdx stop (lnI n x.line).stops).toNat) (show p ≠ 0 by omega)
      omega
  · intro h; rw [rest_no h]; omega

def insAll (R : List Int) : List Int := R.foldl (fun L x => insF x L) []
theorem insAll_snoc (R : List Int) (x : Int) : insAll (R ++ [x]) = insF x (insAll R) := by simp [insAll]
theorem insAll_both (R : List Int) : Sorted (insAll R) ∧ (insAll R).Perm R := by
  have key : ∀ (R L : List Int), Sorted L → Sorted (R.foldl (fun L x => insF x L) L) ∧ (R.foldl (fun L x => insF x L) L).Perm (L ++ R) := by
    intro R
    induction R with
    | nil => intro L h; exact ⟨h, by simp⟩
    | cons x R ih =>
      intro L h
      obtain ⟨h1, h2⟩ := ih (insF x L) (insF_sorted h)
      refine ⟨h1, ?_⟩
      refine h2.trans ?_
      refine ((insF_perm x L).append_right R).trans ?_
      simp only [List.cons_append]
      exact (List.perm_middle (a := x) (l₁ := L) (l₂ := R)).symm
  have := key R [] (fun i j hij hj => by simp at hj)
  simpa [insAll] using this
theorem insAll_sorted (R : List Int) : Sorted (insAll R) := (insAll_both R).1
theorem insAll_perm (R : List Int) : (insAll R).Perm R := (insAll_both R).2
theorem insAll_len (R : List Int) : (insAll R).length = R.length := (insAll_perm R).length_eq
theorem insAll_sort (R : List Int) : R.mergeSort (fun x y => decide (x ≤ y)) = insAll R := by
  have hs : (R.mergeSort (fun x y => decide (x ≤ y))).Pairwise (fun x y => decide (x ≤ y) = true) := List.pairwise_mergeSort (by intro a b c h1 h2; simp at *; omega) (by intro a b; simp; omega) _
  have h2 := sorted_pair.1 (insAll_sorted R)
  have hp : (R.mergeSort (fun x y => decide (x ≤ y))).Perm (insAll R) := (List.mergeSort_perm _ _).trans (insAll_perm R).symm
  refine hp.eq_of_pairwise (le := fun x y => x ≤ y) (fun a b _ _ h1 h2 => by omega) (hs.imp (by intro a b h; simpa using h)) h2
theorem insAll_mem {R : List Int} {x : Int} (h : x ∈ insAll R) : x ∈ R := (insAll_perm R).mem_iff.1 h

def restU (n : NetD) (p : Int) (xs : List PatternD) (stop : Int) (k : Nat) : List Int := ((xs.take k).map (fun x => restI n p x stop)).filter (fun r => decide (0 ≤ r))
theorem restU_yes {n : NetD} {p : Int} {xs : List PatternD} {stop : Int} {k : Nat} (hk : k < xs.length) (h : 0 ≤ restI n p xs[k] stop) : restU n p xs stop (k + 1) = restU n p xs stop k ++ [restI n p xs[k] stop] := by
  unfold restU; rw [List.take_succ_eq_append_getElem hk, List.map_append, List.filter_append]; simp [h]
theorem restU_no {n : NetD} {p : Int} {xs : List PatternD} {stop : Int} {k : Nat} (hk : k < xs.length) (h : restI n p xs[k] stop < 0) : restU n p xs stop (k + 1) = restU n p xs stop k := by
  unfold restU; rw [List.take_succ_eq_append_getElem hk, List.map_append, List.filter_append]; simp; omega
theorem restU_len (n : NetD) (p : Int) (xs : List PatternD) (stop : Int) (k : Nat) : (restU n p xs stop k).length ≤ xs.length := by
  unfold restU; exact Nat.le_trans (List.length_filter_le _ _) (by simp; omega)
theorem restU_mem {n : NetD} {p : Int} {xs : List PatternD} {stop : Int} {k : Nat} (hp : 1 ≤ p) : ∀ r ∈ restU n p xs stop k, 0 ≤ r ∧ r < p := by
  intro r hr
  unfold restU at hr
  simp only [List.mem_filter, List.mem_map, decide_eq_true_eq] at hr
  obtain ⟨⟨x, _, rfl⟩, h0⟩ := hr
  exact ⟨h0, (rest_in hp x stop).2⟩
def restS (n : NetD) (p : Int) (xs : List PatternD) (stop : Int) : List Int := insAll (restU n p xs stop xs.length)
theorem restS_len (n : NetD) (p : Int) (xs : List PatternD) (stop : Int) : (restS n p xs stop).length ≤ xs.length := by
  unfold restS; rw [insAll_len]; exact restU_len n p xs stop _
theorem restS_mem {n : NetD} {p : Int} {xs : List PatternD} {stop : Int} (hp : 1 ≤ p) : ∀ r ∈ restS n p xs stop, 0 ≤ r ∧ r < p := fun r hr => restU_mem hp r (insAll_mem hr)
theorem restS_sorted (n : NetD) (p : Int) (xs : List PatternD) (stop : Int) : Sorted (restS n p xs stop) := insAll_sorted _

def gapAt (L : List Int) (p : Int) (i : Nat) : Int := (if i + 1 < L.length then L.getD (i + 1) 0 else L.getD 0 0 + p) - L.getD i 0
def gapsK (L : List Int) (p : Int) (k : Nat) : List Int := (List.range k).map (gapAt L p)
def gaps (L : List Int) (p : Int) : List Int := gapsK L p L.length
theorem gapsK_len (L : List Int) (p : Int) (k : Nat) : (gapsK L p k).length = k := by simp [gapsK]
theorem gaps_len (L : List Int) (p : Int) : (gaps L p).length = L.length := gapsK_len L p _
theorem gapsK_succ (L : List Int) (p : Int) (k : Nat) : gapsK L p (k + 1) = gapsK L p k ++ [gapAt L p k] := by simp [gapsK, List.range_succ]
theorem gapAt_mid {L : List Int} {p : Int} {k : Nat} (h : k + 1 < L.length) : gapAt L p k = L[k + 1] - L[k]'(by omega) := by
  have h2 : k < L.length := by omega
  simp [gapAt, h, List.getD, h2]
theorem gapAt_end {L : List Int} {p : Int} {k : Nat} (h : k + 1 = L.length) : gapAt L p k = L[0]'(by omega) + p - L[k]'(by omega) := by
  have h2 : k < L.length := by omega
  have h3 : 0 < L.length := by omega
  simp [gapAt, h, List.getD, h2, h3]
theorem gaps_get {L : List Int} {p : Int} {k : Nat} (h : k < L.length) : (gaps L p)[k]'(by rw [gaps_len]; exact h) = gapAt L p k := by simp [gaps, gapsK]
theorem gapAt_in {L : List Int} {p : Int} (hs : Sorted L) (hm : ∀ r ∈ L, 0 ≤ r ∧ r < p) {k : Nat} (hk : k < L.length) : 0 ≤ gapAt L p k ∧ gapAt L p k ≤ p := by
  have hx := hm _ (List.getElem_mem hk)
  by_cases h : k + 1 < L.length
  · rw [gapAt_mid h]
    have h1 := hs k (k + 1) (by omega) h
    have h2 := hm _ (List.getElem_mem h)
    omega
  · rw [gapAt_end (by omega)]
    have h1 := hs 0 k (by omega) hk
    have h2 := hm _ (List.getElem_mem (show 0 < L.length by omega))
    omega
theorem gaps_mem {L : List Int} {p : Int} (hs : Sorted L) (hm : ∀ r ∈ L, 0 ≤ r ∧ r < p) : ∀ g ∈ gaps L p, 0 ≤ g ∧ g ≤ p := by
  intro g hg
  obtain ⟨k, hk, rfl⟩ := List.getElem_of_mem hg
  have hk' : k < L.length := by rw [gaps_len] at hk; exact hk
  rw [gaps_get hk']; exact gapAt_in hs hm hk'
def bigI (xs : List Int) : Nat → Nat
  | 0 => 0
  | k + 1 => if xs.getD (bigI xs k) 0 < xs.getD (k + 1) 0 then k + 1 else bigI xs k
theorem bigI_le (xs : List Int) : ∀ k, bigI xs k ≤ k
  | 0 => Nat.le_refl _
  | k + 1 => by have := bigI_le xs k; unfold bigI; split <;> omega
theorem bigI_max (xs : List Int) : ∀ k j, j ≤ k → xs.getD j 0 ≤ xs.getD (bigI xs k) 0
  | 0, j, h => by obtain rfl : j = 0 := by omega
                  exact Int.le_refl _
  | k + 1, j, h => by
    unfold bigI
    by_cases hj : j = k + 1
    · subst hj; split <;> omega
    · have := bigI_max xs k j (by omega)
      split <;> omega
theorem bigI_first (xs : List Int) : ∀ k j, j < bigI xs k → xs.getD j 0 < xs.getD (bigI xs k) 0
  | 0, j, h => by simp [bigI] at h
  | k + 1, j, h => by
    unfold bigI at h ⊢
    split at h
    · rename_i hc
      rw [if_pos hc]
      have := bigI_max xs k j (by omega)
      omega
    · rename_i hc
      rw [if_neg hc]
      exact bigI_first xs k j h
def lgI (xs : List Int) : Nat := bigI xs (xs.length - 1)
def lgV (xs : List Int) : Int := xs.getD (lgI xs) 0
theorem lgI_lt {xs : List Int} (h : 0 < xs.length) : lgI xs < xs.length := by have := bigI_le xs (xs.length - 1); unfold lgI; omega
theorem lgV_get {xs : List Int} (h : 0 < xs.length) : xs[lgI xs]'(lgI_lt h) = lgV xs := by
  have := lgI_lt h; unfold lgV; simp [List.getD, this]
theorem lgV_mem {xs : List Int} (h : 0 < xs.length) : lgV xs ∈ xs := by rw [← lgV_get h]; exact List.getElem_mem _
theorem lgI_fst {xs : List Int} (h : 0 < xs.length) : fstIdx (lgV xs) xs = lgI xs := by
  refine fstIdx_hit (lgI xs) (lgI_lt h) (lgV_get h) (fun hm => ?_)
  obtain ⟨j, hj, he⟩ := List.getElem_of_mem hm
  have hj1 : j < lgI xs := by simp at hj; omega
  have hj2 : j < xs.length := by have := lgI_lt h; omega
  have := bigI_first xs (xs.length - 1) j hj1
  rw [List.getElem_take] at he
  simp only [List.getD, List.getElem?_eq_getElem hj2, Option.getD_some] at this
  unfold lgV lgI at he
  simp only [List.getD] at he
  omega

def evenI (c p : Int) (i : Nat) : Int := (i : Int) * p / c
def evenK (c : Nat) (p : Int) (k : Nat) : List Int := (List.range k).map (evenI c p)
def evenL (c : Nat) (p : Int) : List Int := evenK c p c
theorem evenK_len (c : Nat) (p : Int) (k : Nat) : (evenK c p k).length = k := by simp [evenK]
theorem evenL_len (c : Nat) (p : Int) : (evenL c p).length = c := evenK_len c p c
theorem evenK_succ (c : Nat) (p : Int) (k : Nat) : evenK c p (k + 1) = evenK c p k ++ [evenI c p k] := by simp [evenK, List.range_succ]
theorem evenI_in {c : Nat} {p : Int} (hp : 0 ≤ p) {i : Nat} (hi : i < c) : 0 ≤ evenI c p i ∧ evenI c p i ≤ p := by
  unfold evenI
  refine ⟨Int.ediv_nonneg (Int.mul_nonneg (by omega) hp) (by omega), ?_⟩
  refine Int.ediv_le_of_le_mul (by omega) ?_
  rw [Int.mul_comm p]
  exact Int.mul_le_mul_of_nonneg_right (by omega) hp
end Go.Proofs.Ytfgkfdkdjegaiaa
