import Derived.Test.YtfgkfdkdjegaiaaDoubleWait
namespace Go.Proofs.Ytfgkfdkdjegaiaa
set_option linter.unusedVariables false
set_option linter.unusedSimpArgs false

def shr (p c : Int) : Nat → Int
  | 0 => c
  | s + 1 => shr p c s / p
theorem shr_in (p c : Int) (s : Nat) : shr p c (s + 1) = shr p (c / p) s := by
  induction s with
  | zero => rfl
  | succ s ih => show shr p c (s + 1) / p = shr p (c / p) s / p; rw [ih]
theorem shr_nonneg {p c : Int} (hp : 1 ≤ p) (hc : 0 ≤ c) : ∀ s, 0 ≤ shr p c s
  | 0 => hc
  | s + 1 => Int.ediv_nonneg (shr_nonneg hp hc s) (by omega)
theorem shr_le {p c : Int} (hp : 1 ≤ p) (hc : 0 ≤ c) : ∀ s, shr p c s ≤ c
  | 0 => Int.le_refl _
  | s + 1 => by
    have h1 := shr_le hp hc s
    have h2 := shr_nonneg hp hc s
    have : shr p c s / p ≤ shr p c s := Int.ediv_le_self p h2
    show shr p c s / p ≤ c
    omega
def dgt (p c : Int) (s : Nat) : Int := shr p c s % p
theorem dgt_in {p : Int} (hp : 1 ≤ p) (c : Int) (s : Nat) : 0 ≤ dgt p c s ∧ dgt p c s < p := ⟨Int.emod_nonneg _ (by omega), Int.emod_lt_of_pos _ (by omega)⟩
theorem dgt_next {p c o : Int} (hp : 1 ≤ p) (ho : 0 ≤ o ∧ o < p) (s : Nat) : dgt p (c * p + o) (s + 1) = dgt p c s := by
  unfold dgt; rw [shr_in]
  have : (c * p + o) / p = c := by
    rw [Int.add_comm, Int.add_mul_ediv_right _ _ (by omega), Int.ediv_eq_zero_of_lt ho.1 ho.2]; omega
  rw [this]
theorem dgt_last {p c o : Int} (hp : 1 ≤ p) (ho : 0 ≤ o ∧ o < p) : dgt p (c * p + o) 0 = o := by
  show (c * p + o) % p = o
  rw [Int.add_comm, Int.add_mul_emod_self_right, Int.emod_eq_of_lt ho.1 ho.2]

def tps (xs : List PatternD) (p c : Int) : Nat → List PatternD
  | 0 => xs
  | s + 1 => (tps xs p c s).set (xs.length - 1 - s) ⟨(xs.getD (xs.length - 1 - s) ⟨0, 0⟩).line, dgt p c s⟩
def ops (xs : List PatternD) (p c : Int) : Nat → List Int
  | 0 => List.replicate xs.length 0
  | s + 1 => (ops xs p c s).set (xs.length - 1 - s) (dgt p c s)
theorem tps_len (xs : List PatternD) (p c : Int) : ∀ s, (tps xs p c s).length = xs.length
  | 0 => rfl
  | s + 1 => by simp [tps, tps_len xs p c s]
theorem ops_len (xs : List PatternD) (p c : Int) : ∀ s, (ops xs p c s).length = xs.length
  | 0 => by simp [ops]
  | s + 1 => by simp [ops, ops_len xs p c s]
theorem tps_get {xs : List PatternD} {p c : Int} : ∀ (s : Nat) (j : Nat) (hj : j < xs.length), s ≤ xs.length - 1 → (tps xs p c s)[j]'(by rw [tps_len]; exact hj) = if xs.length - 1 - s < j then ⟨xs[j].line, dgt p c (xs.length - 1 - j)⟩ else xs[j]
  | 0, j, hj, hs => by rw [if_neg (by omega)]; rfl
  | s + 1, j, hj, hs => by
    have ih := tps_get (p := p) (c := c) s j hj (by omega)
    simp only [tps, List.getElem_set]
    by_cases e : xs.length - 1 - s = j
    · rw [if_pos e, if_pos (by omega)]
      have e2 : xs.length - 1 - j = s := by omega
      rw [e2, e]; simp [List.getD, hj]
    · rw [if_neg e, ih]
      by_cases h : xs.length - 1 - s < j
      · rw [if_pos h, if_pos (by omega)]
      · rw [if_neg h, if_neg (by omega)]
theorem ops_get {xs : List PatternD} {p c : Int} : ∀ (s : Nat) (j : Nat) (hj : j < xs.length), s ≤ xs.length - 1 → (ops xs p c s)[j]'(by rw [ops_len]; exact hj) = if xs.length - 1 - s < j then dgt p c (xs.length - 1 - j) else 0
  | 0, j, hj, hs => by rw [if_neg (by omega)]; simp [ops]
  | s + 1, j, hj, hs => by
    have ih := ops_get (p := p) (c := c) s j hj (by omega)
    simp only [ops, List.getElem_set]
    by_cases e : xs.length - 1 - s = j
    · rw [if_pos e, if_pos (by omega)]
      have e2 : xs.length - 1 - j = s := by omega
      rw [e2]
    · rw [if_neg e, ih]
      by_cases h : xs.length - 1 - s < j
      · rw [if_pos h, if_pos (by omega)]
      · rw [if_neg h, if_neg (by omega)]
def tT (xs : List PatternD) (p c : Int) : List PatternD := tps xs p c (xs.length - 1)
def oT (xs : List PatternD) (p c : Int) : List Int := (ops xs p c (xs.length - 1)).set 0 (xs.getD 0 ⟨0, 0⟩).offs
theorem tT_len (xs : List PatternD) (p c : Int) : (tT xs p c).length = xs.length := tps_len xs p c _
theorem oT_len (xs : List PatternD) (p c : Int) : (oT xs p c).length = xs.length := by unfold oT; rw [List.length_set]; exact ops_len xs p c _
theorem tT_get {xs : List PatternD} {p c : Int} {j : Nat} (hj : j < xs.length) : (tT xs p c)[j]'(by rw [tT_len]; exact hj) = if 0 < j then ⟨xs[j].line, dgt p c (xs.length - 1 - j)⟩ else xs[j] := by
  have h := tps_get (p := p) (c := c) (xs.length - 1) j hj (Nat.le_refl _)
  rw [show xs.length - 1 - (xs.length - 1) = 0 by omega] at h
  exact h
theorem oT_map (xs : List PatternD) (p c : Int) : oT xs p c = (tT xs p c).map (fun x => x.offs) := by
  refine List.ext_getElem (by rw [oT_len, List.length_map, tT_len]) (fun j h1 h2 => ?_)
  have hj : j < xs.length := by rw [oT_len] at h1; exact h1
  rw [List.getElem_map, tT_get hj]
  simp only [oT, List.getElem_set]
  have ho := ops_get (p := p) (c := c) (xs.length - 1) j hj (Nat.le_refl _)
  rw [show xs.length - 1 - (xs.length - 1) = 0 by omega] at ho
  by_cases e : 0 = j
  · subst e
    rw [if_pos rfl, if_neg (by omega)]; simp [List.getD, hj]
  · rw [if_neg e, ho, if_pos (by omega), if_pos (by omega)]

def SameL (xs ys : List PatternD) : Prop := ys.length = xs.length ∧ ∀ j (h : j < xs.length) (h' : j < ys.length), ys[j].line = xs[j].line
theorem tT_same (xs : List PatternD) (p c : Int) : SameL xs (tT xs p c) := ⟨tT_len xs p c, fun j h h' => by rw [tT_get h]; split <;> rfl⟩
theorem tT_good {n : NetD} {p : Int} {xs : List PatternD} (h : PatsGood n p xs) (c : Int) : PatsGood n p (tT xs p c) := by
  refine ⟨h.1, h.2.1, by rw [tT_len]; exact h.2.2.1, fun k hk => ?_⟩
  have hk' : k < xs.length := by rw [tT_len] at hk; exact hk
  have h1 := h.2.2.2 k hk'
  rw [tT_get hk']
  split
  · exact ⟨h1.1, dgt_in h.2.1.1 c _⟩
  · exact h1
theorem restU_same {n : NetD} {p : Int} (hp : 1 ≤ p) {xs ys : List PatternD} (h : SameL xs ys) (stop : Int) : ∀ k, k ≤ xs.length → (restU n p ys stop k).length = (restU n p xs stop k).length
  | 0, _ => by simp [restU]
  | k + 1, hk => by
    have ih := restU_same (n := n) hp h stop k (by omega)
    have hkx : k < xs.length := by omega
    have hky : k < ys.length := by rw [h.1]; omega
    have hl := h.2 k hkx hky
    have hiff : restI n p ys[k] stop < 0 ↔ restI n p xs[k] stop < 0 := by rw [rest_neg hp, rest_neg hp, hl]
    by_cases hn : restI n p xs[k] stop < 0
    · rw [restU_no hkx hn, restU_no hky (hiff.2 hn), ih]
    · rw [restU_yes hkx (by omega), restU_yes hky (by have := mt hiff.1 hn; omega)]; simp [ih]
theorem restS_same {n : NetD} {p : Int} (hp : 1 ≤ p) {xs ys : List PatternD} (h : SameL xs ys) (stop : Int) : (restS n p ys stop).length = (restS n p xs stop).length := by
  unfold restS; rw [insAll_len, insAll_len, h.1]; exact restU_same hp h stop _ (Nat.le_refl _)

def gapT (n : NetD) (p : Int) (ys : List PatternD) (stop : Int) : Int := lgV (gaps (restS n p ys stop) p)
theorem gapT_in {n : NetD} {p : Int} {ys : List PatternD} {stop : Int} (hp : 1 ≤ p) (h : 0 < (restS n p ys stop).length) : 0 ≤ gapT n p ys stop ∧ gapT n p ys stop ≤ p :=
  gaps_mem (restS_sorted n p ys stop) (restS_mem hp) _ (lgV_mem (by rw [gaps_len]; exact h))

def bestA (n : NetD) (p : Int) (xs : List PatternD) (stop : Int) : Nat → List Int × Int
  | 0 => ([], p + 1)
  | k + 1 => if gapT n p (tT xs p k) stop < (bestA n p xs stop k).2 then (oT xs p k, gapT n p (tT xs p k) stop) else bestA n p xs stop k
theorem bestA_yes {n : NetD} {p : Int} {xs : List PatternD} {stop : Int} {k : Nat} (h : gapT n p (tT xs p k) stop < (bestA n p xs stop k).2) : bestA n p xs stop (k + 1) = (oT xs p k, gapT n p (tT xs p k) stop) := if_pos h
theorem bestA_no {n : NetD} {p : Int} {xs : List PatternD} {stop : Int} {k : Nat} (h : ¬ gapT n p (tT xs p k) stop < (bestA n p xs stop k).2) : bestA n p xs stop (k + 1) = bestA n p xs stop k := if_neg h
theorem bestA_in {n : NetD} {p : Int} {xs : List PatternD} {stop : Int} (hp : 1 ≤ p) (h : 0 < (restS n p xs stop).length) : ∀ k, 0 ≤ (bestA n p xs stop k).2 ∧ (bestA n p xs stop k).2 ≤ p + 1 ∧ (1 ≤ k → (bestA n p xs stop k).2 ≤ p) ∧ (bestA n p xs stop k).1.length ≤ xs.length
  | 0 => ⟨by show 0 ≤ p + 1; omega, Int.le_refl _, fun h => by omega, Nat.zero_le _⟩
  | k + 1 => by
    have ih := bestA_in hp h k
    have hg := gapT_in (n := n) (stop := stop) (ys := tT xs p k) hp (by rw [restS_same hp (tT_same xs p k)]; exact h)
    by_cases hc : gapT n p (tT xs p k) stop < (bestA n p xs stop k).2
    · rw [bestA_yes hc]; exact ⟨hg.1, by show gapT n p (tT xs p k) stop ≤ p + 1; omega, fun _ => hg.2, by show (oT xs p k).length ≤ _; rw [oT_len]; exact Nat.le_refl _⟩
    · rw [bestA_no hc]; exact ⟨ih.1, ih.2.1, fun _ => by omega, ih.2.2.2⟩
def manyN (p : Int) (L : Nat) : Nat := p.toNat ^ (L - 1)
theorem manyN_in {p : Int} {L : Nat} (hp : 1 ≤ p ∧ p ≤ 20) (hL : 1 ≤ L ∧ L ≤ 3) : 1 ≤ manyN p L ∧ manyN p L ≤ 400 := by
  unfold manyN
  obtain ⟨q, hq⟩ := Int.eq_ofNat_of_zero_le (show 0 ≤ p by omega)
  subst hq
  rw [Int.toNat_natCast]
  have h1 : 1 ≤ q := by omega
  have h2 : q ≤ 20 := by omega
  have h3 : q * q ≤ 20 * 20 := Nat.mul_le_mul h2 h2
  have h4 : 1 * 1 ≤ q * q := Nat.mul_le_mul h1 h1
  have : L = 1 ∨ L = 2 ∨ L = 3 := by omega
  rcases this with rfl | rfl | rfl
  · simp
  · simp; omega
  · simp [Nat.pow_succ]; omega
noncomputable def boB (n : NetD) (p : Int) (xs : List PatternD) (stop : Int) : Bool := servB n p xs stop && decide (p ≤ 20)
noncomputable def boF (n : NetD) (p : Int) (xs : List PatternD) (stop : Int) : List Int × Int := if boB n p xs stop then bestA n p xs stop (manyN p xs.length) else ([], 0)
theorem boF_no {n : NetD} {p : Int} {xs : List PatternD} {stop : Int} (h : boB n p xs stop = false) : boF n p xs stop = ([], 0) := by unfold boF; rw [h]; rfl
theorem boF_yes {n : NetD} {p : Int} {xs : List PatternD} {stop : Int} (h : boB n p xs stop = true) : boF n p xs stop = bestA n p xs stop (manyN p xs.length) := by unfold boF; rw [h]; rfl
theorem boB_iff {n : NetD} {p : Int} {xs : List PatternD} {stop : Int} (h : boB n p xs stop = true) : PatsGood n p xs ∧ p ≤ 20 ∧ 0 < (restS n p xs stop).length := by
  unfold boB at h; simp only [Bool.and_eq_true, decide_eq_true_eq] at h
  have h0 := servB_yes h.1
  have ha := prF_ask h0
  rw [prF_true ha] at h0
  exact ⟨(askG_iff ha).1, h.2, h0⟩
end Go.Proofs.Ytfgkfdkdjegaiaa
