/-
  PLAIN WORDS, of no program: numbers entered one by one into an ascending list; the starts of a line's trips; their differences.
-/
import Derived.Test.YtffcgblionlhhaaMb
namespace Go.Proofs.Ytffcgblionlhhaa
set_option linter.unusedVariables false

def Sorted (L : List Int) : Prop := ∀ i j (hij : i ≤ j) (hj : j < L.length), L[i]'(by omega) ≤ L[j]'hj
/-- how many of an ascending list are at most s -/
def insAt (s : Int) : List Int → Nat
  | [] => 0
  | x :: L => if x ≤ s then insAt s L + 1 else 0
def insF (s : Int) (L : List Int) : List Int := L.take (insAt s L) ++ ([s] ++ L.drop (insAt s L))
theorem insAt_le (s : Int) : ∀ L, insAt s L ≤ L.length
  | [] => Nat.le_refl _
  | x :: L => by unfold insAt; split <;> simp; exact insAt_le s L
theorem insAt_eq (s : Int) : ∀ (L : List Int) (m : Nat), m ≤ L.length → (∀ j (hj : j < L.length), j < m → L[j] ≤ s) → (∀ (hm : m < L.length), s < L[m]) → insAt s L = m
  | [], m, h, _, _ => by simp at h; subst h; rfl
  | x :: L, 0, _, _, h2 => by
    have := h2 (by simp)
    simp at this
    unfold insAt; rw [if_neg (by omega)]
  | x :: L, m + 1, h, h1, h2 => by
    have h0 := h1 0 (by simp) (by omega)
    simp at h0
    unfold insAt; rw [if_pos h0]
    rw [insAt_eq s L m (by simpa using h) (fun j hj hjm => by have := h1 (j + 1) (by simpa using hj) (by omega); simpa using this) (fun hm => by have := h2 (by simpa using hm); simpa using this)]
theorem insAt_lt (s : Int) : ∀ (L : List Int) (j : Nat) (hj : j < L.length), j < insAt s L → L[j] ≤ s
  | [], j, h, _ => by simp at h
  | x :: L, j, h, hj => by
    unfold insAt at hj
    split at hj
    · cases j with
      | zero => simpa using (by assumption : x ≤ s)
      | succ j => simpa using insAt_lt s L j (by simpa using h) (by omega)
    · omega
theorem insAt_gt (s : Int) : ∀ (L : List Int) (h : insAt s L < L.length), s < L[insAt s L]
  | [], h => by simp at h
  | x :: L, h => by
    by_cases hy : x ≤ s
    · have e : insAt s (x :: L) = insAt s L + 1 := by simp [insAt, hy]
      have h' : insAt s L < L.length := by rw [e] at h; simpa using h
      have := insAt_gt s L h'
      simp only [e]; simpa using this
    · have e : insAt s (x :: L) = 0 := by simp [insAt, hy]
      simp only [e]; simpa using (by omega : s < x)
theorem insF_len (s : Int) (L : List Int) : (insF s L).length = L.length + 1 := by
  have := insAt_le s L
  simp [insF]; omega
theorem insF_perm (s : Int) (L : List Int) : (insF s L).Perm (s :: L) := by
  unfold insF
  have h1 : (L.take (insAt s L) ++ ([s] ++ L.drop (insAt s L))).Perm ([s] ++ (L.take (insAt s L) ++ L.drop (insAt s L))) := by
    rw [← List.append_assoc, ← List.append_assoc]
    exact List.Perm.append_right _ List.perm_append_comm
  rw [List.take_append_drop] at h1
  exact h1
theorem sorted_pair {L : List Int} : Sorted L ↔ L.Pairwise (fun x y => x ≤ y) := by
  rw [List.pairwise_iff_getElem]
  constructor
  · intro h i j hi hj hij; exact h i j (by omega) hj
  · intro h i j hij hj
    by_cases e : i = j
    · subst e; exact Int.le_refl _
    · exact h i j (by omega) hj (by omega)
theorem insF_sorted {s : Int} {L : List Int} (h : Sorted L) : Sorted (insF s L) := by
  have h0 := sorted_pair.1 h
  rw [sorted_pair]
  unfold insF
  rw [List.pairwise_append]
  have hle := insAt_le s L
  refine ⟨h0.sublist (List.take_sublist _ _), ?_, fun x hx y hy => ?_⟩
  · show List.Pairwise _ (s :: L.drop (insAt s L))
    rw [List.pairwise_cons]
    refine ⟨fun y hy => ?_, h0.sublist (List.drop_sublist _ _)⟩
    obtain ⟨j, hj, rfl⟩ := List.getElem_of_mem hy
    rw [List.getElem_drop]
    have hjl : insAt s L + j < L.length := by simp at hj; omega
    have h1 := insAt_gt s L (by omega)
    have h2 := h (insAt s L) (insAt s L + j) (by omega) hjl
    omega
  · obtain ⟨i, hi, rfl⟩ := List.getElem_of_mem hx
    rw [List.getElem_take]
    have hil : i < insAt s L := by simp at hi; omega
    have h1 := insAt_lt s L i (by omega) hil
    rcases List.mem_append.1 hy with hy | hy
    · simp at hy; omega
    · obtain ⟨j, hj, rfl⟩ := List.getElem_of_mem hy
      rw [List.getElem_drop]
      exact h i (insAt s L + j) (by omega) (by simp at hj; omega)

/-- the starts of the first k trips, as they stand -/
def stL (t : TTD) (line : Int) (k : Nat) : List Int := ((t.trips.take k).filter (fun x => decide (x.line = line))).map (fun x => x.start)
theorem stL_yes {t : TTD} {line : Int} {k : Nat} (hk : k < t.trips.length) (h : (t.trips[k]).line = line) : stL t line (k + 1) = stL t line k ++ [(t.trips[k]).start] := by
  unfold stL; rw [List.take_succ_eq_append_getElem hk, List.filter_append, List.map_append]; simp [h]
theorem stL_no {t : TTD} {line : Int} {k : Nat} (hk : k < t.trips.length) (h : ¬ (t.trips[k]).line = line) : stL t line (k + 1) = stL t line k := by
  unfold stL; rw [List.take_succ_eq_append_getElem hk, List.filter_append, List.map_append]; simp [h]
theorem stL_len (t : TTD) (line : Int) (k : Nat) : (stL t line k).length ≤ t.trips.length := by
  unfold stL; rw [List.length_map]
  exact Nat.le_trans (List.length_filter_le _ _) (by simp; omega)
/-- .. entered one by one -/
def stS (t : TTD) (line : Int) : Nat → List Int
  | 0 => []
  | k + 1 => match t.trips[k]? with
    | some x => if x.line = line then insF x.start (stS t line k) else stS t line k
    | none => stS t line k
theorem stS_yes {t : TTD} {line : Int} {k : Nat} (hk : k < t.trips.length) (h : (t.trips[k]).line = line) : stS t line (k + 1) = insF (t.trips[k]).start (stS t line k) := by
  simp only [stS, List.getElem?_eq_getElem hk, if_pos h]
theorem stS_no {t : TTD} {line : Int} {k : Nat} (hk : k < t.trips.length) (h : ¬ (t.trips[k]).line = line) : stS t line (k + 1) = stS t line k := by
  simp only [stS, List.getElem?_eq_getElem hk, if_neg h]
theorem stS_sorted (t : TTD) (line : Int) : ∀ k, k ≤ t.trips.length → Sorted (stS t line k)
  | 0, _ => fun i j hij hj => by simp [stS] at hj
  | k + 1, hk => by
    by_cases h : (t.trips[k]).line = line
    · rw [stS_yes hk h]; exact insF_sorted (stS_sorted t line k (by omega))
    · rw [stS_no hk h]; exact stS_sorted t line k (by omega)
theorem stS_perm (t : TTD) (line : Int) : ∀ k, k ≤ t.trips.length → (stS t line k).Perm (stL t line k)
  | 0, _ => by simp [stS, stL]
  | k + 1, hk => by
    have ih := stS_perm t line k (by omega)
    by_cases h : (t.trips[k]).line = line
    · rw [stS_yes hk h, stL_yes hk h]
      exact (insF_perm _ _).trans ((List.Perm.cons _ ih).trans (List.perm_append_comm (l₁ := [_])))
    · rw [stS_no hk h, stL_no hk h]; exact ih
theorem stS_len (t : TTD) (line : Int) (k : Nat) (hk : k ≤ t.trips.length) : (stS t line k).length ≤ t.trips.length := by
  rw [(stS_perm t line k hk).length_eq]; exact stL_len t line k
theorem sort_eq (t : TTD) (line : Int) : (stL t line t.trips.length).mergeSort (fun x y => decide (x ≤ y)) = stS t line t.trips.length := by
  have hs : ((stL t line t.trips.length).mergeSort (fun x y => decide (x ≤ y))).Pairwise (fun x y => decide (x ≤ y) = true) := List.pairwise_mergeSort (by intro a b c h1 h2; simp at *; omega) (by intro a b; simp; omega) _
  have h2 := sorted_pair.1 (stS_sorted t line t.trips.length (Nat.le_refl _))
  have hp : ((stL t line t.trips.length).mergeSort (fun x y => decide (x ≤ y))).Perm (stS t line t.trips.length) := (List.mergeSort_perm _ _).trans (stS_perm t line _ (Nat.le_refl _)).symm
  refine hp.eq_of_pairwise (le := fun x y => x ≤ y) (fun a b _ _ h1 h2 => by omega) (hs.imp (by intro a b h; simpa using h)) h2

/-- the differences of the first k + 1 of a list -/
def difK (L : List Int) (k : Nat) : List Int := (List.range k).map (fun i => L.getD (i + 1) 0 - L.getD i 0)
theorem difK_len (L : List Int) (k : Nat) : (difK L k).length = k := by simp [difK]
theorem difK_succ (L : List Int) (k : Nat) (h : k + 1 < L.length) : difK L (k + 1) = difK L k ++ [L[k + 1] - L[k]] := by
  simp [difK, List.range_succ, List.getD, h, show k < L.length by omega]
theorem stS_mem {t : TTD} (hg : TTGood t) (line : Int) (k : Nat) (hk : k ≤ t.trips.length) : ∀ x ∈ stS t line k, 0 ≤ x ∧ x ≤ 1799 := by
  intro x hx
  have := (stS_perm t line k hk).mem_iff.1 hx
  unfold stL at this
  obtain ⟨y, hy, rfl⟩ := List.mem_map.1 this
  have hy2 := List.mem_of_mem_take (List.mem_filter.1 hy).1
  obtain ⟨j, hj, rfl⟩ := List.getElem_of_mem hy2
  exact (hg.step j hj).2.2.1.2.1
end Go.Proofs.Ytffcgblionlhhaa
