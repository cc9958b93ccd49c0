/-
  PLAIN WORDS, of no program: numbers entered one by one into an ascending list.
-/
import Derived.Test.YtfgkfdkdjegaiaaFst
namespace Go.Proofs.Ytfgkfdkdjegaiaa
set_option linter.unusedVariables false

def Sorted (L : List Int) : Prop := ∀ i j (hij : i ≤ j) (hj : j < L.length), L[i]'(by omega) ≤ L[j]'hj
/-- how many of an ascending list are at most s -/
def insAt (s : Int) : List Int → Nat
  | [] => 0
  | x :: L => if x ≤ s then insAt s L + 1 else 0
def insF (s : Int) (L : List Int) : List Int := L.take (insAt s L) ++ ([s] ++ L.drop (insAt s L))
theorem insAt_le (s : Int) : ∀ L, insAt s L ≤ L.length
  | [] => Nat.le_refl _
  | x :: L => by unfold insAt; split <;> simp; exact insAt_le s L
theorem insAt_eq (s : Int) : ∀ (L : List Int) (m : Nat), m ≤ L.length → (∀ j (hj : j < L.length), j < m → L[j] ≤ s) → (∀ (hm : m < L.length), s < L[m]) → insAt s L = m
  | [], m, h, _, _ => by simp at h; subst h; rfl
  | x :: L, 0, _, _, h2 => by
    have := h2 (by simp)
    simp at this
    unfold insAt; rw [if_neg (by omega)]
  | x :: L, m + 1, h, h1, h2 => by
    have h0 := h1 0 (by simp) (by omega)
    simp at h0
    unfold insAt; rw [if_pos h0]
    rw [insAt_eq s L m (by simpa using h) (fun j hj hjm => by have := h1 (j + 1) (by simpa using hj) (by omega); simpa using this) (fun hm => by have := h2 (by simpa using hm); simpa using this)]
theorem insAt_lt (s : Int) : ∀ (L : List Int) (j : Nat) (hj : j < L.length), j < insAt s L → L[j] ≤ s
  | [], j, h, _ => by simp at h
  | x :: L, j, h, hj => by
    unfold insAt at hj
    split at hj
    · cases j with
      | zero => simpa using (by assumption : x ≤ s)
      | succ j => simpa using insAt_lt s L j (by simpa using h) (by omega)
    · omega
theorem insAt_gt (s : Int) : ∀ (L : List Int) (h : insAt s L < L.length), s < L[insAt s L]
  | [], h => by simp at h
  | x :: L, h => by
    by_cases hy : x ≤ s
    · have e : insAt s (x :: L) = insAt s L + 1 := by simp [insAt, hy]
      have h' : insAt s L < L.length := by rw [e] at h; simpa using h
      have := insAt_gt s L h'
      simp only [e]; simpa using this
    · have e : insAt s (x :: L) = 0 := by simp [insAt, hy]
      simp only [e]; simpa using (by omega : s < x)
theorem insF_len (s : Int) (L : List Int) : (insF s L).length = L.length + 1 := by
  have := insAt_le s L
  simp [insF]; omega
theorem insF_perm (s : Int) (L : List Int) : (insF s L).Perm (s :: L) := by
  unfold insF
  have h1 : (L.take (insAt s L) ++ ([s] ++ L.drop (insAt s L))).Perm ([s] ++ (L.take (insAt s L) ++ L.drop (insAt s L))) := by
    rw [← List.append_assoc, ← List.append_assoc]
    exact List.Perm.append_right _ List.perm_append_comm
  rw [List.take_append_drop] at h1
  exact h1
theorem sorted_pair {L : List Int} : Sorted L ↔ L.Pairwise (fun x y => x ≤ y) := by
  rw [List.pairwise_iff_getElem]
  constructor
  · intro h i j hi hj hij; exact h i j (by omega) hj
  · intro h i j hij hj
    by_cases e : i = j
    · subst e; exact Int.le_refl _
    · exact h i j (by omega) hj (by omega)
theorem insF_sorted {s : Int} {L : List Int} (h : Sorted L) : Sorted (insF s L) := by
  have h0 := sorted_pair.1 h
  rw [sorted_pair]
  unfold insF
  rw [List.pairwise_append]
  have hle := insAt_le s L
  refine ⟨h0.sublist (List.take_sublist _ _), ?_, fun x hx y hy => ?_⟩
  · show List.Pairwise _ (s :: L.drop (insAt s L))
    rw [List.pairwise_cons]
    refine ⟨fun y hy => ?_, h0.sublist (List.drop_sublist _ _)⟩
    obtain ⟨j, hj, rfl⟩ := List.getElem_of_mem hy
    rw [List.getElem_drop]
    have hjl : insAt s L + j < L.length := by simp at hj; omega
    have h1 := insAt_gt s L (by omega)
    have h2 := h (insAt s L) (insAt s L + j) (by omega) hjl
    omega
  · obtain ⟨i, hi, rfl⟩ := List.getElem_of_mem hx
    rw [List.getElem_take]
    have hil : i < insAt s L := by simp at hi; omega
    have h1 := insAt_lt s L i (by omega) hil
    rcases List.mem_append.1 hy with hy | hy
    · simp at hy; omega
    · obtain ⟨j, hj, rfl⟩ := List.getElem_of_mem hy
      rw [List.getElem_drop]
      exact h i (insAt s L + j) (by omega) (by simp at hj; omega)
end Go.Proofs.Ytfgkfdkdjegaiaa
