import Derived.Test.YtemejcbilhcebaaLinesAt
import Derived.Test.YtemejcbilhcebaaReverseLine
import Derived.Test.YtemejcbilhcebaaLineNumber
namespace Go.Proofs.Ytemejcbilhcebaa
set_option linter.unusedVariables false
set_option linter.unusedSimpArgs false

theorem sum_rev (xs : List Int) : xs.reverse.sum = xs.sum := by
  induction xs with
  | nil => rfl
  | cons x xs ih => simp [List.sum_append, ih]; omega
theorem mem_laF {n : NetD} {stop : Int} {j : Nat} (hj : j < n.lines.length) (hs : stop ∈ (n.lines[j]'hj).stops) : ∀ k, j < k → (j : Int) ∈ laF n stop k
  | 0, h => by omega
  | k + 1, h => by
    by_cases e : j = k
    · subst e; rw [laF_yes hj hs]; simp
    · exact List.mem_append_left _ (mem_laF hj hs k (by omega))
theorem fst_at {xs : List Int} (h : xs.Nodup) (i : Nat) (hi : i < xs.length) : fstIdx xs[i] xs = i := (nodup_first xs).1 h i hi

theorem back_facts {n : NetD} {K : Nat} {name : ByteArray} (hg : NetGood n) (hK : K < n.lines.length) (hm : NetGood (rvN n K name)) :
    2 ≤ n.lines[K].stops.length ∧ n.lines[K].stops.length ≤ 6 ∧ (rvN n K name).lines.length = n.lines.length + 1 ∧
    (∀ i (h0 : 0 < i) (hi : i < n.lines[K].stops.length) (hz : 0 < n.lines[K].stops.length), ∃ s : Int, runAns n K (n.lines[K].stops[0]'hz) (n.lines[K].stops[i]'hi) = (s, true) ∧ runAns (rvN n K name) n.lines.length (n.lines[K].stops[i]'hi) (n.lines[K].stops[0]'hz) = (s, true)) ∧
    fstIdx name ((rvN n K name).lines.map (·.name)) = n.lines.length ∧
    (∀ h : 0 < n.lines[K].stops.length, StopIn (rvN n K name) (n.lines[K].stops[0]'h) ∧ (K : Int) ∈ laAns (rvN n K name) (n.lines[K].stops[0]'h) ∧ (n.lines.length : Int) ∈ laAns (rvN n K name) (n.lines[K].stops[0]'h)) := by
  have hl := (good_line hg K hK).2
  obtain ⟨⟨l1, l2, l3⟩, l4, l5, l6⟩ := hl
  have hlen : (rvN n K name).lines.length = n.lines.length + 1 := by rw [rvN_at name hK]; simp
  have hst : (rvN n K name).stops.length = n.stops.length := by rw [rvN_at name hK]
  have hk : n.lines.length < (rvN n K name).lines.length := by omega
  have hat : (rvN n K name).lines[n.lines.length]'hk = ⟨name, n.lines[K].stops.reverse, n.lines[K].runs.reverse⟩ := by simp [rvN_at name hK]
  have hold : (rvN n K name).lines[K]'(by omega) = n.lines[K] := by simp [rvN_at name hK, List.getElem_append_left hK]
  have hsin : ∀ h : 0 < n.lines[K].stops.length, StopIn (rvN n K name) n.lines[K].stops[0] := fun h => ⟨hm, (l4 _ (List.getElem_mem h)).1, by rw [hst]; exact (l4 _ (List.getElem_mem h)).2⟩
  refine ⟨l1, l2, hlen, ?_, ?_, fun h => ⟨hsin h, ?_, ?_⟩⟩
  · intro i h0 hi hz
    have e1 := fst_at l5 0 (by omega)
    have e2 := fst_at l5 i hi
    refine ⟨runSum n.lines[K] 0 i, ?_, ?_⟩
    · unfold runAns
      rw [dif_pos ⟨hg, by omega, by omega⟩]
      have e : n.lines[((K : Nat) : Int).toNat]'(by omega) = n.lines[K] := rfl
      simp only [e, e1, e2]
      rw [if_pos ⟨by omega, by omega⟩]
      rfl
    · have hnd : n.lines[K].stops.reverse.Nodup := List.pairwise_reverse.2 (l5.imp Ne.symm)
      have f1 : fstIdx n.lines[K].stops[i] n.lines[K].stops.reverse = ((n.lines[K].stops.length - 1 - i : Nat) : Int) := by
        have := fst_at hnd (n.lines[K].stops.length - 1 - i) (by simp; omega)
        rw [List.getElem_reverse] at this
        have e : n.lines[K].stops.length - 1 - (n.lines[K].stops.length - 1 - i) = i := by omega
        simp only [e] at this
        exact this
      have f2 : fstIdx (n.lines[K].stops[0]'(by omega)) n.lines[K].stops.reverse = ((n.lines[K].stops.length - 1 : Nat) : Int) := by
        have := fst_at hnd (n.lines[K].stops.length - 1) (by simp; omega)
        rw [List.getElem_reverse] at this
        have e : n.lines[K].stops.length - 1 - (n.lines[K].stops.length - 1) = 0 := by omega
        simp only [e] at this
        exact this
      unfold runAns
      rw [dif_pos ⟨hm, by omega, by omega⟩]
      have e : (rvN n K name).lines[((n.lines.length : Nat) : Int).toNat]'(by omega) = ⟨name, n.lines[K].stops.reverse, n.lines[K].runs.reverse⟩ := hat
      simp only [e, f1, f2]
      rw [if_pos ⟨by omega, by omega⟩]
      refine Prod.ext ?_ rfl
      simp only [runSum, Int.toNat_natCast]
      have e3 : n.lines[K].stops.length - 1 - (n.lines[K].stops.length - 1 - i) = i := by omega
      have e4 : (n.lines[K].runs.reverse.drop (n.lines[K].stops.length - 1 - i)) = (n.lines[K].runs.take i).reverse := by
        rw [List.drop_reverse]; congr 2; omega
      rw [e3, e4, List.take_of_length_le (by simp; omega), sum_rev]
      simp
  · have hmem : ((rvN n K name).lines.map (·.name))[n.lines.length]'(by simpa using hk) = name := by simp [hat]
    have := (nodup_first _).1 hm.2.2.2.2 n.lines.length (by simpa using hk)
    rw [hmem] at this
    exact this
  · unfold laAns
    rw [if_pos (hsin h)]
    exact mem_laF (by omega) (by rw [hold]; exact List.getElem_mem _) _ (by omega)
  · unfold laAns
    rw [if_pos (hsin h)]
    exact mem_laF hk (by rw [hat]; simp) _ hk
end Go.Proofs.Ytemejcbilhcebaa
