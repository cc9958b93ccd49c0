import Derived.WalkKit
namespace Go.Proofs.Ytehpeifaknbcnaa

def fstIdx {α : Type} [DecidableEq α] (x : α) (xs : List α) : Int := if x ∈ xs then (xs.idxOf x : Int) else -1
theorem fstIdx_none {α : Type} [DecidableEq α] {x : α} {xs : List α} (h : x ∉ xs) : fstIdx x xs = -1 := if_neg h
theorem fstIdx_hit {α : Type} [DecidableEq α] {x : α} {xs : List α} (k : Nat) (h : k < xs.length) (he : xs[k] = x) (hno : x ∉ xs.take k) : fstIdx x xs = k := by
  have hm : x ∈ xs := by rw [← he]; exact List.getElem_mem h
  have h1 : xs.idxOf x < xs.length := List.idxOf_lt_length_iff.2 hm
  have h2 : xs[xs.idxOf x] = x := List.getElem_idxOf h1
  rw [fstIdx, if_pos hm]
  have h3 : ¬ xs.idxOf x < k := fun hl => hno (by rw [← h2]; exact List.mem_take_iff_getElem.2 ⟨xs.idxOf x, by omega, by simp⟩)
  have h4 : ¬ k < xs.idxOf x := fun hl => absurd he (by
    have := List.not_of_lt_findIdx (p := fun y => y == x) (xs := xs) (i := k) (by exact hl)
    simpa using this)
  omega
theorem fstIdx_get {α : Type} [DecidableEq α] (x : α) (xs : List α) (h : x ∈ xs) : ∃ k : Nat, fstIdx x xs = k ∧ ∃ hk : k < xs.length, xs[k] = x ∧ x ∉ xs.take k := by
  have h1 : xs.idxOf x < xs.length := List.idxOf_lt_length_iff.2 h
  refine ⟨xs.idxOf x, by rw [fstIdx, if_pos h], h1, List.getElem_idxOf h1, fun hm => ?_⟩
  obtain ⟨j, hj, hx⟩ := List.mem_take_iff_getElem.1 hm
  have := List.not_of_lt_findIdx (p := fun y => y == x) (xs := xs) (i := j) (by show j < xs.idxOf x; omega)
  simp [hx] at this
theorem nodup_first {α : Type} [DecidableEq α] (xs : List α) : xs.Nodup ↔ ∀ k (h : k < xs.length), fstIdx xs[k] xs = k := by
  rw [List.Nodup, List.pairwise_iff_getElem]
  constructor
  · intro h k hk
    refine fstIdx_hit k hk rfl fun hm => ?_
    obtain ⟨j, hj, hx⟩ := List.mem_take_iff_getElem.1 hm
    exact h j k (by omega) hk (by omega) hx
  · intro h i j hi hj hij he
    have h1 := h i hi
    have h2 := h j hj
    rw [he] at h1
    omega
theorem nodup_take {α : Type} [DecidableEq α] (xs : List α) : xs.Nodup ↔ ∀ k (h : k < xs.length), xs[k] ∉ xs.take k := by
  rw [nodup_first]
  constructor
  · intro h k hk hm
    obtain ⟨j, hj, _, _, hn⟩ := fstIdx_get xs[k] xs (List.getElem_mem hk)
    rw [h k hk] at hj
    obtain rfl : k = j := by omega
    exact hn hm
  · intro h k hk
    exact fstIdx_hit k hk rfl (h k hk)
end Go.Proofs.Ytehpeifaknbcnaa
