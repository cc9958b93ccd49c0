/-
  JOINED TEXTS, each under its own namespace line: Fst, NetP.
-/
import Derived.WalkKit
namespace Go.Proofs.Ytehpeifaknbcnaa

def fstIdx {α : Type} [DecidableEq α] (x : α) (xs : List α) : Int := if x ∈ xs then (xs.idxOf x : Int) else -1
theorem fstIdx_none {α : Type} [DecidableEq α] {x : α} {xs : List α} (h : x ∉ xs) : fstIdx x xs = -1 := if_neg h
theorem fstIdx_hit {α : Type} [DecidableEq α] {x : α} {xs : List α} (k : Nat) (h : k < xs.length) (he : xs[k] = x) (hno : x ∉ xs.take k) : fstIdx x xs = k := by
  have hm : x ∈ xs := by rw [← he]; exact List.getElem_mem h
  have h1 : xs.idxOf x < xs.length := List.idxOf_lt_length_iff.2 hm
  have h2 : xs[xs.idxOf x] = x := List.getElem_idxOf h1
  rw [fstIdx, if_pos hm]
  have h3 : ¬ xs.idxOf x < k := fun hl => hno (by rw [← h2]; exact List.mem_take_iff_getElem.2 ⟨xs.idxOf x, by omega, by simp⟩)
  have h4 : ¬ k < xs.idxOf x := fun hl => absurd he (by
    have := List.not_of_lt_findIdx (p := fun y => y == x) (xs := xs) (i := k) (by exact hl)
    simpa using this)
  omega
theorem fstIdx_get {α : Type} [DecidableEq α] (x : α) (xs : List α) (h : x ∈ xs) : ∃ k : Nat, fstIdx x xs = k ∧ ∃ hk : k < xs.length, xs[k] = x ∧ x ∉ xs.take k := by
  have h1 : xs.idxOf x < xs.length := List.idxOf_lt_length_iff.2 h
  refine ⟨xs.idxOf x, by rw [fstIdx, if_pos h], h1, List.getElem_idxOf h1, fun hm => ?_⟩
  obtain ⟨j, hj, hx⟩ := List.mem_take_iff_getElem.1 hm
  have := List.not_of_lt_findIdx (p := fun y => y == x) (xs := xs) (i := j) (by show j < xs.idxOf x; omega)
  simp [hx] at this
theorem nodup_first {α : Type} [DecidableEq α] (xs : List α) : xs.Nodup ↔ ∀ k (h : k < xs.length), fstIdx xs[k] xs = k := by
  rw [List.Nodup, List.pairwise_iff_getElem]
  constructor
  · intro h k hk
    refine fstIdx_hit k hk rfl fun hm => ?_
    obtain ⟨j, hj, hx⟩ := List.mem_take_iff_getElem.1 hm
    exact h j k (by omega) hk (by omega) hx
  · intro h i j hi hj hij he
    have h1 := h i hi
    have h2 := h j hj
    rw [he] at h1
    omega
theorem nodup_take {α : Type} [DecidableEq α] (xs : List α) : xs.Nodup ↔ ∀ k (h : k < xs.length), xs[k] ∉ xs.take k := by
  rw [nodup_first]
  constructor
  · intro h k hk hm
    obtain ⟨j, hj, _, _, hn⟩ := fstIdx_get xs[k] xs (List.getElem_mem hk)
    rw [h k hk] at hj
    obtain rfl : k = j := by omega
    exact hn hm
  · intro h k hk
    exact fstIdx_hit k hk rfl (h k hk)
end Go.Proofs.Ytehpeifaknbcnaa

namespace Go.Proofs.Ytehpeifaknbcnaa

structure LineD where
  name : ByteArray
  stops : List Int
  runs : List Int
structure NetD where
  stops : List ByteArray
  lines : List LineD

def lowB (c : UInt8) : Bool := decide (97 ≤ (c.toNat : Int)) && decide ((c.toNat : Int) ≤ 122)
def digB (c : UInt8) : Bool := decide (48 ≤ (c.toNat : Int)) && decide ((c.toNat : Int) ≤ 57)

def NameOk (s : ByteArray) : Prop := 1 ≤ s.size ∧ s.size ≤ 8 ∧ ∀ k (h : k < s.size), lowB s[k] = true ∨ (k ≠ 0 ∧ digB s[k] = true)
instance (s : ByteArray) : Decidable (NameOk s) := by unfold NameOk; exact instDecidableAnd (dq := instDecidableAnd (dq := Nat.decidableBallLT _ _))
def nameB (s : ByteArray) : Bool := decide (NameOk s)
theorem nameB_yes {s : ByteArray} (h : NameOk s) : nameB s = true := decide_eq_true h
theorem nameB_no {s : ByteArray} (h : ¬ NameOk s) : nameB s = false := decide_eq_false h

def LineOk (l : LineD) (n : Nat) : Prop := (2 ≤ l.stops.length ∧ l.stops.length ≤ 6 ∧ l.runs.length + 1 = l.stops.length) ∧ (∀ s ∈ l.stops, 0 ≤ s ∧ s < (n : Int)) ∧ l.stops.Nodup ∧ ∀ r ∈ l.runs, 1 ≤ r ∧ r ≤ 60
def LineGood (l : LineD) (n : Nat) : Prop := NameOk l.name ∧ LineOk l n
instance (l : LineD) (n : Nat) : Decidable (LineOk l n) := by unfold LineOk; infer_instance
instance (l : LineD) (n : Nat) : Decidable (LineGood l n) := by unfold LineGood; infer_instance
def lineOkB (l : LineD) (n : Nat) : Bool := decide (LineOk l n)
def lineGoodB (l : LineD) (n : Nat) : Bool := decide (LineGood l n)
theorem lineOkB_yes {l : LineD} {n : Nat} (h : LineOk l n) : lineOkB l n = true := decide_eq_true h
theorem lineOkB_no {l : LineD} {n : Nat} (h : ¬ LineOk l n) : lineOkB l n = false := decide_eq_false h
theorem lineGoodB_yes {l : LineD} {n : Nat} (h : LineGood l n) : lineGoodB l n = true := decide_eq_true h
theorem lineGoodB_no {l : LineD} {n : Nat} (h : ¬ LineGood l n) : lineGoodB l n = false := decide_eq_false h

def NetGood (n : NetD) : Prop := (2 ≤ n.stops.length ∧ n.stops.length ≤ 8 ∧ 1 ≤ n.lines.length ∧ n.lines.length ≤ 5) ∧ (∀ s ∈ n.stops, NameOk s) ∧ n.stops.Nodup ∧ (∀ l ∈ n.lines, LineGood l n.stops.length) ∧ (n.lines.map (·.name)).Nodup
instance (n : NetD) : Decidable (NetGood n) := by unfold NetGood; infer_instance
def netB (n : NetD) : Bool := decide (NetGood n)
theorem netB_yes {n : NetD} (h : NetGood n) : netB n = true := decide_eq_true h
theorem netB_no {n : NetD} (h : ¬ NetGood n) : netB n = false := decide_eq_false h

theorem bytes_eq (a b : ByteArray) : (a.toList == b.toList) = decide (a = b) := by
  rw [Bool.eq_iff_iff]; simp only [beq_iff_eq, decide_eq_true_eq]
  constructor
  · intro h; rw [Go.ByteArray.toList_eq, Go.ByteArray.toList_eq] at h
    cases a; cases b; simp at h; rw [h]
  · rintro rfl; rfl
end Go.Proofs.Ytehpeifaknbcnaa
