/-
  PLAIN WORDS of chapter 3, of no program: the text of a calendar.
-/
import Derived.Test.YtffcgblionlhhaaDoorCalP
import Derived.Test.YtffcgblionlhhaaDoorStr
namespace Go.Proofs.YtffcgblionlhhaaDoor
open Go.Lib
set_option linter.unusedVariables false

def ltrs : List UInt8 := [109, 116, 119, 116, 102, 115, 115]
def wdBit (wd : Int) (p : Nat) : Bool := decide (wd / 2 ^ p % 2 = 1)
def wdC (wd : Int) (p : Nat) : UInt8 := if wdBit wd p then ltrs.getD p 0 else 46
def wdTx (wd : Int) (k : Nat) : List UInt8 := (List.range k).map (wdC wd)
theorem wdTx_succ (wd : Int) (k : Nat) : wdTx wd (k + 1) = wdTx wd k ++ [wdC wd k] := by simp [wdTx, List.range_succ]
theorem wdTx_len (wd : Int) (k : Nat) : (wdTx wd k).length = k := by simp [wdTx]
def exTx (s : UInt8) (xs : List Int) : List UInt8 := xs.flatMap fun d => [32, s] ++ itoa d
theorem exTx_take (s : UInt8) (xs : List Int) (k : Nat) (h : k < xs.length) : exTx s (xs.take (k + 1)) = exTx s (xs.take k) ++ [32, s] ++ itoa xs[k] := by
  unfold exTx
  rw [List.take_succ_eq_append_getElem h, List.flatMap_append, List.flatMap_singleton]; simp
theorem exTx_len (s : UInt8) (xs : List Int) (hx : ∀ d ∈ xs, 0 ≤ d ∧ d ≤ 3650) (hl : xs.length ≤ 8) (k : Nat) : (exTx s (xs.take k)).length ≤ 176 := by
  have : ∀ ys : List Int, (∀ d ∈ ys, 0 ≤ d ∧ d ≤ 3650) → (exTx s ys).length ≤ 22 * ys.length := by
    intro ys
    induction ys with
    | nil => intro _; simp [exTx]
    | cons y ys ih =>
      intro h
      have h1 := h y (by simp)
      have h2 := ih (fun d hd => h d (by simp [hd]))
      have h3 := itoa_le y h1.1 (by omega)
      have e : exTx s (y :: ys) = [32, s] ++ itoa y ++ exTx s ys := by simp [exTx]
      rw [e]
      simp only [List.length_append, List.length_cons, List.length_nil]
      omega
  have h1 := this (xs.take k) (fun d hd => hx d (List.mem_of_mem_take hd))
  have h2 := List.length_take_le' k xs
  omega
def hdTx (c : CalD) : List UInt8 := itoa c.frm ++ [45] ++ itoa c.too ++ [32]
def calTx (c : CalD) : List UInt8 := hdTx c ++ wdTx c.wd 7 ++ exTx 43 c.added ++ exTx 45 c.removed
theorem days_in {c : CalD} (h : CalGood c) : (∀ d ∈ c.added, 0 ≤ d ∧ d ≤ 3650) ∧ (∀ d ∈ c.removed, 0 ≤ d ∧ d ≤ 3650) := by
  obtain ⟨⟨a, b, c1, _, _⟩, _, _, r1, r2, _, _⟩ := h
  refine ⟨fun d hd => ?_, fun d hd => ?_⟩
  · obtain ⟨j, hj, rfl⟩ := List.getElem_of_mem hd
    have := (r1 j hj hj).1; omega
  · obtain ⟨j, hj, rfl⟩ := List.getElem_of_mem hd
    have := (r2 j hj hj).1; omega
theorem hdTx_len {c : CalD} (h : CalGood c) : (hdTx c).length ≤ 42 := by
  obtain ⟨⟨a, b, c1, _, _⟩, _⟩ := h
  have h1 := itoa_le c.frm a (by omega)
  have h2 := itoa_le c.too (by omega) (by omega)
  simp only [hdTx, List.length_append, List.length_cons, List.length_nil]; omega
/-! the text as it grows -/
def calW (c : CalD) (k : Nat) : List UInt8 := hdTx c ++ wdTx c.wd k
def calA (c : CalD) (k : Nat) : List UInt8 := calW c 7 ++ exTx 43 (c.added.take k)
def calR (c : CalD) (k : Nat) : List UInt8 := calA c c.added.length ++ exTx 45 (c.removed.take k)
theorem calW_zero (c : CalD) : calW c 0 = hdTx c := by simp [calW, wdTx]
theorem calW_succ (c : CalD) (k : Nat) : calW c (k + 1) = calW c k ++ [wdC c.wd k] := by simp [calW, wdTx_succ]
theorem calA_zero (c : CalD) : calA c 0 = calW c 7 := by simp [calA, exTx]
theorem calA_succ (c : CalD) (k : Nat) (h : k < c.added.length) : calA c (k + 1) = calA c k ++ [32, 43] ++ itoa c.added[k] := by simp [calA, exTx_take _ _ _ h]
theorem calR_zero (c : CalD) : calR c 0 = calA c c.added.length := by simp [calR, exTx]
theorem calR_succ (c : CalD) (k : Nat) (h : k < c.removed.length) : calR c (k + 1) = calR c k ++ [32, 45] ++ itoa c.removed[k] := by simp [calR, exTx_take _ _ _ h]
theorem calR_all (c : CalD) : calR c c.removed.length = calTx c := by simp [calR, calA, calW, calTx]
theorem calW_len {c : CalD} (h : CalGood c) (k : Nat) : (calW c k).length ≤ 42 + k := by
  have h1 := hdTx_len h
  have h2 := wdTx_len c.wd k
  unfold calW; rw [List.length_append]; omega
theorem calA_len {c : CalD} (h : CalGood c) (k : Nat) : (calA c k).length ≤ 230 := by
  have h1 := calW_len h 7
  have h2 := exTx_len 43 c.added (days_in h).1 h.2.1 k
  unfold calA; rw [List.length_append]; omega
theorem calR_len {c : CalD} (h : CalGood c) (k : Nat) : (calR c k).length ≤ 410 := by
  have h1 := calA_len h c.added.length
  have h2 := exTx_len 45 c.removed (days_in h).2 h.2.2.1 k
  unfold calR; rw [List.length_append]; omega
end Go.Proofs.YtffcgblionlhhaaDoor
