/-
  PLAIN WORDS of chapter 6, of no program: the text of a trip with its stops and times.
-/
import Derived.Test.YtffcgblionlhhaaTxP
import Derived.Test.YtffcgblionlhhaaTimeP
namespace Go.Proofs.Ytffcgblionlhhaa
open Go.Lib
set_option linter.unusedVariables false

def nmB (ss : List ByteArray) (s : Int) : ByteArray := ss.getD s.toNat ByteArray.empty
theorem nmL_nmB (ss : List ByteArray) (s : Int) : nmL ss s = (nmB ss s).data.toList := rfl
theorem nmB_at (ss : List ByteArray) (k : Nat) (h : k < ss.length) : nmB ss k = ss[k] := by
  unfold nmB; rw [Int.toNat_natCast, getD_in _ trivial h]
/-- the stop time at a place -/
def tmB (l : LineD) (st : Int) (p : Nat) : ByteArray := timeC (st + (l.runs.take p).sum).toNat
def atTx (ss : List ByteArray) (l : LineD) (st : Int) (k : Nat) : List UInt8 :=
  (List.range k).flatMap fun p => [32] ++ (nmB ss (l.stops.getD p 0)).data.toList ++ [32] ++ (tmB l st p).data.toList
theorem atTx_succ (ss : List ByteArray) (l : LineD) (st : Int) (k : Nat) : atTx ss l st (k + 1) = atTx ss l st k ++ [32] ++ (nmB ss (l.stops.getD k 0)).data.toList ++ [32] ++ (tmB l st k).data.toList := by
  simp [atTx, List.range_succ]
def tripHd (l : LineD) : List UInt8 := l.name.data.toList ++ [58]
def tripTx (ss : List ByteArray) (l : LineD) (st : Int) (k : Nat) : List UInt8 := tripHd l ++ atTx ss l st k
theorem tripTx_succ (ss : List ByteArray) (l : LineD) (st : Int) (k : Nat) : tripTx ss l st (k + 1) = tripTx ss l st k ++ [32] ++ (nmB ss (l.stops.getD k 0)).data.toList ++ [32] ++ (tmB l st k).data.toList := by
  simp [tripTx, atTx_succ]
def tripW (ss : List ByteArray) (l : LineD) (st : Int) (k : Nat) : List ByteArray :=
  ⟨(tripHd l).toArray⟩ :: (List.range k).flatMap fun p => [nmB ss (l.stops.getD p 0), tmB l st p]
theorem tripW_zero (ss : List ByteArray) (l : LineD) (st : Int) : tripW ss l st 0 = [⟨(tripHd l).toArray⟩] := rfl
theorem tripW_succ (ss : List ByteArray) (l : LineD) (st : Int) (k : Nat) : tripW ss l st (k + 1) = tripW ss l st k ++ [nmB ss (l.stops.getD k 0), tmB l st k] := by
  simp [tripW, List.range_succ]
theorem tripW_len (ss : List ByteArray) (l : LineD) (st : Int) (k : Nat) : (tripW ss l st k).length = 1 + 2 * k := by
  induction k with
  | zero => rfl
  | succ k ih => rw [tripW_succ, List.length_append, ih]; simp; omega
theorem tripW_ne (ss : List ByteArray) (l : LineD) (st : Int) (k : Nat) : tripW ss l st k ≠ [] := fun h => by have := tripW_len ss l st k; rw [h] at this; simp at this; omega
theorem tripW_join (ss : List ByteArray) (l : LineD) (st : Int) (k : Nat) : jnL 32 (tripW ss l st k) = tripTx ss l st k := by
  induction k with
  | zero => rw [tripW_zero, jnL_one]; simp [tripTx, atTx]
  | succ k ih =>
    rw [tripW_succ, show tripW ss l st k ++ [nmB ss (l.stops.getD k 0), tmB l st k] = (tripW ss l st k ++ [nmB ss (l.stops.getD k 0)]) ++ [tmB l st k] by simp,
      jnL_snoc _ _ _ (by simp), jnL_snoc _ _ _ (tripW_ne ss l st k), ih, tripTx_succ]
theorem nmB_len (ss : List ByteArray) (h : ∀ s ∈ ss, s.size ≤ 8) (s : Int) : (nmB ss s).size ≤ 8 := by
  have := nmL_len ss h s
  rw [nmL_nmB, length_list] at this; exact this
theorem tmB_len (l : LineD) (st : Int) (p : Nat) : (tmB l st p).size = 5 := rfl
theorem tripTx_len (ss : List ByteArray) (l : LineD) (st : Int) (hs : ∀ s ∈ ss, s.size ≤ 8) (hn : l.name.size ≤ 8) (k : Nat) : (tripTx ss l st k).length ≤ 9 + 15 * k := by
  have := flat_len (fun p => [32] ++ (nmB ss (l.stops.getD p 0)).data.toList ++ [32] ++ (tmB l st p).data.toList) 15 (List.range k) (fun p _ => by
    have h1 := nmB_len ss hs (l.stops.getD p 0)
    have h2 := tmB_len l st p
    generalize nmB ss (l.stops.getD p 0) = x at *
    generalize tmB l st p = y at *
    rw [← length_list] at h1 h2
    simp only [List.length_append, List.length_cons, List.length_nil]; omega)
  have h3 := length_list l.name
  simp only [tripTx, tripHd, atTx, List.length_append, List.length_cons, List.length_nil, List.length_range] at *
  omega
end Go.Proofs.Ytffcgblionlhhaa
