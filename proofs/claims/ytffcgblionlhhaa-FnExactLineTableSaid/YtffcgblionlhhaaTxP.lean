/-
  PLAIN WORDS of chapter 6, of no program: the texts of stops, lines, networks and trips as lists of bytes, and the words that are joined to them.
-/
import Derived.Test.YtffcgblionlhhaaMa
import Derived.Test.YtffcgblionlhhaaJnP
namespace Go.Proofs.Ytffcgblionlhhaa
open Go.Lib
set_option linter.unusedVariables false

theorem getD_in {α : Type} {xs : List α} {k : Nat} (d : α) (hd : True) (h : k < xs.length) : xs.getD k d = xs[k] := by simp [List.getD, h]
theorem getD_out {α : Type} {xs : List α} {k : Nat} (d : α) (hd : True) (h : xs.length ≤ k) : xs.getD k d = d := by simp [List.getD, h]
/-- a stop's name by its number -/
def nmL (ss : List ByteArray) (s : Int) : List UInt8 := (ss.getD s.toNat ByteArray.empty).data.toList
def stopTx (s : ByteArray) : List UInt8 := [115, 116, 111, 112, 32] ++ s.data.toList ++ [10]
def stopsTx (ss : List ByteArray) : List UInt8 := ss.flatMap stopTx
theorem stopsTx_nil : stopsTx [] = [] := rfl
theorem stopsTx_snoc (ss : List ByteArray) (s : ByteArray) : stopsTx (ss ++ [s]) = stopsTx ss ++ stopTx s := by simp [stopsTx]
/-- the stops of a line up to the k-th, each with the run time behind it -/
def wayTx (ss : List ByteArray) (l : LineD) (k : Nat) : List UInt8 :=
  (List.range k).flatMap fun p => 32 :: nmL ss (l.stops.getD p 0) ++ if p < l.runs.length then 32 :: itoa (l.runs.getD p 0) else []
theorem wayTx_zero (ss : List ByteArray) (l : LineD) : wayTx ss l 0 = [] := rfl
theorem wayTx_succ (ss : List ByteArray) (l : LineD) (k : Nat) : wayTx ss l (k + 1) = wayTx ss l k ++ (32 :: nmL ss (l.stops.getD k 0) ++ if k < l.runs.length then 32 :: itoa (l.runs.getD k 0) else []) := by
  simp [wayTx, List.range_succ]
theorem wayTx_mid (ss : List ByteArray) (l : LineD) (k : Nat) (h : k < l.runs.length) : wayTx ss l (k + 1) = wayTx ss l k ++ [32] ++ nmL ss (l.stops.getD k 0) ++ [32] ++ itoa (l.runs.getD k 0) := by
  rw [wayTx_succ, if_pos h]; simp
theorem wayTx_last (ss : List ByteArray) (l : LineD) (k : Nat) (h : ¬ k < l.runs.length) : wayTx ss l (k + 1) = wayTx ss l k ++ [32] ++ nmL ss (l.stops.getD k 0) := by
  rw [wayTx_succ, if_neg h]; simp
def headTx (l : LineD) : List UInt8 := [108, 105, 110, 101, 32] ++ l.name.data.toList
def lineTx (ss : List ByteArray) (l : LineD) : List UInt8 := headTx l ++ wayTx ss l l.stops.length ++ [10]
def linesTx (ss : List ByteArray) (ls : List LineD) : List UInt8 := ls.flatMap (lineTx ss)
theorem linesTx_snoc (ss : List ByteArray) (ls : List LineD) (l : LineD) : linesTx ss (ls ++ [l]) = linesTx ss ls ++ lineTx ss l := by simp [linesTx]
def netTx (n : NetD) : List UInt8 := stopsTx n.stops ++ linesTx n.stops n.lines

/-- the words of a line up to its k-th run -/
def lnWd (ss : List ByteArray) (l : LineD) (k : Nat) : List ByteArray :=
  [⟨#[108, 105, 110, 101]⟩, l.name, ss.getD (l.stops.getD 0 0).toNat ByteArray.empty] ++ (List.range k).flatMap fun p => [⟨(itoa (l.runs.getD p 0)).toArray⟩, ss.getD (l.stops.getD (p + 1) 0).toNat ByteArray.empty]
theorem lnWd_succ (ss : List ByteArray) (l : LineD) (k : Nat) : lnWd ss l (k + 1) = lnWd ss l k ++ [⟨(itoa (l.runs.getD k 0)).toArray⟩, ss.getD (l.stops.getD (k + 1) 0).toNat ByteArray.empty] := by
  simp [lnWd, List.range_succ]
theorem lnWd_len (ss : List ByteArray) (l : LineD) (k : Nat) : (lnWd ss l k).length = 3 + 2 * k := by
  induction k with
  | zero => rfl
  | succ k ih => rw [lnWd_succ, List.length_append, ih]; simp; omega
theorem lnWd_ne (ss : List ByteArray) (l : LineD) (k : Nat) : lnWd ss l k ≠ [] := fun h => by have := lnWd_len ss l k; rw [h] at this; simp at this; omega
/-- the words joined by spaces are the text up to the k-th run's far stop -/
theorem lnWd_join (ss : List ByteArray) (l : LineD) (k : Nat) (h : k ≤ l.runs.length) :
    jnL 32 (lnWd ss l k) = headTx l ++ wayTx ss l k ++ [32] ++ nmL ss (l.stops.getD k 0) := by
  induction k with
  | zero =>
    rw [wayTx_zero]
    show jnL 32 [_, _, _] = _
    rw [jnL_cons, jnL_cons, jnL_one]
    simp [headTx, nmL]
  | succ k ih =>
    rw [lnWd_succ, show lnWd ss l k ++ [⟨(itoa (l.runs.getD k 0)).toArray⟩, ss.getD (l.stops.getD (k + 1) 0).toNat ByteArray.empty] = (lnWd ss l k ++ [⟨(itoa (l.runs.getD k 0)).toArray⟩]) ++ [ss.getD (l.stops.getD (k + 1) 0).toNat ByteArray.empty] by simp,
      jnL_snoc _ _ _ (by simp), jnL_snoc _ _ _ (lnWd_ne ss l k), ih (by omega), wayTx_mid ss l k (by omega)]
    simp [nmL]
theorem lnWd_all (ss : List ByteArray) (l : LineD) (h : l.runs.length + 1 = l.stops.length) : jnL 32 (lnWd ss l l.runs.length) ++ [10] = lineTx ss l := by
  rw [lnWd_join ss l _ (Nat.le_refl _), lineTx, ← h, wayTx_last ss l _ (by omega)]
  simp

/-! how long the texts are -/
theorem stopTx_len (s : ByteArray) : (stopTx s).length = s.size + 6 := by
  have := length_list s
  simp only [stopTx, List.length_append, List.length_cons, List.length_nil]; omega
theorem flat_len {α : Type} (f : α → List UInt8) (b : Nat) : ∀ xs : List α, (∀ x ∈ xs, (f x).length ≤ b) → (xs.flatMap f).length ≤ b * xs.length
  | [], _ => by simp
  | x :: xs, h => by
    have h1 := h x (by simp)
    have h2 := flat_len f b xs (fun y hy => h y (by simp [hy]))
    simp only [List.flatMap_cons, List.length_append, List.length_cons]
    rw [Nat.mul_add]; omega
theorem nmL_len (ss : List ByteArray) (h : ∀ s ∈ ss, s.size ≤ 8) (s : Int) : (nmL ss s).length ≤ 8 := by
  unfold nmL
  rw [length_list]
  by_cases hs : s.toNat < ss.length
  · rw [getD_in _ trivial hs]; exact h _ (List.getElem_mem hs)
  · rw [getD_out _ trivial (by omega)]; decide
theorem run_len (l : LineD) (h : ∀ r ∈ l.runs, 1 ≤ r ∧ r ≤ 60) (p : Nat) : (itoa (l.runs.getD p 0)).length ≤ 20 := by
  by_cases hs : p < l.runs.length
  · rw [getD_in _ trivial hs]; have := h _ (List.getElem_mem hs); exact itoa_le _ (by omega) (by omega)
  · rw [getD_out _ trivial (by omega)]; exact itoa_le _ (by omega) (by omega)
theorem wayTx_len (ss : List ByteArray) (l : LineD) (hs : ∀ s ∈ ss, s.size ≤ 8) (h : ∀ r ∈ l.runs, 1 ≤ r ∧ r ≤ 60) (k : Nat) : (wayTx ss l k).length ≤ 30 * k := by
  have := flat_len (fun p => 32 :: nmL ss (l.stops.getD p 0) ++ if p < l.runs.length then 32 :: itoa (l.runs.getD p 0) else []) 30 (List.range k) (fun p _ => by
    have h1 := nmL_len ss hs (l.stops.getD p 0)
    have h2 := run_len l h p
    generalize nmL ss (l.stops.getD p 0) = x at *
    generalize itoa (l.runs.getD p 0) = y at *
    split <;> simp <;> omega)
  simpa [wayTx] using this
theorem lineTx_len (ss : List ByteArray) (l : LineD) (hs : ∀ s ∈ ss, s.size ≤ 8) (h : ∀ r ∈ l.runs, 1 ≤ r ∧ r ≤ 60) (hn : l.name.size ≤ 8) (hl : l.stops.length ≤ 6) : (lineTx ss l).length ≤ 200 := by
  have h1 := wayTx_len ss l hs h l.stops.length
  simp [lineTx, headTx]; omega
theorem good_sizes {n : NetD} (h : NetGood n) : (∀ s ∈ n.stops, s.size ≤ 8) ∧ ∀ l ∈ n.lines, l.name.size ≤ 8 ∧ (2 ≤ l.stops.length ∧ l.stops.length ≤ 6) ∧ l.runs.length + 1 = l.stops.length ∧ (∀ r ∈ l.runs, 1 ≤ r ∧ r ≤ 60) ∧ ∀ s ∈ l.stops, 0 ≤ s ∧ s < (n.stops.length : Int) :=
  ⟨fun s hs => (h.2.1 s hs).2.1, fun l hl => ⟨(h.2.2.2.1 l hl).1.2.1, ⟨(h.2.2.2.1 l hl).2.1.1, (h.2.2.2.1 l hl).2.1.2.1⟩, (h.2.2.2.1 l hl).2.1.2.2, (h.2.2.2.1 l hl).2.2.2.2, (h.2.2.2.1 l hl).2.2.1⟩⟩
theorem stopsTx_len {n : NetD} (h : NetGood n) (k : Nat) : (stopsTx (n.stops.take k)).length ≤ 112 := by
  have h1 := flat_len stopTx 14 (n.stops.take k) (fun s hs => by have := (good_sizes h).1 s (List.mem_of_mem_take hs); rw [stopTx_len]; omega)
  have h2 := List.length_take_le' k n.stops
  have h3 := h.1
  unfold stopsTx; omega
theorem linesTx_len {n : NetD} (h : NetGood n) (k : Nat) : (linesTx n.stops (n.lines.take k)).length ≤ 1000 := by
  have h1 := flat_len (lineTx n.stops) 200 (n.lines.take k) (fun l hl => by
    obtain ⟨a, b, c, d, e⟩ := (good_sizes h).2 l (List.mem_of_mem_take hl)
    exact lineTx_len _ _ (good_sizes h).1 d a b.2)
  have h2 := List.length_take_le' k n.lines
  have h3 := h.1
  unfold linesTx; omega
theorem netTx_len {n : NetD} (h : NetGood n) : (netTx n).length ≤ 1112 := by
  have h1 := stopsTx_len h n.stops.length
  have h2 := linesTx_len h n.lines.length
  rw [List.take_length] at h1 h2
  unfold netTx; rw [List.length_append]; omega
end Go.Proofs.Ytffcgblionlhhaa
