/-
  PLAIN WORDS of chapter 6, of no program: the numbers of a line's trips in the order of their starts; the table of a line.
-/
import Derived.Test.YtffcgblionlhhaaStartsP
import Derived.Test.YtffcgblionlhhaaTripTxP
namespace Go.Proofs.Ytffcgblionlhhaa
open Go.Lib
set_option linter.unusedVariables false

/-- the numbers of a line's trips among the first k, entered one by one -/
def trS (t : TTD) (line : Int) : Nat → List Int
  | 0 => []
  | k + 1 => match t.trips[k]? with
    | some x => if x.line = line then (trS t line k).take (insAt x.start (stS t line k)) ++ ([(k : Int)] ++ (trS t line k).drop (insAt x.start (stS t line k))) else trS t line k
    | none => trS t line k
def stAt (t : TTD) (j : Int) : Int := ((t.trips[j.toNat]?).map (fun x => x.start)).getD 0
theorem stAt_at {t : TTD} {k : Nat} (h : k < t.trips.length) : stAt t k = (t.trips[k]).start := by
  unfold stAt; rw [Int.toNat_natCast, List.getElem?_eq_getElem h]; rfl
theorem trS_yes {t : TTD} {line : Int} {k : Nat} (hk : k < t.trips.length) (h : (t.trips[k]).line = line) : trS t line (k + 1) = (trS t line k).take (insAt (t.trips[k]).start (stS t line k)) ++ ([(k : Int)] ++ (trS t line k).drop (insAt (t.trips[k]).start (stS t line k))) := by
  simp only [trS, List.getElem?_eq_getElem hk, if_pos h]
theorem trS_no {t : TTD} {line : Int} {k : Nat} (hk : k < t.trips.length) (h : ¬ (t.trips[k]).line = line) : trS t line (k + 1) = trS t line k := by
  simp only [trS, List.getElem?_eq_getElem hk, if_neg h]
theorem trS_map (t : TTD) (line : Int) : ∀ k, k ≤ t.trips.length → (trS t line k).map (stAt t) = stS t line k
  | 0, _ => rfl
  | k + 1, hk => by
    have ih := trS_map t line k (by omega)
    by_cases h : (t.trips[k]).line = line
    · rw [trS_yes (by omega) h, stS_yes (by omega) h, List.map_append, List.map_append, List.map_take, List.map_drop, ih]
      simp only [List.map_cons, List.map_nil, stAt_at (show k < t.trips.length by omega)]
      rfl
    · rw [trS_no (by omega) h, stS_no (by omega) h]; exact ih
theorem trS_len (t : TTD) (line : Int) (k : Nat) (hk : k ≤ t.trips.length) : (trS t line k).length = (stS t line k).length := by
  rw [← trS_map t line k hk, List.length_map]
theorem trS_get (t : TTD) (line : Int) (k : Nat) (hk : k ≤ t.trips.length) (j : Nat) (hj : j < (trS t line k).length) (hj2 : j < (stS t line k).length) : stAt t ((trS t line k)[j]) = (stS t line k)[j] := by
  have h := trS_map t line k hk
  have h2 : ((trS t line k).map (stAt t))[j]? = (stS t line k)[j]? := by rw [h]
  rw [List.getElem?_map, List.getElem?_eq_getElem hj, List.getElem?_eq_getElem hj2] at h2
  simpa using h2
theorem trS_sorted (t : TTD) (line : Int) (k : Nat) (hk : k ≤ t.trips.length) (i j : Nat) (hij : i ≤ j) (hi : i < (trS t line k).length) (hj : j < (trS t line k).length) : stAt t ((trS t line k)[i]) ≤ stAt t ((trS t line k)[j]) := by
  have hl := trS_len t line k hk
  rw [trS_get t line k hk i (by omega) (by omega), trS_get t line k hk j hj (by omega)]
  exact stS_sorted t line k hk i j hij (by omega)
theorem trS_ins {t : TTD} {line : Int} {k : Nat} (hk : k < t.trips.length) (h : (t.trips[k]).line = line) (m : Nat) (hm : m ≤ (trS t line k).length)
    (h1 : ∀ j (hj : j < (trS t line k).length), j < m → stAt t ((trS t line k)[j]) ≤ (t.trips[k]).start) (h2 : ∀ (hm : m < (trS t line k).length), (t.trips[k]).start < stAt t ((trS t line k)[m])) :
    trS t line (k + 1) = (trS t line k).take m ++ ([(k : Int)] ++ (trS t line k).drop m) := by
  have hl := trS_len t line k (by omega)
  have e := insAt_eq (t.trips[k]).start (stS t line k) m (by omega) (fun j hj hjm => by rw [← trS_get t line k (by omega) j (by omega) hj]; exact h1 j (by omega) hjm) (fun hm2 => by rw [← trS_get t line k (by omega) m (by omega) hm2]; exact h2 (by omega))
  rw [trS_yes hk h, e]
theorem trS_mem (t : TTD) (line : Int) : ∀ k, k ≤ t.trips.length → ∀ j ∈ trS t line k, ∃ m : Nat, j = (m : Int) ∧ m < k ∧ ∃ hm : m < t.trips.length, (t.trips[m]).line = line
  | 0, _ => by simp [trS]
  | k + 1, hk => fun j hj => by
    have ih := trS_mem t line k (by omega)
    by_cases h : (t.trips[k]).line = line
    · rw [trS_yes (by omega) h] at hj
      simp only [List.mem_append, List.mem_singleton] at hj
      rcases hj with hj | hj | hj
      · obtain ⟨m, h1, h2, h3⟩ := ih j (List.mem_of_mem_take hj)
        exact ⟨m, h1, by omega, h3⟩
      · exact ⟨k, hj, by omega, by omega, h⟩
      · obtain ⟨m, h1, h2, h3⟩ := ih j (List.mem_of_mem_drop hj)
        exact ⟨m, h1, by omega, h3⟩
    · rw [trS_no (by omega) h] at hj
      obtain ⟨m, h1, h2, h3⟩ := ih j hj
      exact ⟨m, h1, by omega, h3⟩

/-- the row of a stop: its name and the stop times of the first k of the trips -/
def ltRow (ss : List ByteArray) (l : LineD) (L : List Int) (p k : Nat) : List UInt8 := (nmB ss (l.stops.getD p 0)).data.toList ++ (L.take k).flatMap (fun s => [32] ++ (tmB l s p).data.toList)
theorem ltRow_zero (ss : List ByteArray) (l : LineD) (L : List Int) (p : Nat) : ltRow ss l L p 0 = (nmB ss (l.stops.getD p 0)).data.toList := by simp [ltRow]
theorem ltRow_succ (ss : List ByteArray) (l : LineD) (L : List Int) (p k : Nat) (h : k < L.length) : ltRow ss l L p (k + 1) = ltRow ss l L p k ++ [32] ++ (tmB l L[k] p).data.toList := by
  unfold ltRow
  rw [List.take_succ_eq_append_getElem h, List.flatMap_append]
  simp
theorem ltRow_len (ss : List ByteArray) (l : LineD) (L : List Int) (hs : ∀ s ∈ ss, s.size ≤ 8) (hL : L.length ≤ 1048576) (p k : Nat) : (ltRow ss l L p k).length ≤ 6291464 := by
  have := flat_len (fun s => [32] ++ (tmB l s p).data.toList) 6 (L.take k) (fun s _ => by
    have h2 := tmB_len l s p
    generalize tmB l s p = y at *
    rw [← length_list] at h2
    simp only [List.length_append, List.length_cons, List.length_nil]; omega)
  have h1 := nmB_len ss hs (l.stops.getD p 0)
  have h3 : (L.take k).length ≤ L.length := by simp; omega
  unfold ltRow
  rw [List.length_append]
  generalize nmB ss (l.stops.getD p 0) = x at *
  rw [← length_list] at h1
  generalize (List.flatMap (fun s => [32] ++ (tmB l s p).data.toList) (L.take k)).length = y at *
  generalize (L.take k).length = z at *
  omega
def ltB (ss : List ByteArray) (l : LineD) (L : List Int) (p : Nat) : ByteArray := ⟨(ltRow ss l L p L.length).toArray⟩
/-- the rows of the first k stops -/
def ltT (ss : List ByteArray) (l : LineD) (L : List Int) (k : Nat) : List ByteArray := (List.range k).map (ltB ss l L)
theorem ltT_len (ss : List ByteArray) (l : LineD) (L : List Int) (k : Nat) : (ltT ss l L k).length = k := by simp [ltT]
theorem ltT_succ (ss : List ByteArray) (l : LineD) (L : List Int) (k : Nat) : ltT ss l L (k + 1) = ltT ss l L k ++ [ltB ss l L k] := by simp [ltT, List.range_succ]
/-- the table of a line of a timetable -/
def tabL (t : TTD) (line : Int) : List ByteArray := match t.net.lines[line.toNat]? with
  | some l => ltT t.net.stops l (stS t line t.trips.length) l.stops.length
  | none => []
theorem tabL_at {t : TTD} {k : Nat} (h : k < t.net.lines.length) : tabL t k = ltT t.net.stops t.net.lines[k] (stS t k t.trips.length) t.net.lines[k].stops.length := by
  unfold tabL; rw [Int.toNat_natCast, List.getElem?_eq_getElem h]
noncomputable def ltF (t : TTD) (line : Int) : List ByteArray × Bool := if TTGood t ∧ (0 ≤ line ∧ line < (t.net.lines.length : Int)) then (tabL t line, true) else ([], false)
end Go.Proofs.Ytffcgblionlhhaa
