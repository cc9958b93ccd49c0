/-
  PLAIN FACTS on strings of bytes, of no program: concatenation as lists, the first place of a byte, the parts of a text between bytes, the sealed text.
-/
import Derived.Test.YtfgkfdkdjegaiaaPlain1
import Derived.Lib.ItoaNum
import Derived.Lib.ItoaLen
import Derived.Lib.IndexMore
import Derived.Laws.Concat
namespace Go.Proofs.Ytfgkfdkdjegaiaa
open Go.RowKit Go.Lib

theorem mk_list (s : ByteArray) : (⟨s.data.toList.toArray⟩ : ByteArray) = s := by cases s; simp
theorem eq_mk (s : ByteArray) : s = ⟨s.data.toList.toArray⟩ := (mk_list s).symm
theorem length_list (s : ByteArray) : s.data.toList.length = s.size := by rw [Array.length_toList]; rfl
theorem byte_eq_int (a b : UInt8) : ((a.toNat : Int) == (b.toNat : Int)) = decide (a = b) := by
  rw [Bool.eq_iff_iff]; simp; constructor
  · intro h; exact UInt8.toNat_inj.1 (by omega)
  · rintro rfl; rfl
theorem size_mk (l : List UInt8) : (ByteArray.mk l.toArray).size = l.length := by simp [ByteArray.size]

/-- Go's '+' on strings -/
theorem str_add {P : Program} (W : World) (a b : ByteArray) (x y : List UInt8) (ha : a.data.toList = x) (hb : b.data.toList = y) (h : x.length + y.length ≤ 9223372036854775807) :
    (Op.stringOp .add a b).run P W = .ok (.string ⟨(x ++ y).toArray⟩) W := by
  subst ha; subst hb
  rw [run_string_add_sum W _ _ (by rw [length_list, length_list] at h; omega)]
  conv => lhs; rw [eq_mk a, eq_mk b, ByteArray.mk_append_mk]

/-- the first place of one byte -/
theorem index_one (c : UInt8) : ∀ l : List UInt8, (c ∈ l → index l [c] = ((l.takeWhile (· != c)).length : Int)) ∧ (c ∉ l → index l [c] = -1)
  | [] => ⟨fun h => by simp at h, fun _ => rfl⟩
  | b :: l => by
    have ih := index_one c l
    by_cases hb : b = c
    · subst hb
      refine ⟨fun _ => ?_, fun h => absurd (by simp) h⟩
      simp [index, List.isPrefixOf]
    · have hb' : ¬ c = b := fun h => hb h.symm
      have hp : ([c].isPrefixOf (b :: l)) = false := by simp [List.isPrefixOf, hb']
      constructor
      · intro h
        have h' : c ∈ l := by simpa [hb'] using h
        have e := ih.1 h'
        rw [index, hp, e]
        have : ¬ (((l.takeWhile (· != c)).length : Int) = -1) := by omega
        simp [this, hb]
      · intro h
        have h' : c ∉ l := by simp [hb'] at h; exact h
        rw [index, hp, ih.2 h']
        simp

theorem contains_one_yes (c : UInt8) (l : List UInt8) (h : c ∈ l) : contains l [c] = true := by
  rw [contains, (index_one c l).1 h]; simp
theorem contains_one_no (c : UInt8) (l : List UInt8) (h : c ∉ l) : contains l [c] = false := by
  rw [contains, (index_one c l).2 h]; simp
theorem takeWhile_take (c : UInt8) : ∀ l : List UInt8, l.take (l.takeWhile (· != c)).length = l.takeWhile (· != c)
  | [] => rfl
  | b :: l => by by_cases h : b = c <;> simp [h, takeWhile_take c l]
theorem takeWhile_all (c : UInt8) : ∀ l : List UInt8, c ∉ l → l.takeWhile (· != c) = l
  | [], _ => rfl
  | b :: l, h => by
    have h1 : ¬ b = c := fun e => h (by simp [e])
    have h2 : c ∉ l := fun e => h (by simp [e])
    simp [h1, takeWhile_all c l h2]
theorem takeWhile_not (c : UInt8) : ∀ l : List UInt8, c ∉ l.takeWhile (· != c)
  | [] => by simp
  | b :: l => by
    by_cases h : b = c
    · simp [h]
    · have h' : ¬ c = b := fun e => h e.symm
      simp [h, h', takeWhile_not c l]
theorem takeWhile_le (c : UInt8) (l : List UInt8) : (l.takeWhile (· != c)).length ≤ l.length := List.Sublist.length_le (List.takeWhile_sublist _)
theorem cut_one (c : UInt8) (l : List UInt8) : (cut l [c]).1 = l.takeWhile (· != c) := by
  by_cases h : c ∈ l
  · rw [cut, (index_one c l).1 h]; simp [takeWhile_take]
  · rw [cut, (index_one c l).2 h]; simp [takeWhile_all c l h]

/-- does a byte stand in a text? -/
def hasB (c : UInt8) (l : List UInt8) : Bool := decide (c ∈ l)
theorem hasB_yes {c : UInt8} {l : List UInt8} (h : c ∈ l) : hasB c l = true := decide_eq_true h
theorem hasB_no {c : UInt8} {l : List UInt8} (h : c ∉ l) : hasB c l = false := decide_eq_false h

/-- the sealed text -/
def sealL (l : List UInt8) : List UInt8 := l ++ [35] ++ itoa (sumL l)

theorem itoa_le (n : Int) (h0 : 0 ≤ n) (h1 : n < 18446744073709551616) : (itoa n).length ≤ 20 := by
  obtain ⟨k, rfl⟩ := Int.eq_ofNat_of_zero_le h0
  rw [itoa_nonneg, decDigits_length]
  exact nDigits_le20 k (by omega)
theorem sealL_len (l : List UInt8) : l.length < (sealL l).length ∧ (sealL l).length ≤ l.length + 21 := by
  have h := sumL_bd l
  have := itoa_le (sumL l) h.1 (by omega)
  simp [sealL]; omega

/-! the parts between bytes -/
def spStep (c : UInt8) (p : List (List UInt8) × List UInt8) (b : UInt8) : List (List UInt8) × List UInt8 := if b = c then (p.1 ++ [p.2], []) else (p.1, p.2 ++ [b])
def spFold (c : UInt8) (l : List UInt8) : List (List UInt8) × List UInt8 := l.foldl (spStep c) ([], [])
def splitL (c : UInt8) (l : List UInt8) : List (List UInt8) := (spFold c l).1 ++ [(spFold c l).2]
theorem spFold_snoc (c : UInt8) (l : List UInt8) (b : UInt8) : spFold c (l ++ [b]) = spStep c (spFold c l) b := by simp [spFold, List.foldl_append]

/-- what has been cut off and what is being gathered -/
theorem spFold_facts (c : UInt8) (l : List UInt8) : (spFold c l).2.length + (spFold c l).1.length ≤ l.length ∧ (spFold c l).2 = l.drop (l.length - (spFold c l).2.length) ∧
    ((spFold c l).1 = [] → (spFold c l).2 = l ∧ c ∉ l) ∧ ((spFold c l).1 ≠ [] → (spFold c l).1.head? = some (l.takeWhile (· != c)) ∧ c ∈ l) := by
  rcases List.eq_nil_or_concat l with rfl | ⟨t, b, rfl⟩
  · simp [spFold]
  · have ih := spFold_facts c t
    obtain ⟨h1, h2, h3, h4⟩ := ih
    rw [List.concat_eq_append, spFold_snoc, spStep]
    by_cases hb : b = c
    · subst hb
      rw [if_pos rfl]
      refine ⟨by simp; omega, by simp, fun h => by simp at h, fun _ => ⟨?_, by simp⟩⟩
      by_cases hn : (spFold b t).1 = []
      · obtain ⟨e1, e2⟩ := h3 hn
        rw [hn, e1]
        have := takeWhile_all b t e2
        rw [List.takeWhile_append, this]
        simp
      · obtain ⟨e1, e2⟩ := h4 hn
        rw [List.head?_append, e1]
        have hlt : ¬ (t.takeWhile (· != b)).length = t.length := by
          intro e
          have e3 : t.takeWhile (· != b) = t := (List.takeWhile_sublist (· != b)).eq_of_length e
          exact takeWhile_not b t (by rw [e3]; exact e2)
        rw [List.takeWhile_append, if_neg hlt]
        rfl
    · simp only [if_neg hb]
      have hb' : ¬ c = b := fun e => hb e.symm
      refine ⟨by simp; omega, ?_, fun h => ?_, fun h => ?_⟩
      · have hle : (spFold c t).2.length ≤ t.length := by omega
        simp only [List.length_append, List.length_cons, List.length_nil]
        rw [show t.length + 1 - ((spFold c t).2.length + 1) = t.length - (spFold c t).2.length by omega, List.drop_append_of_le_length (by omega), ← h2]
      · obtain ⟨e1, e2⟩ := h3 h
        exact ⟨by rw [e1], by simp [e2, hb']⟩
      · obtain ⟨e1, e2⟩ := h4 h
        have hlt : ¬ (t.takeWhile (· != c)).length = t.length := by
          intro e
          have e3 : t.takeWhile (· != c) = t := (List.takeWhile_sublist (· != c)).eq_of_length e
          exact takeWhile_not c t (by rw [e3]; exact e2)
        refine ⟨?_, by simp [e2]⟩
        rw [List.takeWhile_append, if_neg hlt]
        exact e1
termination_by l.length
decreasing_by simp_all

theorem splitL_head (c : UInt8) (l : List UInt8) : (splitL c l).head? = some (l.takeWhile (· != c)) := by
  obtain ⟨_, _, h3, h4⟩ := spFold_facts c l
  by_cases h : (spFold c l).1 = []
  · rw [splitL, h, (h3 h).1, takeWhile_all c l (h3 h).2]; rfl
  · rw [splitL, List.head?_append, (h4 h).1]; rfl
end Go.Proofs.Ytfgkfdkdjegaiaa
