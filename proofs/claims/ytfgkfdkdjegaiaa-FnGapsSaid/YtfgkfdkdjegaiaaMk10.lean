/-
  JOINED TEXTS, each under its own namespace line: Str, MarkS, MarkStr, Own.
-/
import Derived.Test.YtfgkfdkdjegaiaaMk01
import Derived.Lib.ItoaNum
import Derived.Lib.ItoaLen
import Derived.Lib.IndexMore
import Derived.Laws.Concat
import Derived.Test.YtfgkfdkdjegaiaaMk09
import Derived.Laws.Strings
import Derived.Laws.IdiomStrings
import Derived.Deep.RegionHeld3
import Derived.BigQuiet
import Derived.Laws.Entries
import Derived.Test.YtfgkfdkdjegaiaaMk05
import Derived.OwnWalk
import Derived.Laws.NewBlocks
namespace Go.Proofs.Ytfgkfdkdjegaiaa
open Go.RowKit Go.Lib

theorem mk_list (s : ByteArray) : (⟨s.data.toList.toArray⟩ : ByteArray) = s := by cases s; simp
theorem eq_mk (s : ByteArray) : s = ⟨s.data.toList.toArray⟩ := (mk_list s).symm
theorem length_list (s : ByteArray) : s.data.toList.length = s.size := by rw [Array.length_toList]; rfl
theorem byte_eq_int (a b : UInt8) : ((a.toNat : Int) == (b.toNat : Int)) = decide (a = b) := by
  rw [Bool.eq_iff_iff]; simp; constructor
  · intro h; exact UInt8.toNat_inj.1 (by omega)
  · rintro rfl; rfl
theorem size_mk (l : List UInt8) : (ByteArray.mk l.toArray).size = l.length := by simp [ByteArray.size]

/-- Go's '+' on strings -/
theorem str_add {P : Program} (W : World) (a b : ByteArray) (x y : List UInt8) (ha : a.data.toList = x) (hb : b.data.toList = y) (h : x.length + y.length ≤ 9223372036854775807) :
    (Op.stringOp .add a b).run P W = .ok (.string ⟨(x ++ y).toArray⟩) W := by
  subst ha; subst hb
  rw [run_string_add_sum W _ _ (by rw [length_list, length_list] at h; omega)]
  conv => lhs; rw [eq_mk a, eq_mk b, ByteArray.mk_append_mk]

/-- the first place of one byte -/
theorem index_one (c : UInt8) : ∀ l : List UInt8, (c ∈ l → index l [c] = ((l.takeWhile (· != c)).length : Int)) ∧ (c ∉ l → index l [c] = -1)
  | [] => ⟨fun h => by simp at h, fun _ => rfl⟩
  | b :: l => by
    have ih := index_one c l
    by_cases hb : b = c
    · subst hb
      refine ⟨fun _ => ?_, fun h => absurd (by simp) h⟩
      simp [index, List.isPrefixOf]
    · have hb' : ¬ c = b := fun h => hb h.symm
      have hp : ([c].isPrefixOf (b :: l)) = false := by simp [List.isPrefixOf, hb']
      constructor
      · intro h
        have h' : c ∈ l := by simpa [hb'] using h
        have e := ih.1 h'
        rw [index, hp, e]
        have : ¬ (((l.takeWhile (· != c)).length : Int) = -1) := by omega
        simp [this, hb]
      · intro h
        have h' : c ∉ l := by simp [hb'] at h; exact h
        rw [index, hp, ih.2 h']
        simp

theorem contains_one_yes (c : UInt8) (l : List UInt8) (h : c ∈ l) : contains l [c] = true := by
  rw [contains, (index_one c l).1 h]; simp
theorem contains_one_no (c : UInt8) (l : List UInt8) (h : c ∉ l) : contains l [c] = false := by
  rw [contains, (index_one c l).2 h]; simp
theorem takeWhile_take (c : UInt8) : ∀ l : List UInt8, l.take (l.takeWhile (· != c)).length = l.takeWhile (· != c)
  | [] => rfl
  | b :: l => by by_cases h : b = c <;> simp [h, takeWhile_take c l]
theorem takeWhile_all (c : UInt8) : ∀ l : List UInt8, c ∉ l → l.takeWhile (· != c) = l
  | [], _ => rfl
  | b :: l, h => by
    have h1 : ¬ b = c := fun e => h (by simp [e])
    have h2 : c ∉ l := fun e => h (by simp [e])
    simp [h1, takeWhile_all c l h2]
theorem takeWhile_not (c : UInt8) : ∀ l : List UInt8, c ∉ l.takeWhile (· != c)
  | [] => by simp
  | b :: l => by
    by_cases h : b = c
    · simp [h]
    · have h' : ¬ c = b := fun e => h e.symm
      simp [h, h', takeWhile_not c l]
theorem takeWhile_le (c : UInt8) (l : List UInt8) : (l.takeWhile (· != c)).length ≤ l.length := List.Sublist.length_le (List.takeWhile_sublist _)
theorem cut_one (c : UInt8) (l : List UInt8) : (cut l [c]).1 = l.takeWhile (· != c) := by
  by_cases h : c ∈ l
  · rw [cut, (index_one c l).1 h]; simp [takeWhile_take]
  · rw [cut, (index_one c l).2 h]; simp [takeWhile_all c l h]

/-- does a byte stand in a text? -/
def hasB (c : UInt8) (l : List UInt8) : Bool := decide (c ∈ l)
theorem hasB_yes {c : UInt8} {l : List UInt8} (h : c ∈ l) : hasB c l = true := decide_eq_true h
theorem hasB_no {c : UInt8} {l : List UInt8} (h : c ∉ l) : hasB c l = false := decide_eq_false h

/-- the sealed text -/
def sealL (l : List UInt8) : List UInt8 := l ++ [35] ++ itoa (sumL l)

theorem itoa_le (n : Int) (h0 : 0 ≤ n) (h1 : n < 18446744073709551616) : (itoa n).length ≤ 20 := by
  obtain ⟨k, rfl⟩ := Int.eq_ofNat_of_zero_le h0
  rw [itoa_nonneg, decDigits_length]
  exact nDigits_le20 k (by omega)
theorem sealL_len (l : List UInt8) : l.length < (sealL l).length ∧ (sealL l).length ≤ l.length + 21 := by
  have h := sumL_bd l
  have := itoa_le (sumL l) h.1 (by omega)
  simp [sealL]; omega

/-! the parts between bytes -/
def spStep (c : UInt8) (p : List (List UInt8) × List UInt8) (b : UInt8) : List (List UInt8) × List UInt8 := if b = c then (p.1 ++ [p.2], []) else (p.1, p.2 ++ [b])
def spFold (c : UInt8) (l : List UInt8) : List (List UInt8) × List UInt8 := l.foldl (spStep c) ([], [])
def splitL (c : UInt8) (l : List UInt8) : List (List UInt8) := (spFold c l).1 ++ [(spFold c l).2]
theorem spFold_snoc (c : UInt8) (l : List UInt8) (b : UInt8) : spFold c (l ++ [b]) = spStep c (spFold c l) b := by simp [spFold, List.foldl_append]

/-- what has been cut off and what is being gathered -/
theorem spFold_facts (c : UInt8) (l : List UInt8) : (spFold c l).2.length + (spFold c l).1.length ≤ l.length ∧ (spFold c l).2 = l.drop (l.length - (spFold c l).2.length) ∧
    ((spFold c l).1 = [] → (spFold c l).2 = l ∧ c ∉ l) ∧ ((spFold c l).1 ≠ [] → (spFold c l).1.head? = some (l.takeWhile (· != c)) ∧ c ∈ l) := by
  rcases List.eq_nil_or_concat l with rfl | ⟨t, b, rfl⟩
  · simp [spFold]
  · have ih := spFold_facts c t
    obtain ⟨h1, h2, h3, h4⟩ := ih
    rw [List.concat_eq_append, spFold_snoc, spStep]
    by_cases hb : b = c
    · subst hb
      rw [if_pos rfl]
      refine ⟨by simp; omega, by simp, fun h => by simp at h, fun _ => ⟨?_, by simp⟩⟩
      by_cases hn : (spFold b t).1 = []
      · obtain ⟨e1, e2⟩ := h3 hn
        rw [hn, e1]
        have := takeWhile_all b t e2
        rw [List.takeWhile_append, this]
        simp
      · obtain ⟨e1, e2⟩ := h4 hn
        rw [List.head?_append, e1]
        have hlt : ¬ (t.takeWhile (· != b)).length = t.length := by
          intro e
          have e3 : t.takeWhile (· != b) = t := (List.takeWhile_sublist (· != b)).eq_of_length e
          exact takeWhile_not b t (by rw [e3]; exact e2)
        rw [List.takeWhile_append, if_neg hlt]
        rfl
    · simp only [if_neg hb]
      have hb' : ¬ c = b := fun e => hb e.symm
      refine ⟨by simp; omega, ?_, fun h => ?_, fun h => ?_⟩
      · have hle : (spFold c t).2.length ≤ t.length := by omega
        simp only [List.length_append, List.length_cons, List.length_nil]
        rw [show t.length + 1 - ((spFold c t).2.length + 1) = t.length - (spFold c t).2.length by omega, List.drop_append_of_le_length (by omega), ← h2]
      · obtain ⟨e1, e2⟩ := h3 h
        exact ⟨by rw [e1], by simp [e2, hb']⟩
      · obtain ⟨e1, e2⟩ := h4 h
        have hlt : ¬ (t.takeWhile (· != c)).length = t.length := by
          intro e
          have e3 : t.takeWhile (· != c) = t := (List.takeWhile_sublist (· != c)).eq_of_length e
          exact takeWhile_not c t (by rw [e3]; exact e2)
        refine ⟨?_, by simp [e2]⟩
        rw [List.takeWhile_append, if_neg hlt]
        exact e1
termination_by l.length
decreasing_by simp_all

theorem splitL_head (c : UInt8) (l : List UInt8) : (splitL c l).head? = some (l.takeWhile (· != c)) := by
  obtain ⟨_, _, h3, h4⟩ := spFold_facts c l
  by_cases h : (spFold c l).1 = []
  · rw [splitL, h, (h3 h).1, takeWhile_all c l (h3 h).2]; rfl
  · rw [splitL, List.head?_append, (h4 h).1]; rfl
end Go.Proofs.Ytfgkfdkdjegaiaa

namespace Go.Proofs.Ytfgkfdkdjegaiaa
open Go.RowKit
set_option linter.unusedVariables false

/-- the digits of a number, none for 0 -/
def digsF : Nat → Nat → List UInt8
  | 0, _ => []
  | f + 1, k => if k = 0 then [] else digsF f (k / 10) ++ [UInt8.ofNat (48 + k % 10)]
def digs (k : Nat) : List UInt8 := digsF k k
theorem digsF_more : ∀ (f g k : Nat), k ≤ f → k ≤ g → digsF f k = digsF g k
  | 0, g, k, h, _ => by
    have : k = 0 := by omega
    subst this
    cases g <;> simp [digsF]
  | f + 1, 0, k, _, h => by
    have : k = 0 := by omega
    subst this
    simp [digsF]
  | f + 1, g + 1, k, h1, h2 => by
    simp only [digsF]
    split
    · rfl
    · rw [digsF_more f g (k / 10) (by omega) (by omega)]
theorem digs_zero : digs 0 = [] := rfl
theorem digs_step (k : Nat) (h : 0 < k) : digs k = digs (k / 10) ++ [UInt8.ofNat (48 + k % 10)] := by
  obtain ⟨j, rfl⟩ : ∃ j, k = j + 1 := ⟨k - 1, by omega⟩
  unfold digs
  rw [show digsF (j + 1) (j + 1) = digsF j ((j + 1) / 10) ++ [UInt8.ofNat (48 + (j + 1) % 10)] by simp [digsF]]
  rw [digsF_more j ((j + 1) / 10) ((j + 1) / 10) (by omega) (by omega)]
theorem digs_len : ∀ (k : Nat), (digs k).length ≤ k := fun k => by
  induction k using Nat.strongRecOn with
  | _ k ih =>
    by_cases h : 0 < k
    · rw [digs_step k h]; have := ih (k / 10) (by omega); simp; omega
    · have : k = 0 := by omega
      subst this; simp [digs_zero]
/-- the text that marks k -/
def markL (k : Nat) : List UInt8 := [109] ++ digs k

set_option maxRecDepth 100000 in
set_option maxHeartbeats 1000000 in
theorem markText_any (k : Nat) (w : World) (hk0 : 0 < k) (hk : k ≤ 1073741824) :
    Calls Try.prog 110 #[.int .i64 k] w fun e w' => e = .returned (.string ⟨(markL k).toArray⟩) ∧ Below w.heap.size w w' := by
  have hdl := Lib.hid (digs_len k)
  go_enter Try.func110, Try.ntmps110
  go_wp2
  go_loopw [0, 3] (fun q o wr => ∃ j : Nat, q = .int .i64 j ∧ j ≤ k ∧ (∃ l : List UInt8, o = .string ⟨l.toArray⟩ ∧ Hid (digs j ++ l = digs k)) ∧ Below w.heap.size w wr)
    (fun q _ _ => (RowKit.intOf q).toNat)
  case atStart => exact ⟨k, rfl, Nat.le_refl _, ⟨[], rfl, by show _ = _; simp⟩, Below.refl _ _⟩
  case round =>
    obtain ⟨j, rfl, hj, ⟨l, rfl, HL⟩, hbel⟩ := hrel
    by_cases h0 : 0 < j
    · have h0i : (0 : Int) < (j : Int) := by omega
      have HL2 : Hid (digs (j / 10) ++ (UInt8.ofNat (48 + j % 10) :: l) = digs k) := by
        have := HL.out; rw [digs_step j h0] at this; show _ = _; rw [← this]; simp
      have hlen : l.length ≤ 1073741824 := by have h1 := congrArg List.length HL.out; have h2 := hdl.out; simp at h1; omega
      have hd : ((UInt8.ofNat (48 + j % 10)).toNat : Int) = 48 + (j : Int) % 10 := by
        rw [UInt8.toNat_ofNat']; omega
      have hconv : (convert 22 9 (.slice (some ⟨wr.heap.size, 0, none⟩) 1 1)).run Try.prog (wr.alloc (.cells #[.int .u8 (48 + (j : Int) % 10)] 5)) = .ok (.string ⟨[UInt8.ofNat (48 + j % 10)].toArray⟩) (wr.alloc (.cells #[.int .u8 (48 + (j : Int) % 10)] 5)) :=
        run_convert_bytes_back _ 22 9 5 ⟨wr.heap.size, 0, none⟩ 1 [UInt8.ofNat (48 + j % 10)] Try.underlying22 Try.underlying5 Try.underlying9 (fun q hq => by
          have : q = 0 := by simp at hq; omega
          subst this
          rw [show ([UInt8.ofNat (48 + j % 10)][0]'hq) = UInt8.ofNat (48 + j % 10) from rfl, hd]
          simp [Addr.add])
      have hadd : ∀ W, (Op.stringOp .add ⟨[UInt8.ofNat (48 + j % 10)].toArray⟩ ⟨l.toArray⟩).run Try.prog W = .ok (.string ⟨(UInt8.ofNat (48 + j % 10) :: l).toArray⟩) W := fun W =>
        str_add W _ _ [UInt8.ofNat (48 + j % 10)] l (by simp) (by simp) (by simp; omega)
      have hbel2 : Below w.heap.size w (wr.alloc (.cells #[.int .u8 (48 + (j : Int) % 10)] 5)) := hbel.alloc hbel.size _
      have HB2 := Lib.hid hbel2
      have HHd := Lib.hid hd
      clear hd hlen hbel2 hbel
      generalize UInt8.ofNat (48 + j % 10) = d at *
      go_wp2_with fail
      go_roundw
      case rel => exact ⟨j / 10, by go_num, by omega, ⟨_, rfl, HL2⟩, HB2.out⟩
      case measure => simp [RowKit.intOf]; omega
    · have : j = 0 := by omega
      subst this
      have hl : l = digs k := by have := HL.out; rw [digs_zero] at this; simpa using this
      have HLe := Lib.hid hdl.out
      have hadd : ∀ W, (Op.stringOp .add ⟨#[109]⟩ ⟨l.toArray⟩).run Try.prog W = .ok (.string ⟨(markL k).toArray⟩) W := fun W => by
        rw [hl]; exact str_add W _ _ [109] (digs k) (by simp) (by simp) (by have := hdl.out; simp; omega)
      clear hl hdl
      go_wp2_with fail
      go_ret
      exact ⟨rfl, hbel⟩
end Go.Proofs.Ytfgkfdkdjegaiaa

namespace Go.Proofs.Ytfgkfdkdjegaiaa
open Go.RowKit
set_option linter.unusedVariables false

/-- the texts that mark n places from k on -/
def marksL (k : Nat) : Nat → List ByteArray
  | 0 => []
  | n + 1 => marksL k n ++ [⟨(markL (k + n)).toArray⟩]
theorem marksL_len (k : Nat) : ∀ n, (marksL k n).length = n
  | 0 => rfl
  | n + 1 => by simp [marksL, marksL_len k n]
theorem marksL_get (k : Nat) : ∀ n j (h : j < (marksL k n).length), (marksL k n)[j] = ⟨(markL (k + j)).toArray⟩
  | 0, j, h => by simp [marksL] at h
  | n + 1, j, h => by
    simp only [marksL]
    rw [List.getElem_append]
    have hl := marksL_len k n
    split
    · exact marksL_get k n j (by assumption)
    · have : j = n := by simp [marksL, hl] at h; omega
      subst this
      simp
set_option maxRecDepth 100000 in
set_option maxHeartbeats 1000000 in
theorem markStringS_own (v : Value) (xs : List ByteArray) (k : Nat) (B : Nat) (w : World) (hr : w.ownsRow B 9 1 v xs.length (strs xs)) (hn : xs.length ≤ 1048576) (hk0 : 0 < k) (hk : k ≤ 4194304) :
    Calls Try.prog 92 #[v, .int .i64 k] w fun e w' => e = .returned (.int .i64 ((k + xs.length : Nat) : Int)) ∧ w'.ownsRow B 9 1 v xs.length (strs (marksL k xs.length)) ∧ w.grownBy w' v.ownBlock := by
  obtain ⟨a, c, rfl⟩ := own_shape hr
  have HO := Lib.hid hr
  clear hr
  have HMk := Lib.hid (fun W j (h : j ≤ 1048576) => markText_any (k + j) W (by omega) (by omega))
  go_enter Try.func92, Try.ntmps92
  go_wp2
  go_loopw [1, 5] (fun q i wr => ∃ j : Nat, j ≤ xs.length ∧ i = .int .i64 j ∧ q = .int .i64 ((k + j : Nat) : Int) ∧ (∃ zs : List Value, zs.length = xs.length ∧ Hid (zs.take j = (strs (marksL k xs.length)).take j) ∧ Hid (wr.ownsRow B 9 1 (.slice a xs.length c) xs.length zs)) ∧ Hid (w.grownBy wr (Value.ownBlock (.slice a xs.length c))))
    (fun _ i _ => xs.length - (RowKit.intOf i).toNat)
  case atStart => exact ⟨0, Nat.zero_le _, rfl, by simp, ⟨_, strs_len xs, rfl, HO.out⟩, World.grownBy.refl _ _⟩
  case round =>
    obtain ⟨j, hj, rfl, rfl, ⟨zs, hzs, HT, HOwn⟩, HG⟩ := hrel
    by_cases hlt : j < xs.length
    · obtain ⟨_, h2⟩ := HOwn.out
      rcases h2 with ⟨hv, h0⟩ | ⟨g, cap, cur, hv, hg, hblk, h3, h4, h5, h6⟩
      · omega
      simp at hv
      obtain ⟨rfl, rfl⟩ := hv
      have hlen : g < wr.heap.size := (Array.getElem?_eq_some_iff.1 hblk).1
      clear hblk h4 h5 h6
      go_wp2_with fail
      go_at_call 110
      refine (HMk.out _ j (by omega)).mono ?_
      rintro e w1 ⟨rfl, hb1⟩
      have hown := own_later HOwn.out hb1
      have hoc : w1.cell? ⟨g, j, none⟩ = some (zs[j]'(by omega)) := by rw [hown.cellAt j (by omega)]; exact List.getElem?_eq_getElem _
      have hof := hown.frozenAt j
      have HOwn2 := Lib.hid (hown.stored j (.string ⟨(markL (k + j)).toArray⟩)).1
      have HT2 : Hid ((zs.set j (.string ⟨(markL (k + j)).toArray⟩)).take (j + 1) = (strs (marksL k xs.length)).take (j + 1)) := by
        have hl2 : j < (strs (marksL k xs.length)).length := by rw [strs_len, marksL_len]; exact hlt
        have := take_set_succ zs (strs (marksL k xs.length)) j (by omega) hl2 HT.out
        have e : (strs (marksL k xs.length))[j]'hl2 = .string ⟨(markL (k + j)).toArray⟩ := by simp only [strs, List.getElem_map]; rw [marksL_get]
        rw [e] at this; exact this
      have HG2 : Hid (w.grownBy (w1.setCell ⟨g, j, none⟩ (.string ⟨(markL (k + j)).toArray⟩)) (some g)) :=
        ⟨hb1.os.trans HG.out.os, hb1.tape.trans HG.out.tape, hb1.output.trans HG.out.output, by have := HG.out.size; have := hb1.size; simp [World.setCell]; omega, fun q hq hne => by
          rw [Below.heap_setCell _ _ _ _ (fun e => hne (by rw [e])), hb1.block q (Nat.lt_of_lt_of_le hq HG.out.size)]; exact HG.out.block q hq hne⟩
      clear hown hb1 HOwn HG HT
      generalize zs[j] = old at *
      generalize ByteArray.mk (markL (k + j)).toArray = tx at *
      go_wp2_with fail
      go_roundw
      case rel => exact ⟨j + 1, by omega, by go_num, by go_num, ⟨_, by simpa using hzs, HT2, HOwn2⟩, HG2⟩
      case measure => simp [RowKit.intOf]; omega
    · have hjl : j = xs.length := by omega
      subst hjl
      go_wp2_with fail
      go_ret
      refine ⟨rfl, ?_, HG.out⟩
      have := HT.out
      rw [List.take_of_length_le (by omega), List.take_of_length_le (by rw [strs_len, marksL_len]; omega)] at this
      rw [← this]; exact HOwn.out

theorem keepM {W w w' : World} {p : Addr} {x : Value} (hb : Below w.heap.size w w') (h : w.cell? p = some x ∧ Below W.heap.size W w) : w'.cell? p = some x ∧ Below W.heap.size W w' :=
  ⟨bkeep hb h.1, h.2.trans (hb.mono h.2.size)⟩

end Go.Proofs.Ytfgkfdkdjegaiaa

namespace Go.Proofs.Ytfgkfdkdjegaiaa
open Go.RowKit
set_option linter.unusedVariables false

/-- a line whose rows are the call's own, beside the block b in which it lies -/
def LineOwn (B : Nat) (w : World) (b o : Nat) (l : LineD) : Prop :=
  ∃ sv rv, w.cell? ⟨b, o, none⟩ = some (.string l.name) ∧ w.cell? ⟨b, o + 1, none⟩ = some sv ∧ w.cell? ⟨b, o + 2, none⟩ = some rv ∧ w.ownsRow B 3 1 sv l.stops.length (ints l.stops) ∧ w.ownsRow B 3 1 rv l.runs.length (ints l.runs) ∧
    sv.ownBlock ≠ some b ∧ rv.ownBlock ≠ some b
/-- a line by value, its rows the call's own -/
def LineVOwn (B : Nat) (w : World) (v : Value) (l : LineD) : Prop := ∃ sv rv, v = .agg #[.string l.name, sv, rv] ∧ w.ownsRow B 3 1 sv l.stops.length (ints l.stops) ∧ w.ownsRow B 3 1 rv l.runs.length (ints l.runs)
/-- the rows of n lines that lie in the block g are all different -/
def RowsApart (w : World) (g n : Nat) : Prop := ∀ (j i j' i' : Nat) (v v' : Value), j < n → j' < n → (i = 1 ∨ i = 2) → (i' = 1 ∨ i' = 2) → (j ≠ j' ∨ i ≠ i') → w.cell? ⟨g, j * 3 + i, none⟩ = some v → w.cell? ⟨g, j' * 3 + i', none⟩ = some v' → v.ownBlock = none ∨ v.ownBlock ≠ v'.ownBlock
theorem RowsApart.of_cells {w w' : World} {g n : Nat} (h : RowsApart w g n) (hc : ∀ o, w'.cell? ⟨g, o, none⟩ = w.cell? ⟨g, o, none⟩) : RowsApart w' g n :=
  fun j i j' i' v v' h1 h2 h3 h4 h5 c c' => h j i j' i' v v' h1 h2 h3 h4 h5 ((hc _).symm.trans c) ((hc _).symm.trans c')
def LinesOwn (B : Nat) (w : World) (v : Value) (ls : List LineD) : Prop :=
  ∃ g c cur, v = .slice (some ⟨g, 0, none⟩) ls.length c ∧ B ≤ g ∧ w.heap[g]? = some (.cells cur 98 (0, 0)) ∧ ls.length ≤ c ∧ c ≤ maxLen ∧ cur.size = c * 3 ∧ (∀ k l, ls[k]? = some l → LineOwn B w g (k * 3) l) ∧ RowsApart w g ls.length
def NetOwn (B : Nat) (w : World) (v : Value) (n : NetD) : Prop := ∃ s l B1, v = .agg #[s, l] ∧ w.ownsRow B 9 1 s n.stops.length (strs n.stops) ∧ LinesOwn B1 w l n.lines ∧ B ≤ B1 ∧ ∀ b, s.ownBlock = some b → b < B1

theorem LineOwn.at {B : Nat} {w : World} {b o : Nat} {l : LineD} (h : LineOwn B w b o l) : LineAt w b o l := by
  obtain ⟨sv, rv, h0, h1, h2, h3, h4, _⟩ := h
  exact ⟨sv, rv, h0, h1, h2, rowAt_own h3, rowAt_own h4⟩
theorem LinesOwn.at {B : Nat} {w : World} {v : Value} {ls : List LineD} (h : LinesOwn B w v ls) : LinesAt w v ls := by
  obtain ⟨g, c, cur, hv, hg, hh, h1, h2, h3, h4, h5⟩ := h
  exact ⟨some ⟨g, 0, none⟩, c, hv, h1, h2, fun k l hl => ⟨g, 0, rfl, (Array.getElem?_eq_some_iff.1 hh).1, by rw [Nat.zero_add]; exact (h4 k l hl).at⟩⟩
theorem NetOwn.at {B : Nat} {w : World} {v : Value} {n : NetD} (h : NetOwn B w v n) : NetAt w v n := by
  obtain ⟨s, l, B1, hv, h1, h2, _⟩ := h
  exact ⟨s, l, hv, rowAt_own h1, h2.at⟩
theorem LineVOwn.v {B : Nat} {w : World} {v : Value} {l : LineD} (h : LineVOwn B w v l) : LineV w v l := by
  obtain ⟨sv, rv, hv, h1, h2⟩ := h
  exact ⟨sv, rv, hv, rowAt_own h1, rowAt_own h2⟩
theorem LineOwn.later {B : Nat} {w w' : World} {b o : Nat} {l : LineD} (h : LineOwn B w b o l) (hb : Below w.heap.size w w') : LineOwn B w' b o l := by
  obtain ⟨sv, rv, h0, h1, h2, h3, h4, h5⟩ := h
  exact ⟨sv, rv, bkeep hb h0, bkeep hb h1, bkeep hb h2, own_later h3 hb, own_later h4 hb, h5⟩
theorem LinesOwn.later {B : Nat} {w w' : World} {v : Value} {ls : List LineD} (h : LinesOwn B w v ls) (hb : Below w.heap.size w w') : LinesOwn B w' v ls := by
  obtain ⟨g, c, cur, hv, hg, hh, h1, h2, h3, h4, h5⟩ := h
  exact ⟨g, c, cur, hv, hg, (hb.block g (Array.getElem?_eq_some_iff.1 hh).1).trans hh, h1, h2, h3, fun k l hl => (h4 k l hl).later hb, h5.of_cells fun o => hb.cell (p := ⟨g, o, none⟩) (Array.getElem?_eq_some_iff.1 hh).1⟩
theorem NetOwn.later {B : Nat} {w w' : World} {v : Value} {n : NetD} (h : NetOwn B w v n) (hb : Below w.heap.size w w') : NetOwn B w' v n := by
  obtain ⟨s, l, B1, hv, h1, h2, h3⟩ := h
  exact ⟨s, l, B1, hv, own_later h1 hb, h2.later hb, h3⟩
theorem LineAt.toV {w : World} {b o : Nat} {l : LineD} (h : LineAt w b o l) : ∃ sv rv, w.cell? ⟨b, o, none⟩ = some (.string l.name) ∧ w.cell? ⟨b, o + 1, none⟩ = some sv ∧ w.cell? ⟨b, o + 2, none⟩ = some rv ∧ LineV w (.agg #[.string l.name, sv, rv]) l := by
  obtain ⟨sv, rv, h0, h1, h2, h3, h4⟩ := h
  exact ⟨sv, rv, h0, h1, h2, sv, rv, rfl, h3, h4⟩
theorem LineOwn.far {B : Nat} {w : World} {b o : Nat} {l : LineD} (h : LineOwn B w b o l) (hb : B ≤ b) {p : Addr} (u : Value) (hp : p.block < B) : LineOwn B (w.setCell p u) b o l := by
  obtain ⟨sv, rv, c0, c1, c2, r1, r2, n⟩ := h
  have hc : ∀ o, (w.setCell p u).cell? ⟨b, o, none⟩ = w.cell? ⟨b, o, none⟩ := fun o => World.cell?_setCell_other _ _ _ _ (fun e => by rw [e] at hp; simp at hp; omega)
  exact ⟨sv, rv, (hc _).trans c0, (hc _).trans c1, (hc _).trans c2, ownsRow_setCell_below r1 hp u, ownsRow_setCell_below r2 hp u, n⟩
theorem LinesOwn.far {B : Nat} {w : World} {v : Value} {ls : List LineD} (h : LinesOwn B w v ls) {p : Addr} (u : Value) (hp : p.block < B) : LinesOwn B (w.setCell p u) v ls := by
  obtain ⟨g, c, cur, hv, hg, hh, h1, h2, h3, h4, h5⟩ := h
  exact ⟨g, c, cur, hv, hg, by rw [Below.heap_setCell _ _ _ _ (by omega)]; exact hh, h1, h2, h3, fun k l hl => (h4 k l hl).far hg u hp, h5.of_cells fun o => World.cell?_setCell_other _ _ _ _ (fun e => by rw [e] at hp; simp at hp; omega)⟩
theorem LineOwn.base {B B' : Nat} {w : World} {b o : Nat} {l : LineD} (h : LineOwn B w b o l) (hB : B' ≤ B) : LineOwn B' w b o l := by
  obtain ⟨sv, rv, c0, c1, c2, r1, r2, n⟩ := h
  exact ⟨sv, rv, c0, c1, c2, own_base r1 hB, own_base r2 hB, n⟩
theorem LinesOwn.base {B B' : Nat} {w : World} {v : Value} {ls : List LineD} (h : LinesOwn B w v ls) (hB : B' ≤ B) : LinesOwn B' w v ls := by
  obtain ⟨g, c, cur, hv, hg, hh, h1, h2, h3, h4, h5⟩ := h
  exact ⟨g, c, cur, hv, by omega, hh, h1, h2, h3, fun k l hl => (h4 k l hl).base hB, h5⟩
end Go.Proofs.Ytfgkfdkdjegaiaa
