/-
  CONTRACTS: spec.AppendChecksum and impl.AppendChecksum return the sealed text where it may be sealed, else the empty string and false; what was in memory stays as it was.
-/
import Derived.Test.YtmjopejjbdmniaaDoorSeal
import Derived.Lib.IndexAny
namespace Go.Proofs.YtmjopejjbdmniaaDoor
open Go.RowKit Go.Sort
open Go.Lib hiding intOf

/-- may a text be sealed? -/
def Seals (l : List UInt8) : Prop := l.length ≤ 4000 ∧ (35 : UInt8) ∉ l ∧ (sealL l).length ≤ 4000

theorem specAppend_no (s : ByteArray) (w : World) (hs : s.size ≤ 1048576) (h : ¬ Seals s.data.toList) :
    Calls Tryd.prog 17 #[.string s] w fun e w' => e = .returned (.tuple #[.string ⟨#[]⟩, .bool false]) ∧ ∃ m, w' = w.drewN m := by
  have hl := length_list s
  have H := Lib.hid (fun w => l1Stands_any s 35 w (by unfold maxLen; omega))
  have H2 := Lib.hid (fun w => l1Seal_any s w hs)
  by_cases h1 : 4000 < s.size
  · go_enter Tryd.func17, Tryd.ntmps17
    go_wp2_with fail
    go_ret2
    exact ⟨rfl, 0, rfl⟩
  · by_cases h2 : (35 : UInt8) ∈ s.data.toList
    · rw [hasB_yes h2] at H
      clear h h2 hl
      go_enter Tryd.func17, Tryd.ntmps17
      go_wp2_with (go_at_call 33; refine (H.out _).mono ?_; rintro e w' ⟨rfl, rfl⟩)
      go_ret2
      exact ⟨rfl, 0, rfl⟩
    · have h3 : 4000 < (sealL s.data.toList).length := by
        by_cases h3 : (sealL s.data.toList).length ≤ 4000
        · exact absurd ⟨by omega, h2, h3⟩ h
        · omega
      rw [hasB_no h2] at H
      have h4 : ((4000 : Nat) : Int) < ((ByteArray.mk (sealL s.data.toList).toArray).size : Int) := by rw [size_mk]; omega
      generalize ByteArray.mk (sealL s.data.toList).toArray = y at *
      clear h h2 hl h3
      go_enter Tryd.func17, Tryd.ntmps17
      go_wp2_with (first | (go_at_call 33; refine (H.out _).mono ?_; rintro e w' ⟨rfl, rfl⟩) | (go_at_call 34; refine (H2.out _).mono ?_; rintro e w' ⟨rfl, m, rfl⟩))
      go_ret2
      exact ⟨rfl, _, rfl⟩

theorem specAppend_yes (s : ByteArray) (w : World) (h : Seals s.data.toList) :
    Calls Tryd.prog 17 #[.string s] w fun e w' => e = .returned (.tuple #[.string ⟨(sealL s.data.toList).toArray⟩, .bool true]) ∧ ∃ m, w' = w.drewN m := by
  have hl := length_list s
  obtain ⟨h1, h2, h3⟩ := h
  have H := Lib.hid (fun w => l1Stands_any s 35 w (by unfold maxLen; omega))
  have H2 := Lib.hid (fun w => l1Seal_any s w (by omega))
  rw [hasB_no h2] at H
  have hs : s.size ≤ 4000 := by omega
  have h4 : ((ByteArray.mk (sealL s.data.toList).toArray).size : Int) ≤ ((4000 : Nat) : Int) := by rw [size_mk]; omega
  generalize ByteArray.mk (sealL s.data.toList).toArray = y at *
  clear h1 h2 hl h3
  go_enter Tryd.func17, Tryd.ntmps17
  go_wp2_with (first | (go_at_call 33; refine (H.out _).mono ?_; rintro e w' ⟨rfl, rfl⟩) | (go_at_call 34; refine (H2.out _).mono ?_; rintro e w' ⟨rfl, m, rfl⟩))
  go_ret2
  exact ⟨rfl, _, rfl⟩

theorem containsHash (s : ByteArray) (w : World) :
    Calls Tryd.prog 32 #[.string s, .string ⟨#[35]⟩] w fun e w' => e = .returned (.bool (hasB 35 s.data.toList)) ∧ w = w' :=
  (Tryd.strings_Contains_one s 35 w).mono fun e w' ⟨he, hw⟩ => ⟨by rw [he, ← contains_iff_indexByte, hasB, List.contains_eq_mem], hw.symm⟩

theorem implAppend_no (s : ByteArray) (w : World) (hs : s.size ≤ maxLen) (h : ¬ Seals s.data.toList) (htab : TabIs Tryd.prog w "internal/strconv.uint64pow10" .u64 pow10Tab) :
    Calls Tryd.prog 16 #[.string s] w fun e w' => e = .returned (.tuple #[.string ⟨#[]⟩, .bool false]) ∧ Below w.heap.size w w' := by
  have hl := length_list s
  have hsm := hs
  unfold maxLen at hsm
  by_cases h1 : 4000 < s.size
  · have H := Lib.hid (implChecksum_no s w hs h1)
    clear htab
    go_enter Tryd.func16, Tryd.ntmps16
    go_wp2_with (go_at_call 31; refine H.out.mono ?_; rintro e w' ⟨rfl, rfl⟩)
    go_ret2
    exact ⟨rfl, Below.refl _ _⟩
  · have H := Lib.hid (implChecksum_yes s w (by omega))
    have HC := Lib.hid (containsHash s w)
    by_cases h2 : (35 : UInt8) ∈ s.data.toList
    · rw [hasB_yes h2] at HC
      clear h h2 hl htab
      go_enter Tryd.func16, Tryd.ntmps16
      go_wp2_with (first | (go_at_call 31; refine H.out.mono ?_; rintro e w' ⟨rfl, rfl⟩) | (go_at_call 32; refine HC.out.mono ?_; rintro e w' ⟨rfl, rfl⟩))
      go_ret2
      exact ⟨rfl, Below.refl _ _⟩
    · have h3 : 4000 < (sealL s.data.toList).length := by
        by_cases h3 : (sealL s.data.toList).length ≤ 4000
        · exact absurd ⟨by omega, h2, h3⟩ h
        · omega
      rw [hasB_no h2] at HC
      have hb := sumL_bd s.data.toList
      have a1 : ∀ W, (Op.stringOp .add s ⟨#[35]⟩).run Tryd.prog W = .ok (.string ⟨(s.data.toList ++ [35]).toArray⟩) W := fun W => str_add W _ _ _ [35] rfl rfl (by simp; omega)
      have hi := itoa_le (sumL s.data.toList) hb.1 (by omega)
      have a2 : ∀ W, (Op.stringOp .add ⟨(s.data.toList ++ [35]).toArray⟩ ⟨(itoa (sumL s.data.toList)).toArray⟩).run Tryd.prog W = .ok (.string ⟨(sealL s.data.toList).toArray⟩) W := fun W => str_add W _ _ (s.data.toList ++ [35]) (itoa (sumL s.data.toList)) (by simp) (by simp) (by rw [List.length_append, List.length_singleton]; omega)
      have H2 := Lib.hid (itoa_any (sumL s.data.toList) w (by omega) (by omega) htab)
      have h4 : ((4000 : Nat) : Int) < ((ByteArray.mk (sealL s.data.toList).toArray).size : Int) := by rw [size_mk]; omega
      clear h h2 hl h3 hi htab
      generalize ByteArray.mk (s.data.toList ++ [35]).toArray = x at *
      generalize ByteArray.mk (sealL s.data.toList).toArray = y at *
      generalize sumL s.data.toList = z at *
      generalize (itoa z).toArray = z' at *
      go_enter Tryd.func16, Tryd.ntmps16
      go_wp2_with (first | (go_at_call 31; refine H.out.mono ?_; rintro e w' ⟨rfl, rfl⟩) | (go_at_call 32; refine HC.out.mono ?_; rintro e w' ⟨rfl, rfl⟩) | (go_at_call 23; refine H2.out.mono ?_; rintro e w' ⟨rfl, hbel⟩))
      go_ret2
      exact ⟨rfl, hbel⟩

theorem implAppend_yes (s : ByteArray) (w : World) (h : Seals s.data.toList) (htab : TabIs Tryd.prog w "internal/strconv.uint64pow10" .u64 pow10Tab) :
    Calls Tryd.prog 16 #[.string s] w fun e w' => e = .returned (.tuple #[.string ⟨(sealL s.data.toList).toArray⟩, .bool true]) ∧ Below w.heap.size w w' := by
  have hl := length_list s
  obtain ⟨h1, h2, h3⟩ := h
  have hs : s.size ≤ 4000 := by omega
  have H := Lib.hid (implChecksum_yes s w (by omega))
  have HC := Lib.hid (containsHash s w)
  rw [hasB_no h2] at HC
  have hb := sumL_bd s.data.toList
  have a1 : ∀ W, (Op.stringOp .add s ⟨#[35]⟩).run Tryd.prog W = .ok (.string ⟨(s.data.toList ++ [35]).toArray⟩) W := fun W => str_add W _ _ _ [35] rfl rfl (by simp; omega)
  have hi := itoa_le (sumL s.data.toList) hb.1 (by omega)
  have a2 : ∀ W, (Op.stringOp .add ⟨(s.data.toList ++ [35]).toArray⟩ ⟨(itoa (sumL s.data.toList)).toArray⟩).run Tryd.prog W = .ok (.string ⟨(sealL s.data.toList).toArray⟩) W := fun W => str_add W _ _ (s.data.toList ++ [35]) (itoa (sumL s.data.toList)) (by simp) (by simp) (by rw [List.length_append, List.length_singleton]; omega)
  have H2 := Lib.hid (itoa_any (sumL s.data.toList) w (by omega) (by omega) htab)
  have h4 : ((ByteArray.mk (sealL s.data.toList).toArray).size : Int) ≤ ((4000 : Nat) : Int) := by rw [size_mk]; omega
  clear h1 h2 hl h3 hi htab
  generalize ByteArray.mk (s.data.toList ++ [35]).toArray = x at *
  generalize ByteArray.mk (sealL s.data.toList).toArray = y at *
  generalize sumL s.data.toList = z at *
  generalize (itoa z).toArray = z' at *
  go_enter Tryd.func16, Tryd.ntmps16
  go_wp2_with (first | (go_at_call 31; refine H.out.mono ?_; rintro e w' ⟨rfl, rfl⟩) | (go_at_call 32; refine HC.out.mono ?_; rintro e w' ⟨rfl, rfl⟩) | (go_at_call 23; refine H2.out.mono ?_; rintro e w' ⟨rfl, hbel⟩))
  go_ret2
  exact ⟨rfl, hbel⟩
end Go.Proofs.YtmjopejjbdmniaaDoor
