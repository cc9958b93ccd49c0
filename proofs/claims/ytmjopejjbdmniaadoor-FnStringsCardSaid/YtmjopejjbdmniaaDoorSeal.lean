/-
  CONTRACTS: spec.l1Stands says whether a byte stands in a string; spec.l1Seal, spec.AppendChecksum and impl.AppendChecksum return the sealed text.
-/
import Derived.Test.YtmjopejjbdmniaaDoorFmt
import Derived.Test.YtmjopejjbdmniaaDoorSums
namespace Go.Proofs.YtmjopejjbdmniaaDoor
open Go.RowKit Go.Sort
open Go.Lib hiding intOf

theorem mem_take_succ (s : ByteArray) (k : Nat) (c : UInt8) (h : k < s.size) (h1 : c ∉ s.data.toList.take k) (h2 : s[k] ≠ c) : c ∉ s.data.toList.take (k + 1) := by
  rw [take_snoc s k h]; simp [h1]; exact fun e => h2 e.symm
theorem mem_at (s : ByteArray) (k : Nat) (c : UInt8) (h : k < s.size) (h2 : s[k] = c) : c ∈ s.data.toList := by
  rw [← h2]; exact Array.mem_toList_iff.2 (Array.getElem_mem h)
theorem byte_eq_int (a b : UInt8) : ((a.toNat : Int) == (b.toNat : Int)) = decide (a = b) := by
  rw [Bool.eq_iff_iff]; simp; constructor
  · intro h; exact UInt8.toNat_inj.1 (by omega)
  · rintro rfl; rfl

set_option maxHeartbeats 400000 in
theorem l1Stands_any (s : ByteArray) (c : UInt8) (w : World) (hs : s.size ≤ maxLen) :
    Calls Tryd.prog 33 #[.string s, .int .u8 (c.toNat : Int)] w fun e w' => e = .returned (.bool (hasB c s.data.toList)) ∧ w = w' := by
  unfold maxLen at hs
  go_enter Tryd.func33, Tryd.ntmps33
  go_wp2
  go_loop [5] (fun i => ∃ k : Nat, k ≤ s.size ∧ i = .int .i64 k ∧ Hid (c ∉ s.data.toList.take k)) (fun i => s.size - (intOf i).toNat)
  case atStart => exact ⟨0, Nat.zero_le _, rfl, by show _ ∉ _; simp⟩
  case round =>
    obtain ⟨k, hk, rfl, hno⟩ := hrel
    by_cases hlt : k < s.size
    · by_cases he : s[k] = c
      · have hm := Lib.hid (mem_at s k c hlt he)
        have hb : ((s[k].toNat : Int) == (c.toNat : Int)) = true := by rw [byte_eq_int, he]; simp
        clear he
        go_wp2
        go_ret
        exact ⟨by rw [hasB_yes hm.out]; rfl, rfl⟩
      · have hn := Lib.hid (mem_take_succ s k c hlt hno.out he)
        have hb : ((s[k].toNat : Int) == (c.toNat : Int)) = false := by rw [byte_eq_int]; simp [he]
        clear he
        go_wp2
        go_round
        case rel => exact ⟨k + 1, by omega, by go_num, hn⟩
        case measure => simp [intOf]; omega
    · go_wp2
      go_ret
      have e : s.data.toList.take k = s.data.toList := List.take_of_length_le (by rw [length_list]; omega)
      have := hno.out
      rw [e] at this
      exact ⟨by rw [hasB_no this]; rfl, rfl⟩

set_option maxHeartbeats 400000 in
theorem l1Seal_any (s : ByteArray) (w : World) (hs : s.size ≤ 1048576) :
    Calls Tryd.prog 34 #[.string s] w fun e w' => e = .returned (.string ⟨(sealL s.data.toList).toArray⟩) ∧ ∃ m, w' = w.drewN m := by
  have hb := sumL_bd s.data.toList
  have hlen := length_list s
  have a1 : ∀ W, (Op.stringOp .add s ⟨#[35]⟩).run Tryd.prog W = .ok (.string ⟨(s.data.toList ++ [35]).toArray⟩) W := fun W => str_add W _ _ _ [35] rfl rfl (by simp; omega)
  have hi := itoa_le (sumL s.data.toList) hb.1 (by omega)
  have a2 : ∀ W, (Op.stringOp .add ⟨(s.data.toList ++ [35]).toArray⟩ ⟨(itoa (sumL s.data.toList)).toArray⟩).run Tryd.prog W = .ok (.string ⟨(sealL s.data.toList).toArray⟩) W := fun W => str_add W _ _ (s.data.toList ++ [35]) (itoa (sumL s.data.toList)) (by simp) (by simp) (by rw [List.length_append, List.length_singleton]; omega)
  have H1 := Lib.hid (fun w => l1Sum_any s w (by unfold maxLen; omega))
  have H2 := Lib.hid (fun w => l1Num_any (sumL s.data.toList) w (by omega) (by omega))
  generalize (s.data.toList ++ [35]).toArray = x at *
  generalize (sealL s.data.toList).toArray = y at *
  generalize sumL s.data.toList = z at *
  generalize (itoa z).toArray = z' at *
  clear hlen hi
  go_enter Tryd.func34, Tryd.ntmps34
  go_wp2_with (first | (go_at_call 42; refine (H1.out _).mono ?_; rintro e w' ⟨rfl, rfl⟩) | (go_at_call 25; refine (H2.out _).mono ?_; rintro e w' ⟨rfl, m, rfl⟩))
  go_ret
  exact ⟨rfl, m, rfl⟩
end Go.Proofs.YtmjopejjbdmniaaDoor
