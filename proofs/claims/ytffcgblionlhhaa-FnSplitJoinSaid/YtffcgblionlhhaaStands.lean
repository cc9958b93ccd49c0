/-
  CONTRACT: spec.l1Stands says whether a byte stands in a string; nothing changes.
-/
import Derived.Test.YtffcgblionlhhaaRows
import Derived.Test.YtffcgblionlhhaaStr
import Derived.WalkLawsBesides
import Derived.LoopTactic
import Derived.Lib.Hide
namespace Go.Proofs.Ytffcgblionlhhaa
open Go.RowKit
open Go.Lib

theorem mem_take_succ (s : ByteArray) (k : Nat) (c : UInt8) (h : k < s.size) (h1 : c ∉ s.data.toList.take k) (h2 : s[k] ≠ c) : c ∉ s.data.toList.take (k + 1) := by
  rw [take_snoc s k h]; simp [h1]; exact fun e => h2 e.symm
theorem mem_at (s : ByteArray) (k : Nat) (c : UInt8) (h : k < s.size) (h2 : s[k] = c) : c ∈ s.data.toList := by
  rw [← h2]; exact Array.mem_toList_iff.2 (Array.getElem_mem h)
set_option maxHeartbeats 400000 in
theorem l1Stands_any (s : ByteArray) (c : UInt8) (w : World) (hs : s.size ≤ maxLen) :
    Calls Try.prog 103 #[.string s, .int .u8 (c.toNat : Int)] w fun e w' => e = .returned (.bool (hasB c s.data.toList)) ∧ w = w' := by
  unfold maxLen at hs
  go_enter Try.func103, Try.ntmps103
  go_wp2
  go_loop [5] (fun i => ∃ k : Nat, k ≤ s.size ∧ i = .int .i64 k ∧ Hid (c ∉ s.data.toList.take k)) (fun i => s.size - (RowKit.intOf i).toNat)
  case atStart => exact ⟨0, Nat.zero_le _, rfl, by show _ ∉ _; simp⟩
  case round =>
    obtain ⟨k, hk, rfl, hno⟩ := hrel
    by_cases hlt : k < s.size
    · by_cases he : s[k] = c
      · have hm := Lib.hid (mem_at s k c hlt he)
        have hb : ((s[k].toNat : Int) == (c.toNat : Int)) = true := by rw [byte_eq_int, he]; simp
        clear he
        go_wp2
        go_ret
        exact ⟨by rw [hasB_yes hm.out]; rfl, rfl⟩
      · have hn := Lib.hid (mem_take_succ s k c hlt hno.out he)
        have hb : ((s[k].toNat : Int) == (c.toNat : Int)) = false := by rw [byte_eq_int]; simp [he]
        clear he
        go_wp2
        go_round
        case rel => exact ⟨k + 1, by omega, by go_num, hn⟩
        case measure => simp [RowKit.intOf]; omega
    · go_wp2
      go_ret
      have e : s.data.toList.take k = s.data.toList := List.take_of_length_le (by rw [length_list]; omega)
      have := hno.out
      rw [e] at this
      exact ⟨by rw [hasB_no this]; rfl, rfl⟩

end Go.Proofs.Ytffcgblionlhhaa
