/-
  JOINED TEXTS, each under its own namespace line: RetStr, Num.
-/
import Derived.WalkKit
import Derived.Test.YtemejcbilhcebaaMk08
import Derived.Test.YtemejcbilhcebaaRows
import Derived.WalkLawsBesides
import Derived.WalkSpells
import Derived.LoopTactic
import Derived.Lib.Hide
import Derived.Lib.ItoaNum
import Derived.Lib.ItoaLen
import Derived.Laws.Concat
import Derived.Deep.QuietTactic
import Derived.BigQuiet
import Derived.Below
namespace Go.Proofs.Ytemejcbilhcebaa
theorem ret_str {a b : ByteArray} (h : a.data.toList = b.data.toList) : Ending.returned (.string a) = .returned (.string b) := by
  have : a = b := by cases a; cases b; congr 1; exact Array.toList_inj.1 h
  rw [this]

theorem ten_at : ∀ i : Fin 10, (ByteArray.extract { data := #[48, 49, 50, 51, 52, 53, 54, 55, 56, 57] } i.val (i.val + 1)).data.toList = [UInt8.ofNat (48 + i.val)] := by decide +kernel
end Go.Proofs.Ytemejcbilhcebaa

namespace Go.Proofs.Ytemejcbilhcebaa
open Go.RowKit Go.Lib

set_option maxHeartbeats 800000 in
theorem l1Num_nat (k : Nat) : ∀ (n : Nat) (w : World), n ≤ k → n ≤ 9223372036854775807 →
    Calls Try.prog 93 #[.int .i64 (n : Int)] w fun e w' => e = .returned (.string ⟨(decDigits n).toArray⟩) ∧ ∃ m, w' = w.drewN m := by
  induction k with
  | zero =>
    intro n w hk hm
    obtain rfl : n = 0 := by omega
    go_enter Try.func93, Try.ntmps93
    go_wp2_with fail
    go_ret
    exact ⟨ret_str (by rw [decDigits_one (by omega)]; decide +kernel), 0, by simp [World.drewN_zero]⟩
  | succ k ih =>
    intro n w hk hm
    by_cases hn : n < 10
    · go_enter Try.func93, Try.ntmps93
      go_wp2_with fail
      go_ret
      exact ⟨ret_str (by rw [decDigits_one hn]; simpa using ten_at ⟨n, hn⟩), 0, by simp [World.drewN_zero]⟩
    · obtain ⟨q, hq⟩ : ∃ q : Nat, q = n / 10 := ⟨_, rfl⟩
      obtain ⟨r, hr⟩ : ∃ r : Nat, r = n % 10 := ⟨_, rfl⟩
      have hr10 : r < 10 := by omega
      obtain ⟨d, hd⟩ : ∃ d : UInt8, d = UInt8.ofNat (48 + r) := ⟨_, rfl⟩
      have Hdig : decDigits n = decDigits q ++ [d] := by rw [decDigits, dif_neg hn, hq, hd, hr]
      have Hih : Hid (∀ w : World, Calls Try.prog 93 #[.int .i64 (q : Int)] w fun e w' => e = .returned (.string ⟨(decDigits q).toArray⟩) ∧ ∃ m, w' = w.drewN m) := fun w => ih q w (by omega) (by omega)
      have q1 : IntKind.i64.wrap ((n : Int) / 10) = (q : Int) := by rw [IntKind.wrap_i64]; omega
      have q2 : (n : Int).tmod 10 = (r : Int) := by rw [Int.tmod_eq_emod_of_nonneg (by omega)]; omega
      have q3 : IntKind.i64.wrap ((r : Int) + 1) = (r : Int) + 1 := by rw [IntKind.wrap_i64]; omega
      have hsl : ∀ W, (Instr.slice 9 (.string { data := #[48, 49, 50, 51, 52, 53, 54, 55, 56, 57] }) (some (.int .i64 (r : Int))) (some (.int .i64 ((r : Int) + 1))) none).run Try.prog W = .ok (.string ⟨#[d]⟩) W := fun W => by
        rw [run_slice_string (h := Try.underlying9) (h0 := by omega) (h1 := by omega) (h2 := by show (r : Int) + 1 ≤ 10; omega)]
        have := ten_at ⟨r, hr10⟩
        rw [hd]
        congr 2
        exact congrArg ByteArray.mk (Array.toList_inj.1 (by simpa using this))
      have hadd : ∀ W, (Op.stringOp .add ⟨(decDigits q).toArray⟩ ⟨#[d]⟩).run Try.prog W = .ok (.string ⟨(decDigits n).toArray⟩) W := fun W => by
        have hl := nDigits_le20 q (by omega)
        rw [Hdig]
        exact run_string_add_lists W (decDigits q) [d] (by rw [decDigits_length]; omega) (by simp)
      clear ih hq hr hd Hdig
      go_enter Try.func93, Try.ntmps93
      go_wp2_with fail
      go_quiet ((go_at_call 93; exact Calls.quiet_of (Hih.out _)))
      go_wp2_with fail
      go_ret
      exact ⟨rfl, _, rfl⟩

set_option maxHeartbeats 400000 in
theorem l1Num_any (n : Int) (w : World) (h0 : -9223372036854775807 ≤ n) (h1 : n ≤ 9223372036854775807) :
    Calls Try.prog 93 #[.int .i64 n] w fun e w' => e = .returned (.string ⟨(itoa n).toArray⟩) ∧ ∃ m, w' = w.drewN m := by
  by_cases hn : 0 ≤ n
  · obtain ⟨k, rfl⟩ := Int.eq_ofNat_of_zero_le hn
    rw [itoa_nonneg]
    exact l1Num_nat k k w (Nat.le_refl _) (by omega)
  · obtain ⟨k, hk⟩ : ∃ k : Nat, n = -(k : Int) := ⟨n.natAbs, by omega⟩
    subst hk
    have hk1 : 1 ≤ k := by omega
    have q1 : IntKind.i64.wrap (- -(k : Int)) = (k : Int) := by rw [IntKind.wrap_i64]; omega
    have q2 : - -(k : Int) = (k : Int) := by omega
    have hadd : ∀ W, (Op.stringOp .add ⟨#[45]⟩ ⟨(decDigits k).toArray⟩).run Try.prog W = .ok (.string ⟨(itoa (-(k : Int))).toArray⟩) W := fun W => by
      have hl := nDigits_le20 k (by omega)
      rw [itoa_neg k (by omega)]
      exact run_string_add_lists W [45] (decDigits k) (by simp) (by rw [decDigits_length]; omega)
    have H := Lib.hid (l1Num_nat k k)
    go_enter Try.func93, Try.ntmps93
    go_wp2_with (go_at_call 93; refine (H.out _ (Nat.le_refl _) (by omega)).mono ?_; rintro e w' ⟨rfl, m, rfl⟩)
    go_ret
    exact ⟨rfl, m, rfl⟩

end Go.Proofs.Ytemejcbilhcebaa
