/-
  THE LAWS' heldLegS: what holds marks is told (written by gen_struct.py).
-/
import Derived.Test.YtmcpafflnccfaaaLegX
namespace Go.Proofs.Ytmcpafflnccfaaa
open Go.RowKit
set_option linter.unusedVariables false

set_option maxHeartbeats 1000000 in
theorem heldLegS_x (v : Value) (xs : List LegD) (k : Int) (w : World) (hr : LegsMk k w v xs) (hs : LegsSmall xs) (hk0 : 0 ≤ k) (hk : k ≤ 1073741824) :
    Calls Try.prog 19 #[v, .int .i64 k] w fun e w' => e = .returned (.int .i64 (k + 5 * (xs.length : Int))) ∧ Below w.heap.size w w' := by
  unfold LegsMk at hr
  unfold LegsSmall at hs
  generalize hn : xs.length = n at *
  obtain ⟨a, c, rfl, hc, hm, HC⟩ := legs_open hr
  rw [upLegs_len] at *
  clear hr hn
  go_enter Try.func19, Try.ntmps19
  go_wp2
  go_loop [1, 5] (fun q i => ∃ j : Nat, j ≤ n ∧ i = .int .i64 j ∧ q = .int .i64 (k + 5 * (j : Int))) (fun _ i => n - (RowKit.intOf i).toNat)
  case atStart => exact ⟨0, Nat.zero_le _, rfl, by simp⟩
  case round =>
    obtain ⟨j, hj, rfl, rfl⟩ := hrel
    by_cases hlt : j < n
    · obtain ⟨b, off, rfl, _, c0, c1, c2, c3, c4⟩ := HC.out j (by rw [upLegs_len]; exact hlt)
      rw [upLegs_get] at c0 c1 c2 c3 c4
      have hne0 : (k + 5 * (j : Int) != k + 5 * (j : Int)) = false := by simp
      have hne1 : (k + 5 * (j : Int) + 1 != k + 5 * (j : Int) + 1) = false := by simp
      have hne2 : (k + 5 * (j : Int) + 1 + 1 != k + 5 * (j : Int) + 1 + 1) = false := by simp
      have hne3 : (k + 5 * (j : Int) + 1 + 1 + 1 != k + 5 * (j : Int) + 1 + 1 + 1) = false := by simp
      have hne4 : (k + 5 * (j : Int) + 1 + 1 + 1 + 1 != k + 5 * (j : Int) + 1 + 1 + 1 + 1) = false := by simp
      simp only at c0 c1 c2 c3 c4
      go_wp2
      go_round
      case rel => exact ⟨j + 1, by omega, by go_num, by go_num⟩
      case measure => simp [RowKit.intOf]; omega
    · have hjl : j = n := by omega
      subst hjl
      go_wp2
      go_ret
      exact ⟨rfl, Below.refl _ _⟩
end Go.Proofs.Ytmcpafflnccfaaa
