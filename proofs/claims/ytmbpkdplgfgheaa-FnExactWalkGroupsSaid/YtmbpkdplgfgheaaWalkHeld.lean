/-
  THE LAWS' heldWalkS: walks that hold marks are told.
-/
import Derived.Test.YtmbpkdplgfgheaaWalkX
namespace Go.Proofs.Ytmbpkdplgfgheaa
open Go.RowKit
set_option linter.unusedVariables false

theorem heldWalkS_x (v : Value) (xs : List WlkD) (k : Int) (w : World) (hr : WalksMk k w v xs) (hs : WalksSmall xs) (hk0 : 0 ≤ k) (hk : k ≤ 1073741824) :
    Calls Try.prog 74 #[v, .int .i64 k] w fun e w' => e = .returned (.int .i64 (k + 3 * (xs.length : Int))) ∧ Below w.heap.size w w' := by
  unfold WalksMk at hr
  unfold WalksSmall at hs
  generalize hn : xs.length = n at *
  obtain ⟨a, c, rfl, hc, hm, HC⟩ := walks_open hr
  rw [upWalks_len] at *
  clear hr hn
  go_enter Try.func74, Try.ntmps74
  go_wp2
  go_loop [1, 5] (fun q i => ∃ j : Nat, j ≤ n ∧ i = .int .i64 j ∧ q = .int .i64 (k + 3 * (j : Int))) (fun _ i => n - (RowKit.intOf i).toNat)
  case atStart => exact ⟨0, Nat.zero_le _, rfl, by simp⟩
  case round =>
    obtain ⟨j, hj, rfl, rfl⟩ := hrel
    by_cases hlt : j < n
    · obtain ⟨b, off, rfl, _, c0, c1, c2⟩ := HC.out j (by rw [upWalks_len]; exact hlt)
      rw [upWalks_get] at c0 c1 c2
      have hne : (k + 3 * (j : Int) != k + 3 * (j : Int)) = false := by simp
      have hne2 : (k + 3 * (j : Int) + 1 != k + 3 * (j : Int) + 1) = false := by simp
      have hne3 : (k + 3 * (j : Int) + 1 + 1 != k + 3 * (j : Int) + 1 + 1) = false := by simp
      simp only at c0 c1 c2
      go_wp2
      go_round
      case rel => exact ⟨j + 1, by omega, by go_num, by go_num⟩
      case measure => simp [RowKit.intOf]; omega
    · have hjl : j = n := by omega
      subst hjl
      go_wp2
      go_ret
      exact ⟨rfl, Below.refl _ _⟩
end Go.Proofs.Ytmbpkdplgfgheaa
