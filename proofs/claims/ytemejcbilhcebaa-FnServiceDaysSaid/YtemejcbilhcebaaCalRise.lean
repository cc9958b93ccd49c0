import Derived.Test.YtemejcbilhcebaaCalList
namespace Go.Proofs.Ytemejcbilhcebaa
open Go.RowKit
set_option linter.unusedVariables false

set_option maxHeartbeats 1000000 in
theorem l1Rising_any (v : Value) (xs : List Int) (lo hi : Int) (w : World) (hr : RowAt w v (ints xs)) :
    Calls Try.prog 72 #[v, .int .i64 lo, .int .i64 hi] w fun e w' => e = .returned (.bool (riseB xs lo hi)) ∧ Below w.heap.size w w' := by
  obtain ⟨a, c, rfl, hc, hm, HC⟩ := ints_open hr
  clear hr
  go_enter Try.func72, Try.ntmps72
  go_wp2
  go_loopw [7] (fun i wr => ∃ k : Nat, k ≤ xs.length ∧ i = .int .i64 k ∧ Hid (RiseTo xs lo hi k) ∧ ∃ m, wr = w.drewN m) (fun i _ => xs.length - (RowKit.intOf i).toNat)
  case atStart => exact ⟨0, Nat.zero_le _, rfl, riseTo_zero _ _ _, 0, rfl⟩
  case round =>
    obtain ⟨k, hk, rfl, HN, m, rfl⟩ := hrel
    by_cases hlt : k < xs.length
    · obtain ⟨b, off, rfl, _, hcx⟩ := HC.out k hlt
      have hk1 : (k : Int) < (xs.length : Int) := by omega
      by_cases hb : lo ≤ xs[k] ∧ xs[k] ≤ hi
      · have HIn := Lib.hid (fun W => l1In_yes xs[k] lo hi W hb)
        by_cases h0 : 0 < k
        · obtain ⟨b', off', hab, _, hcx'⟩ := HC.out (k - 1) (by omega)
          obtain ⟨rfl, rfl⟩ : b = b' ∧ off = off' := by simpa using hab
          clear hab
          have e2 : decide (0 < (k : Int)) = true := by simpa using h0
          have e3 : (0 : Int) ≤ (k : Int) - 1 := by omega
          have e4 : ((k : Int) - 1) < (xs.length : Int) := by omega
          by_cases ho : xs[k - 1] < xs[k]
          · have HN2 := Lib.hid (riseTo_succ hlt HN.out hb (fun _ => ho))
            have ho' : decide (xs[k] ≤ xs[k - 1]) = false := decide_eq_false (by omega)
            have e1 : ((k : Int) - 1).toNat = k - 1 := by omega
            have e5 : IntKind.i64.wrap ((k : Int) - 1) = (k : Int) - 1 := IntWalk.i64_in _ (by omega)
            clear hb
            generalize xs[k] = y at *
            generalize xs[k - 1] = z at *
            go_wp2_with fail
            go_quiet ((go_at_call 49; exact quietM HIn.out))
            clear e5
            go_wp2_with fail
            go_roundw
            case rel => exact ⟨k + 1, by omega, by go_num, HN2, _, rfl⟩
            case measure => simp [RowKit.intOf]; omega
          · have HF := Lib.hid (riseB_no (rise_back (lo := lo) (hi := hi) k hlt h0 (by omega)))
            have ho' : decide (xs[k] ≤ xs[k - 1]) = true := decide_eq_true (by omega)
            have e1 : ((k : Int) - 1).toNat = k - 1 := by omega
            have e5 : IntKind.i64.wrap ((k : Int) - 1) = (k : Int) - 1 := IntWalk.i64_in _ (by omega)
            clear ho hb
            generalize xs[k] = y at *
            generalize xs[k - 1] = z at *
            go_wp2_with fail
            go_quiet ((go_at_call 49; exact quietM HIn.out))
            clear e5
            go_wp2_with fail
            go_ret
            exact ⟨ret_bool HF.out.symm, Dr.below (Dr.step ⟨_, rfl⟩ _)⟩
        · have HN2 := Lib.hid (riseTo_succ hlt HN.out hb (fun h => absurd h h0))
          have h0' : decide (0 < k) = false := decide_eq_false h0
          clear h0 hb
          generalize xs[k] = y at *
          go_wp2_with fail
          go_quiet ((go_at_call 49; exact quietM HIn.out))
          go_wp2_with fail
          go_roundw
          case rel => exact ⟨k + 1, by omega, by go_num, HN2, _, rfl⟩
          case measure => simp [RowKit.intOf]; omega
      · have HF := Lib.hid (riseB_no (rise_bad k hlt hb))
        have HIn := Lib.hid (fun W => l1In_no xs[k] lo hi W hb)
        clear hb
        generalize xs[k] = y at *
        go_wp2_with fail
        go_quiet ((go_at_call 49; exact quietM HIn.out))
        go_wp2_with fail
        go_ret
        exact ⟨ret_bool HF.out.symm, Dr.below (Dr.step ⟨_, rfl⟩ _)⟩
    · have HF := Lib.hid (riseB_yes (rise_of (by omega) HN.out))
      go_wp2
      go_ret
      exact ⟨ret_bool HF.out.symm, Dr.below ⟨_, rfl⟩⟩
end Go.Proofs.Ytemejcbilhcebaa
