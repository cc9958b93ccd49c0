import Derived.Test.YtemejcbilhcebaaCalDay
import Derived.Test.YtemejcbilhcebaaContains
import Derived.Test.YtemejcbilhcebaaHas
namespace Go.Proofs.Ytemejcbilhcebaa
open Go.RowKit
set_option linter.unusedVariables false

theorem rise_bad {l : List Int} {lo hi : Int} (k : Nat) (hk : k < l.length) (h : ¬ (lo ≤ l[k] ∧ l[k] ≤ hi)) : ¬ Rise l lo hi := fun g => h (g k hk hk).1
theorem rise_back {l : List Int} {lo hi : Int} (k : Nat) (hk : k < l.length) (h0 : 0 < k) (h : l[k] ≤ l[k - 1]'(by omega)) : ¬ Rise l lo hi := fun g => by have := (g k hk hk).2 h0; omega

theorem areDaysWithin_any (v : Value) (xs : List Int) (lo hi : Int) (w : World) (hr : RowAt w v (ints xs)) :
    Calls Try.prog 67 #[v, .int .i64 lo, .int .i64 hi] w fun e w' => e = .returned (.bool (riseB xs lo hi)) ∧ w = w' := by
  obtain ⟨a, c, rfl, hc, hm, HC⟩ := ints_open hr
  clear hr
  go_enter Try.func67, Try.ntmps67
  go_wp2
  go_loop [11] (fun i => ∃ k : Nat, k ≤ xs.length ∧ i = .int .i64 k ∧ Hid (RiseTo xs lo hi k)) (fun i => xs.length - (RowKit.intOf i).toNat)
  case atStart => exact ⟨0, Nat.zero_le _, rfl, riseTo_zero _ _ _⟩
  case round =>
    obtain ⟨k, hk, rfl, HN⟩ := hrel
    by_cases hlt : k < xs.length
    · obtain ⟨b, off, rfl, _, hcx⟩ := HC.out k hlt
      by_cases hb : lo ≤ xs[k] ∧ xs[k] ≤ hi
      · by_cases h0 : 0 < k
        · obtain ⟨b', off', hab, _, hcx'⟩ := HC.out (k - 1) (by omega)
          obtain ⟨rfl, rfl⟩ : b = b' ∧ off = off' := by simpa using hab
          clear hab
          by_cases ho : xs[k - 1] < xs[k]
          · have HN2 := Lib.hid (riseTo_succ hlt HN.out hb (fun _ => ho))
            obtain ⟨b1, b2⟩ := hb
            have e1 : ((k : Int) - 1).toNat = k - 1 := by omega
            have e2 : decide (0 < (k : Int)) = true := by simpa using h0
            generalize xs[k] = y at *
            generalize xs[k - 1] = z at *
            go_wp2
            go_round
            case rel => exact ⟨k + 1, by omega, by go_num, HN2⟩
            case measure => simp [RowKit.intOf]; omega
          · have HF := Lib.hid (riseB_no (rise_back (lo := lo) (hi := hi) k hlt h0 (by omega)))
            have ho' : xs[k] ≤ xs[k - 1] := by omega
            obtain ⟨b1, b2⟩ := hb
            have e1 : ((k : Int) - 1).toNat = k - 1 := by omega
            clear ho
            generalize xs[k] = y at *
            generalize xs[k - 1] = z at *
            go_wp2
            go_ret
            exact ⟨ret_bool HF.out.symm, rfl⟩
        · have HN2 := Lib.hid (riseTo_succ hlt HN.out hb (fun h => absurd h h0))
          have h0' : (k : Int) ≤ 0 := by omega
          clear h0
          obtain ⟨b1, b2⟩ := hb
          generalize xs[k] = y at *
          go_wp2
          go_round
          case rel => exact ⟨k + 1, by omega, by go_num, HN2⟩
          case measure => simp [RowKit.intOf]; omega
      · have HF := Lib.hid (riseB_no (rise_bad k hlt hb))
        have hb' : xs[k] < lo ∨ (lo ≤ xs[k] ∧ hi < xs[k]) := by omega
        clear hb
        generalize xs[k] = y at *
        rcases hb' with hb' | ⟨g1, g2⟩
        all_goals
          go_wp2
          go_ret
          exact ⟨ret_bool HF.out.symm, rfl⟩
    · have HF := Lib.hid (riseB_yes (rise_of (by omega) HN.out))
      go_wp2
      go_ret
      exact ⟨ret_bool HF.out.symm, rfl⟩
end Go.Proofs.Ytemejcbilhcebaa
