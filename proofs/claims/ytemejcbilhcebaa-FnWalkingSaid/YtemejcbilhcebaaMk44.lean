/-
  JOINED TEXTS, each under its own namespace line: Has, MostN.
-/
import Derived.Test.YtemejcbilhcebaaMk06
import Derived.Test.YtemejcbilhcebaaSlices
import Derived.Test.YtemejcbilhcebaaMk04
import Derived.Test.YtemejcbilhcebaaRows
import Derived.LoopTactic
import Derived.WalkLawsBesides
import Derived.BigQuiet
import Derived.Deep.RegionHeld3
import Derived.Deep.QuietTactic
namespace Go.Proofs.Ytemejcbilhcebaa
open Go.RowKit
set_option linter.unusedVariables false

def inB (x : Int) (xs : List Int) : Bool := decide (x ∈ xs)
theorem inB_yes {x : Int} {xs : List Int} (h : x ∈ xs) : inB x xs = true := decide_eq_true h
theorem inB_no {x : Int} {xs : List Int} (h : x ∉ xs) : inB x xs = false := decide_eq_false h
theorem l1Has_any (v : Value) (xs : List Int) (x : Int) (w : World) (hr : RowAt w v (ints xs)) :
    Calls Try.prog 73 #[v, .int .i64 x] w fun e w' => e = .returned (.bool (inB x xs)) ∧ w = w' := by
  obtain ⟨a, c, rfl, hc, hm, HC⟩ := ints_open hr
  clear hr
  go_enter Try.func73, Try.ntmps73
  go_wp2
  go_loop [5] (fun i => ∃ k : Nat, k ≤ xs.length ∧ i = .int .i64 k ∧ Hid (x ∉ xs.take k)) (fun i => xs.length - (RowKit.intOf i).toNat)
  case atStart => exact ⟨0, Nat.zero_le _, rfl, by show _ ∉ _; simp⟩
  case round =>
    obtain ⟨k, hk, rfl, HN⟩ := hrel
    by_cases hlt : k < xs.length
    · obtain ⟨b, off, rfl, _, hcx⟩ := HC.out k hlt
      by_cases he : xs[k] = x
      · have HF := Lib.hid (inB_yes (show x ∈ xs by rw [← he]; exact List.getElem_mem hlt))
        have hb : (xs[k] == x) = true := by simp [he]
        clear he
        generalize xs[k] = y at *
        go_wp2
        go_ret
        exact ⟨ret_bool HF.out.symm, rfl⟩
      · have HN2 := Lib.hid (not_take_succ hlt HN.out he)
        have hb : (xs[k] == x) = false := by simp; exact he
        clear he
        generalize xs[k] = y at *
        go_wp2
        go_round
        case rel => exact ⟨k + 1, by omega, by go_num, HN2⟩
        case measure => simp [RowKit.intOf]; omega
    · have HF := Lib.hid (inB_no (not_take_all (by omega) HN.out))
      go_wp2
      go_ret
      exact ⟨ret_bool HF.out.symm, rfl⟩
end Go.Proofs.Ytemejcbilhcebaa

namespace Go.Proofs.Ytemejcbilhcebaa
open Go.RowKit
set_option linter.unusedVariables false
set_option linter.unusedSimpArgs false

theorem l1MostN_any (a b : Nat) (w : World) : Calls Try.prog 81 #[.int .i64 a, .int .i64 b] w fun e w' => e = .returned (.int .i64 ((max a b : Nat) : Int)) ∧ w = w' := by
  by_cases h : (b : Int) < (a : Int)
  · rw [show max a b = a by omega]
    go_enter Try.func81, Try.ntmps81
    go_wp2
    go_ret
    exact ⟨rfl, rfl⟩
  · rw [show max a b = b by omega]
    go_enter Try.func81, Try.ntmps81
    go_wp2
    go_ret
    exact ⟨rfl, rfl⟩
end Go.Proofs.Ytemejcbilhcebaa
