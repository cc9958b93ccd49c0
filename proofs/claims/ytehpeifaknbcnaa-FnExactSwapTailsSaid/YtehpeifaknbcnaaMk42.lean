/-
  JOINED TEXTS, each under its own namespace line: Has, OwnI.
-/
import Derived.Test.YtehpeifaknbcnaaMk01
import Derived.Test.YtehpeifaknbcnaaInts
import Derived.Test.YtehpeifaknbcnaaRows
import Derived.LoopTactic
import Derived.WalkLawsBesides
import Derived.BigQuiet
import Derived.Deep.RegionHeld3
import Derived.Deep.QuietTactic
import Derived.Test.YtehpeifaknbcnaaMk12
import Derived.Test.YtehpeifaknbcnaaMk04
namespace Go.Proofs.Ytehpeifaknbcnaa
open Go.RowKit
set_option linter.unusedVariables false

def inB (x : Int) (xs : List Int) : Bool := decide (x ∈ xs)
theorem inB_yes {x : Int} {xs : List Int} (h : x ∈ xs) : inB x xs = true := decide_eq_true h
theorem inB_no {x : Int} {xs : List Int} (h : x ∉ xs) : inB x xs = false := decide_eq_false h
theorem l1Has_any (v : Value) (xs : List Int) (x : Int) (w : World) (hr : RowAt w v (ints xs)) :
    Calls Try.prog 102 #[v, .int .i64 x] w fun e w' => e = .returned (.bool (inB x xs)) ∧ w = w' := by
  obtain ⟨a, c, rfl, hc, hm, HC⟩ := ints_open hr
  clear hr
  go_enter Try.func102, Try.ntmps102
  go_wp2
  go_loop [5] (fun i => ∃ k : Nat, k ≤ xs.length ∧ i = .int .i64 k ∧ Hid (x ∉ xs.take k)) (fun i => xs.length - (RowKit.intOf i).toNat)
  case atStart => exact ⟨0, Nat.zero_le _, rfl, by show _ ∉ _; simp⟩
  case round =>
    obtain ⟨k, hk, rfl, HN⟩ := hrel
    by_cases hlt : k < xs.length
    · obtain ⟨b, off, rfl, _, hcx⟩ := HC.out k hlt
      by_cases he : xs[k] = x
      · have HF := Lib.hid (inB_yes (show x ∈ xs by rw [← he]; exact List.getElem_mem hlt))
        have hb : (xs[k] == x) = true := by simp [he]
        clear he
        generalize xs[k] = y at *
        go_wp2
        go_ret
        exact ⟨ret_bool HF.out.symm, rfl⟩
      · have HN2 := Lib.hid (not_take_succ hlt HN.out he)
        have hb : (xs[k] == x) = false := by simp; exact he
        clear he
        generalize xs[k] = y at *
        go_wp2
        go_round
        case rel => exact ⟨k + 1, by omega, by go_num, HN2⟩
        case measure => simp [RowKit.intOf]; omega
    · have HF := Lib.hid (inB_no (not_take_all (by omega) HN.out))
      go_wp2
      go_ret
      exact ⟨ret_bool HF.out.symm, rfl⟩
end Go.Proofs.Ytehpeifaknbcnaa

namespace Go.Proofs.Ytehpeifaknbcnaa
open Go.RowKit
set_option linter.unusedVariables false

theorem row_new (w : World) (B : Nat) (hB : B ≤ w.heap.size) : (w.alloc (.cells #[] 3)).ownsRow B 3 1 (.slice (some ⟨w.heap.size, 0, none⟩) 0 0) 0 (ints []) := by
  have h := World.ownsRow_lit (base := B) (e := 3) (size := 1) w #[] 0 hB (by decide) (by simp)
  simpa [ints] using h
end Go.Proofs.Ytehpeifaknbcnaa
