import Derived.Test.YtemejcbilhcebaaRows
import Derived.Test.YtemejcbilhcebaaInts
import Derived.Test.YtemejcbilhcebaaFst
import Derived.LoopTactic
import Derived.WalkLawsBesides
namespace Go.Proofs.Ytemejcbilhcebaa
open Go.RowKit
set_option linter.unusedVariables false

theorem indexInt_any (v : Value) (xs : List Int) (x : Int) (w : World) (hr : RowAt w v (ints xs)) :
    Calls Try.prog 56 #[v, .int .i64 x] w fun e w' => e = .returned (.int .i64 (fstIdx x xs)) ∧ w = w' := by
  obtain ⟨a, c, rfl, hc, hm, HC⟩ := ints_open hr
  clear hr
  go_enter Try.func56, Try.ntmps56
  go_wp2
  go_loop [8] (fun i => ∃ k : Nat, k ≤ xs.length ∧ i = .int .i64 k ∧ Hid (x ∉ xs.take k)) (fun i => xs.length - (RowKit.intOf i).toNat)
  case atStart => exact ⟨0, Nat.zero_le _, rfl, by show _ ∉ _; simp⟩
  case round =>
    obtain ⟨k, hk, rfl, HN⟩ := hrel
    by_cases hlt : k < xs.length
    · obtain ⟨b, off, rfl, _, hcx⟩ := HC.out k hlt
      by_cases he : xs[k] = x
      · have HF := Lib.hid (fstIdx_hit k hlt he HN.out)
        have hb : (x == xs[k]) = true := by simp [he]
        clear he
        generalize xs[k] = y at *
        go_wp2
        go_ret
        exact ⟨ret_int HF.out.symm, rfl⟩
      · have HN2 := Lib.hid (not_take_succ hlt HN.out he)
        have hb : (x == xs[k]) = false := by simp; exact fun e => he e.symm
        clear he
        generalize xs[k] = y at *
        go_wp2
        go_round
        case rel => exact ⟨k + 1, by omega, by go_num, HN2⟩
        case measure => simp [RowKit.intOf]; omega
    · have HF := Lib.hid (fstIdx_none (not_take_all (by omega) HN.out))
      go_wp2
      go_ret
      exact ⟨ret_int HF.out.symm, rfl⟩
theorem containsInt_any (v : Value) (xs : List Int) (x : Int) (b : Bool) (hb : b = decide (x ∈ xs)) (w : World) (hr : RowAt w v (ints xs)) :
    Calls Try.prog 61 #[v, .int .i64 x] w fun e w' => e = .returned (.bool b) ∧ w = w' := by
  have HI := Lib.hid (indexInt_any v xs x w hr)
  obtain ⟨a, c, rfl, _⟩ := ints_open hr
  clear hr
  by_cases h : x ∈ xs
  · have hge : 0 ≤ fstIdx x xs := by
      by_cases g : fstIdx x xs < 0
      · exact absurd h ((fstIdx_neg _ _).1 g)
      · omega
    have HB : Hid (b = true) := by rw [hb]; exact decide_eq_true h
    clear hb h
    go_enter Try.func61, Try.ntmps61
    go_wp2_with (go_at_call 56; refine HI.out.mono ?_; rintro e w' ⟨rfl, rfl⟩)
    go_ret
    exact ⟨ret_bool (by first | exact HB.out.symm | (rw [HB.out]; simpa using hge)), rfl⟩
  · have hge : fstIdx x xs < 0 := (fstIdx_neg _ _).2 h
    have HB : Hid (b = false) := by rw [hb]; exact decide_eq_false h
    clear hb h
    go_enter Try.func61, Try.ntmps61
    go_wp2_with (go_at_call 56; refine HI.out.mono ?_; rintro e w' ⟨rfl, rfl⟩)
    go_ret
    exact ⟨ret_bool (by first | exact HB.out.symm | (rw [HB.out]; simpa using hge)), rfl⟩
end Go.Proofs.Ytemejcbilhcebaa
