/-
  THE WALK of laws.FnExactJoinStrings: for every list of strings and every separator the law returns true and nothing that was in memory turns.
-/
import Derived.Test.YtmjopejjbdmniaaJoin
namespace Go.Proofs.Ytmjopejjbdmniaa.fnExactJoinStrings
open Go.RowKit
open Go.Lib
set_option linter.unusedVariables false

theorem size_le_sum : ∀ (xs : List ByteArray) (x : ByteArray), x ∈ xs → x.size ≤ sumSz xs
  | y :: r, x, h => by
    rcases List.mem_cons.1 h with rfl | h
    · simp [sumSz]
    · have := size_le_sum r x h; simp [sumSz] at *; omega

set_option maxHeartbeats 2000000 in
theorem walk (v0 : Value) (a1 : ByteArray) (W : World) (S0 : ∃ xs : List ByteArray, RowAt W v0 (xs.map .string) ∧ ∀ x ∈ xs, x.size ≤ maxLen) (w1 : a1.size ≤ maxLen) (hL : laidMetH Try.prog Rows.fnExactJoinStringsRow.laid W) (hsh : W.ShapedOpen Try.prog) :
    Calls Try.prog 5 #[v0, .string a1] W fun e w' => e = .returned (.bool true) ∧ Below W.heap.size W w' := by
  obtain ⟨xs, hr, hx⟩ := S0
  have hs := w1
  unfold maxLen at hs
  clear hL hsh
  by_cases hbig : 1048576 < a1.size
  · go_enter Try.func5, Try.ntmps5
    go_wp2_with fail
    go_ret
    exact ⟨rfl, Below.refl _ _⟩
  · have HSz := Lib.hid (szStringS_any v0 xs 1048576 W hr hx (by omega) (by omega))
    go_enter Try.func5, Try.ntmps5
    go_wp2_with fail
    go_at_call 21
    refine HSz.out.mono ?_
    rintro e w' ⟨⟨r, rfl, hrr⟩, rfl⟩
    rcases hrr with hneg | ⟨h0, hsum⟩
    · subst hneg
      go_wp2_with fail
      go_ret
      exact ⟨rfl, Below.refl _ _⟩
    · have HSum : xs.length + sumSz xs ≤ 1048576 := by omega
      clear hsum
      go_wp2_with fail
      -- the model's copy
      go_at_call 22
      refine (toStringS_any v0 xs W hr (by omega)).mono ?_
      rintro e w1 ⟨v1, rfl, hown1, hb1⟩
      have hr1 : RowAt w1 v1 (xs.map .string) := rowAt_own hown1
      clear hown1
      -- what both answer, whatever the world
      have both : ∃ (s : ByteArray) (b : Bool), (∀ (v : Value) (w : World), RowAt w v (xs.map .string) → Calls Try.prog 13 #[v, .string a1] w fun e w' => e = .returned (.tuple #[.string s, .bool b]) ∧ Below w.heap.size w w') ∧
          (∀ (v : Value) (w : World), RowAt w v (xs.map .string) → Calls Try.prog 12 #[v, .string a1] w fun e w' => e = .returned (.tuple #[.string s, .bool b]) ∧ Below w.heap.size w w') := by
        by_cases hbad : a1.size ≠ 1 ∨ xs = []
        · exact ⟨_, _, fun v w h => (specJoin_badsep v xs a1 w h hbad).mono fun e w' ⟨he, hw⟩ => ⟨he, hw ▸ Below.refl _ _⟩, fun v w h => (implJoin_badsep v xs a1 w h hbad).mono fun e w' ⟨he, hw⟩ => ⟨he, hw ▸ Below.refl _ _⟩⟩
        · have hne : xs ≠ [] := fun h => hbad (.inr h)
          obtain ⟨c, rfl⟩ := sep_one a1 (by by_cases h : a1.size = 1; exact h; exact absurd (.inl h) hbad)
          by_cases hj : Joins c xs
          · exact ⟨_, _, fun v w h => ((specJoin_any v xs c w h (by omega) (fun x hx => by have := size_le_sum xs x hx; omega) hne).1 hj).mono fun e w' ⟨he, hw⟩ => ⟨he, hw.below⟩, fun v w h => (implJoin_any v xs c w h HSum hne).1 hj⟩
          · exact ⟨_, _, fun v w h => ((specJoin_any v xs c w h (by omega) (fun x hx => by have := size_le_sum xs x hx; omega) hne).2 hj).mono fun e w' ⟨he, hw⟩ => ⟨he, hw.below⟩, fun v w h => (implJoin_any v xs c w h HSum hne).2 hj⟩
      obtain ⟨s, bb, hspec, himpl⟩ := both
      have HSpec := Lib.hid hspec
      have HImpl := Lib.hid himpl
      clear hspec himpl HSz
      have hss : (s.toList == s.toList) = true := by simp
      have hbb : (bb != bb) = false := by simp
      go_wp2_with fail
      go_at_call 13
      refine (HSpec.out v1 w1 hr1).mono ?_
      rintro e w2 ⟨rfl, hb2⟩
      have hb02 : Below W.heap.size W w2 := hb1.trans (hb2.mono hb1.size)
      have hrW2 := hr.below rfl hb02
      clear hr1 hb1 hb2
      go_wp2_with fail
      go_at_call 22
      refine (toStringS_any v0 xs w2 hrW2 (by omega)).mono ?_
      rintro e w3 ⟨v3, rfl, hown3, hb3⟩
      have hr3 : RowAt w3 v3 (xs.map .string) := rowAt_own hown3
      have hb03 : Below W.heap.size W w3 := hb02.trans (hb3.mono hb02.size)
      clear hown3 hb3 hb02 hrW2
      go_wp2_with fail
      go_at_call 12
      refine (HImpl.out v3 w3 hr3).mono ?_
      rintro e w4 ⟨rfl, hb4⟩
      have hr34 := hr3.below rfl hb4
      have hb04 : Below W.heap.size W w4 := hb03.trans (hb4.mono hb03.size)
      have hrW4 := hr.below rfl hb04
      clear hr3 hb4 hb03
      go_wp2_with fail
      go_at_call 22
      refine (toStringS_any v0 xs w4 hrW4 (by omega)).mono ?_
      rintro e w5 ⟨v5, rfl, hown5, hb5⟩
      have hr5 : RowAt w5 v5 (xs.map .string) := rowAt_own hown5
      have hr35 := hr34.below rfl hb5
      have hb05 : Below W.heap.size W w5 := hb04.trans (hb5.mono hb04.size)
      clear hown5 hb5 hb04 hr34 hrW4
      go_wp2_with fail
      go_at_call 18
      refine (eqStringS_same v3 v5 xs w5 hr35 hr5 (by omega)).mono ?_
      rintro e w6 ⟨rfl, m, rfl⟩
      go_wp2_with fail
      go_ret
      exact ⟨rfl, hb05.trans ((Dr.below ⟨m, rfl⟩).mono hb05.size)⟩
end Go.Proofs.Ytmjopejjbdmniaa.fnExactJoinStrings
