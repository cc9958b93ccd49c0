import Derived.Test.YtemejcbilhcebaaIntsLaw
namespace Go.Proofs.Ytemejcbilhcebaa
open Go.RowKit
set_option linter.unusedVariables false
set_option linter.unusedSimpArgs false

set_option maxRecDepth 100000 in
theorem rBig_any (a : Option Addr) (n c : Nat) (w : World) (hn : n ≤ maxLen) :
    (65536 < n → Calls Try.prog 17 #[.slice a n c] w fun e w' => e = .returned (.bool true) ∧ w = w') ∧
    (n ≤ 65536 → Calls Try.prog 17 #[.slice a n c] w fun e w' => e = .returned (.bool false) ∧ w = w') := by
  unfold maxLen at hn
  constructor
  · intro h
    have hd : decide ((65536 : Int) < (n : Int)) = true := by simp; omega
    go_enter Try.func17, Try.ntmps17
    go_wp2
    go_ret
    exact ⟨by simp, rfl⟩
  · intro h
    have hd : decide ((65536 : Int) < (n : Int)) = false := by simp; omega
    go_enter Try.func17, Try.ntmps17
    go_wp2
    go_ret
    exact ⟨by simp, rfl⟩

set_option maxRecDepth 100000 in
set_option maxHeartbeats 2000000 in
theorem rInts_any (v u : Value) (xs : List Int) (w : World) (hv : RowAt w v (ints xs)) (hu : RowAt w u (ints xs)) :
    Calls Try.prog 26 #[v, u] w fun e w' => e = .returned (.bool true) ∧ Below w.heap.size w w' := by
  obtain ⟨a, c, rfl, hl1, hl2, HX⟩ := ints_open hv
  obtain ⟨a2, c2, rfl, _, _, HY⟩ := ints_open hu
  have hl : xs.length ≤ 9223372036854775807 := by omega
  clear hv hu hl1 hl2
  go_enter Try.func26, Try.ntmps26
  go_wp2_with fail
  go_loopw [5] (fun i wr => ∃ k : Nat, k ≤ xs.length ∧ i = .int .i64 (k : Int) ∧ Hid (Below w.heap.size w wr)) (fun i _ => xs.length - (RowKit.intOf i).toNat)
  case atStart => exact ⟨0, Nat.zero_le _, rfl, Below.refl _ _⟩
  case round =>
    obtain ⟨k, hk, rfl, HB⟩ := hrel
    by_cases hlt : k < xs.length
    · obtain ⟨b, off, rfl, hbl, y0⟩ := HX.out k hlt
      have hx0 := bkeep HB.out y0
      obtain ⟨b2, off2, rfl, hbl2, z0⟩ := HY.out k hlt
      have hy0 := bkeep HB.out z0
      clear y0 z0
      generalize xs[k] = y at *
      go_wp2_with (go_quiet (fail))
      go_roundw
      case rel => exact ⟨k + 1, by omega, by go_num, below_drewN HB.out _⟩
      case measure => simp [RowKit.intOf]; omega
    · have hkl : k = xs.length := by omega
      subst hkl
      go_wp2_with fail
      go_ret
      exact ⟨rfl, HB.out⟩
end Go.Proofs.Ytemejcbilhcebaa
