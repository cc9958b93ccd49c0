/-
  CONTRACT of the laws' helper vSpans at two equal lists: true.
-/
import Derived.Test.YtenbplehiaofmaaSpanX
namespace Go.Proofs.Ytenbplehiaofmaa
open Go.RowKit
set_option linter.unusedVariables false

set_option maxRecDepth 100000 in
set_option maxHeartbeats 2000000 in
theorem vSpans_any (v u : Value) (xs : List SpanD) (w : World) (hv : SpansAt w v xs) (hu : SpansAt w u xs) (hn : SpansSmall xs) :
    Calls Try.prog 17 #[v, u] w fun e w' => e = .returned (.bool true) ∧ Below w.heap.size w w' := by
  obtain ⟨a, c, rfl, _, _, HX⟩ := spans_open hv
  obtain ⟨a2, c2, rfl, _, _, HY⟩ := spans_open hu
  unfold SpansSmall at hn
  clear hv hu
  go_enter Try.func17, Try.ntmps17
  go_wp2_with fail
  go_loopw [5] (fun i wr => ∃ k : Nat, k ≤ xs.length ∧ i = .int .i64 (k : Int) ∧ Hid (Below w.heap.size w wr)) (fun i _ => xs.length - (RowKit.intOf i).toNat)
  case atStart => exact ⟨0, Nat.zero_le _, rfl, Below.refl _ _⟩
  case round =>
    obtain ⟨k, hk, rfl, HB⟩ := hrel
    by_cases hlt : k < xs.length
    · obtain ⟨b, off, rfl, hbl, y0, y1⟩ := HX.out k hlt
      have hx0 := HB.out.cell (p := ⟨b, off + k * 2, none⟩) hbl
      rw [y0] at hx0
      have hx1 := HB.out.cell (p := ⟨b, off + k * 2 + 1, none⟩) hbl
      rw [y1] at hx1
      obtain ⟨b2, off2, rfl, hbl2, z0, z1⟩ := HY.out k hlt
      have hy0 := HB.out.cell (p := ⟨b2, off2 + k * 2, none⟩) hbl2
      rw [z0] at hy0
      have hy1 := HB.out.cell (p := ⟨b2, off2 + k * 2 + 1, none⟩) hbl2
      rw [z1] at hy1
      clear y0 y1 z0 z1
      generalize xs[k] = y at *
      obtain ⟨p, q⟩ := y
      simp only at *
      go_wp2_with (go_quiet (fail))
      go_roundw
      case rel => exact ⟨k + 1, by omega, by go_num, below_drewN HB.out _⟩
      case measure => simp [RowKit.intOf]; omega
    · have hkl : k = xs.length := by omega
      subst hkl
      go_wp2_with fail
      go_ret
      exact ⟨rfl, HB.out⟩
end Go.Proofs.Ytenbplehiaofmaa
