/-
  THE WALK of laws.FnExactSplitString: for every argument the law returns true and nothing that was in memory turns.
-/
import Derived.Test.YtbbcjponeiphaaaSplitString
namespace Go.Proofs.Ytbbcjponeiphaaa.fnExactSplitString
open Go.RowKit
set_option linter.unusedVariables false
set_option linter.unusedSimpArgs false

set_option maxRecDepth 100000 in
set_option maxHeartbeats 8000000 in
theorem walk (a0 : ByteArray) (a1 : ByteArray) (W : World) (w0 : a0.size ≤ maxLen) (w1 : a1.size ≤ maxLen) (hL : laidMetH Try.prog Rows.fnExactSplitStringRow.laid W) (hsh : W.ShapedOpen Try.prog) :
    Calls Try.prog 16 #[.string a0, .string a1] W fun e w' => e = .returned (.bool true) ∧ Below W.heap.size W w' := by
  clear hL hsh
  have hs0 := w0
  unfold maxLen at hs0
  have hs1 := w1
  unfold maxLen at hs1
  -- if len(aS) > 1<<20 {
  by_cases hbig0 : 1048576 < a0.size
  · go_enter Try.func16, Try.ntmps16
    go_wp2_with fail
    go_ret
    exact ⟨rfl, (Below.refl _ _)⟩
  -- if len(aSep) > 1<<20 {
  by_cases hbig1 : 1048576 < a1.size
  · go_enter Try.func16, Try.ntmps16
    go_wp2_with fail
    go_ret
    exact ⟨rfl, (Below.refl _ _)⟩
  go_enter Try.func16, Try.ntmps16
  obtain ⟨r0, r1, hq0, hboth⟩ := bothSplitString a0 w0 a1 w1
  have HQ0 := Lib.hid hq0
  clear hq0
  have HSpec := Lib.hid (fun  w  => (hboth  w ).1)
  have HImpl := Lib.hid (fun  w  => (hboth  w ).2)
  clear hboth
  have hne1 : (r1 != r1) = false := by simp
  -- w0, w1 := spec.SplitString(aS, aSep)
  go_wp2_with fail
  go_at_call 68
  refine (HSpec.out  _ ).mono ?_
  rintro e w1 ⟨zw0, rfl, hi0, hb⟩
  obtain ⟨w0_0, w0_1, rfl⟩ := StringS_open hi0.at
  have Iw0_new := Lib.hid hi0
  clear hi0
  have hX1 : Hid (Below W.heap.size W w1) := hb
  have hz1 : W.heap.size + 0 ≤ w1.heap.size ∧ W.heap.size + 0 ≤ w1.heap.size := by have h1 := hb.size; (try simp at h1); omega
  have HB1 : Hid (Below W.heap.size W w1) := hX1
  clear hb
  have Iw0_1 := Iw0_new
  clear Iw0_new
  -- g0, g1 := impl.SplitString(aS, aSep)
  go_wp2_with fail
  go_at_call 69
  refine (HImpl.out  _ ).mono ?_
  rintro e w2 ⟨zg0, rfl, hi0, hb⟩
  obtain ⟨g0_0, g0_1, rfl⟩ := StringS_open hi0.at
  have Ig0_new := Lib.hid hi0
  clear hi0
  have hX2 : Hid (Below w1.heap.size w1 w2) := hb
  have hz2 : W.heap.size + 0 ≤ w2.heap.size ∧ w1.heap.size + 0 ≤ w2.heap.size := by have h1 := hb.size; (try simp at h1); omega
  have HB2 : Hid (Below W.heap.size W w2) := HB1.out.trans (hX2.out.mono (by omega))
  have Iw0_2 := Lib.hid (Iw0_1.out.later hX2.out)
  clear Iw0_1
  clear hb
  have Ig0_2 := Ig0_new
  clear Ig0_new
  -- if !eqStringS(g0, w0) || g1 != w1 {
  go_wp2_with fail
  go_at_call 70
  refine (eqStringS_x _ _ r0 _ ((Ig0_2.out).at) ((Iw0_2.out).at) HQ0.out).mono ?_
  rintro e w3 ⟨rfl, hb⟩
  have hX3 : Hid (Below w2.heap.size w2 w3) := hb
  have hz3 : W.heap.size + 0 ≤ w3.heap.size ∧ w2.heap.size + 0 ≤ w3.heap.size := by have h1 := hb.size; (try simp at h1); omega
  have HB3 : Hid (Below W.heap.size W w3) := HB2.out.trans (hX3.out.mono (by omega))
  have Iw0_3 := Lib.hid (Iw0_2.out.later hX3.out)
  clear Iw0_2
  have Ig0_3 := Lib.hid (Ig0_2.out.later hX3.out)
  clear Ig0_2
  clear hb
  -- m = markStringS(g0, m)
  go_wp2_with fail
  have hsq0 := HQ0.out
  try unfold StrsSmall at hsq0
  go_at_call 71
  refine (markStringS_x _ r0 _ _ _ _ Ig0_3.out (by omega) HQ0.out (by omega) (by omega)).mono ?_
  rintro e w4 ⟨rfl, hmk, hgr, ho⟩
  have M0_new := Lib.hid hmk
  clear hmk hgr
  have hX4 : Hid (Out (_) (_) w3 w4) := ho
  have hz4 : W.heap.size + 0 ≤ w4.heap.size ∧ w3.heap.size ≤ w4.heap.size := ⟨by have := hX4.out.below.size; omega, hX4.out.below.size⟩
  have HB4 : Hid (Below W.heap.size W w4) := HB3.out.trans (hX4.out.below.mono (by omega))
  have Iw0_4 := Lib.hid (Iw0_3.out.out hX4.out (by omega))
  clear Iw0_3
  clear Ig0_3
  clear ho
  have M0_4 := M0_new
  clear M0_new
  -- q = heldStringS(g0, q)
  go_wp2_with fail
  go_at_call 72
  refine (heldStringS_x _ r0 _ _ (M0_4.out) HQ0.out (by omega) (by omega)).mono ?_
  rintro e w5 ⟨rfl, hb⟩
  have hX5 : Hid (Below w4.heap.size w4 w5) := hb
  have hz5 : W.heap.size + 0 ≤ w5.heap.size ∧ w4.heap.size + 0 ≤ w5.heap.size := by have h1 := hb.size; (try simp at h1); omega
  have HB5 : Hid (Below W.heap.size W w5) := HB4.out.trans (hX5.out.mono (by omega))
  have Iw0_5 := Lib.hid (Iw0_4.out.later hX5.out)
  clear Iw0_4
  have M0_5 := Lib.hid (M0_4.out.later hX5.out)
  clear M0_4
  clear hb
  have hqq : ((1 : Int) + (r0.length : Int) != 1 + (r0.length : Int)) = false := by simp
  -- h0, h1 := impl.SplitString(aS, aSep)
  go_wp2_with fail
  go_at_call 69
  refine (HImpl.out  _ ).mono ?_
  rintro e w6 ⟨zh0, rfl, hi0, hb⟩
  obtain ⟨h0_0, h0_1, rfl⟩ := StringS_open hi0.at
  have Ih0_new := Lib.hid hi0
  clear hi0
  have hX6 : Hid (Below w5.heap.size w5 w6) := hb
  have hz6 : W.heap.size + 0 ≤ w6.heap.size ∧ w5.heap.size + 0 ≤ w6.heap.size := by have h1 := hb.size; (try simp at h1); omega
  have HB6 : Hid (Below W.heap.size W w6) := HB5.out.trans (hX6.out.mono (by omega))
  have Iw0_6 := Lib.hid (Iw0_5.out.later hX6.out)
  clear Iw0_5
  have M0_6 := Lib.hid (M0_5.out.later hX6.out)
  clear M0_5
  clear hb
  have Ih0_6 := Ih0_new
  clear Ih0_new
  -- if !eqStringS(h0, w0) || h1 != w1 {
  go_wp2_with fail
  go_at_call 70
  refine (eqStringS_x _ _ r0 _ ((Ih0_6.out).at) ((Iw0_6.out).at) HQ0.out).mono ?_
  rintro e w7 ⟨rfl, hb⟩
  have hX7 : Hid (Below w6.heap.size w6 w7) := hb
  have hz7 : W.heap.size + 0 ≤ w7.heap.size ∧ w6.heap.size + 0 ≤ w7.heap.size := by have h1 := hb.size; (try simp at h1); omega
  have HB7 : Hid (Below W.heap.size W w7) := HB6.out.trans (hX7.out.mono (by omega))
  have Iw0_7 := Lib.hid (Iw0_6.out.later hX7.out)
  clear Iw0_6
  have M0_7 := Lib.hid (M0_6.out.later hX7.out)
  clear M0_6
  have Ih0_7 := Lib.hid (Ih0_6.out.later hX7.out)
  clear Ih0_6
  clear hb
  clear Ih0_7
  -- q = heldStringS(g0, q)
  go_wp2_with fail
  go_at_call 72
  refine (heldStringS_x _ r0 _ _ (M0_7.out) HQ0.out (by omega) (by omega)).mono ?_
  rintro e w8 ⟨rfl, hb⟩
  have hX8 : Hid (Below w7.heap.size w7 w8) := hb
  have hz8 : W.heap.size + 0 ≤ w8.heap.size ∧ w7.heap.size + 0 ≤ w8.heap.size := by have h1 := hb.size; (try simp at h1); omega
  have HB8 : Hid (Below W.heap.size W w8) := HB7.out.trans (hX8.out.mono (by omega))
  have Iw0_8 := Lib.hid (Iw0_7.out.later hX8.out)
  clear Iw0_7
  have M0_8 := Lib.hid (M0_7.out.later hX8.out)
  clear M0_7
  clear hb
  have hqq : ((1 : Int) + (r0.length : Int) != 1 + (r0.length : Int)) = false := by simp
  go_wp2_with fail
  go_ret
  exact ⟨rfl, HB8.out⟩
end Go.Proofs.Ytbbcjponeiphaaa.fnExactSplitString
