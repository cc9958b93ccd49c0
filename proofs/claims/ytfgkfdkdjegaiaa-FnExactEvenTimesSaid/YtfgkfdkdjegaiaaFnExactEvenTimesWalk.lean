/-
  THE WALK of laws.FnExactEvenTimes: for every argument the law returns true and nothing that was in memory turns.
-/
import Derived.Test.YtfgkfdkdjegaiaaEvenTimes
import Derived.Test.YtfgkfdkdjegaiaaMb
import Derived.Test.YtfgkfdkdjegaiaaPatternHeld
import Derived.Test.YtfgkfdkdjegaiaaMa
namespace Go.Proofs.Ytfgkfdkdjegaiaa.fnExactEvenTimes
open Go.RowKit
set_option linter.unusedVariables false
set_option linter.unusedSimpArgs false

set_option maxRecDepth 100000 in
set_option maxHeartbeats 8000000 in
theorem walk (a0 : Int) (a1 : Int) (W : World) (w0 : (Lit.int .i64 a0).wf = true) (w1 : (Lit.int .i64 a1).wf = true) (hL : laidMetH Try.prog Rows.fnExactEvenTimesRow.laid W) (hsh : W.ShapedOpen Try.prog) :
    Calls Try.prog 13 #[.int .i64 a0, .int .i64 a1] W fun e w' => e = .returned (.bool true) ∧ Below W.heap.size W w' := by
  clear hL hsh
  have Hw0 := Lib.hid w0
  clear w0
  have Hw1 := Lib.hid w1
  clear w1
  go_enter Try.func13, Try.ntmps13
  obtain ⟨r0, r1, hq0, hboth⟩ := bothEvenTimes a0 Hw0.out a1 Hw1.out
  have HQ0 := Lib.hid hq0
  clear hq0
  have HSpec := Lib.hid (fun  w  => (hboth  w ).1)
  have HImpl := Lib.hid (fun  w  => (hboth  w ).2)
  clear hboth
  have hne1 : (r1 != r1) = false := by simp
  -- w0, w1 := spec.EvenTimes(aCount, aPeriod)
  go_wp2_with fail
  go_at_call 39
  refine (HSpec.out  _ ).mono ?_
  rintro e w1 ⟨zw0, rfl, hi0, hb⟩
  obtain ⟨w0_0, w0_1, rfl⟩ := IntS_open hi0.at
  have Iw0_new := Lib.hid hi0
  clear hi0
  have hX1 : Hid (Below W.heap.size W w1) := hb
  have hz1 : W.heap.size + 0 ≤ w1.heap.size ∧ W.heap.size + 0 ≤ w1.heap.size := by have h1 := hb.size; (try simp at h1); omega
  have HB1 : Hid (Below W.heap.size W w1) := hX1
  clear hb
  have Iw0_1 := Iw0_new
  clear Iw0_new
  -- g0, g1 := impl.EvenTimes(aCount, aPeriod)
  go_wp2_with fail
  go_at_call 38
  refine (HImpl.out  _ ).mono ?_
  rintro e w2 ⟨zg0, rfl, hi0, hb⟩
  obtain ⟨g0_0, g0_1, rfl⟩ := IntS_open hi0.at
  have Ig0_new := Lib.hid hi0
  clear hi0
  have hX2 : Hid (Below w1.heap.size w1 w2) := hb
  have hz2 : W.heap.size + 0 ≤ w2.heap.size ∧ w1.heap.size + 0 ≤ w2.heap.size := by have h1 := hb.size; (try simp at h1); omega
  have HB2 : Hid (Below W.heap.size W w2) := HB1.out.trans (hX2.out.mono (by omega))
  have Iw0_2 := Lib.hid (Iw0_1.out.later hX2.out)
  clear Iw0_1
  clear hb
  have Ig0_2 := Ig0_new
  clear Ig0_new
  -- if !eqIntS(g0, w0) || g1 != w1 {
  go_wp2_with fail
  go_at_call 48
  refine (eqIntS_x _ _ r0 _ ((Ig0_2.out).at) ((Iw0_2.out).at) HQ0.out).mono ?_
  rintro e w3 ⟨rfl, hb⟩
  have hX3 : Hid (Below w2.heap.size w2 w3) := hb
  have hz3 : W.heap.size + 0 ≤ w3.heap.size ∧ w2.heap.size + 0 ≤ w3.heap.size := by have h1 := hb.size; (try simp at h1); omega
  have HB3 : Hid (Below W.heap.size W w3) := HB2.out.trans (hX3.out.mono (by omega))
  have Iw0_3 := Lib.hid (Iw0_2.out.later hX3.out)
  clear Iw0_2
  have Ig0_3 := Lib.hid (Ig0_2.out.later hX3.out)
  clear Ig0_2
  clear hb
  -- m = markIntS(g0, m)
  go_wp2_with fail
  have hsq0 := HQ0.out
  try unfold IntsSmall at hsq0
  go_at_call 51
  refine (markIntS_x _ r0 _ _ _ _ Ig0_3.out (by omega) HQ0.out (by omega) (by omega)).mono ?_
  rintro e w4 ⟨rfl, hmk, hgr, ho⟩
  have M0_new := Lib.hid hmk
  clear hmk hgr
  have hX4 : Hid (Out (_) (_) w3 w4) := ho
  have hz4 : W.heap.size + 0 ≤ w4.heap.size ∧ w3.heap.size ≤ w4.heap.size := ⟨by have := hX4.out.below.size; omega, hX4.out.below.size⟩
  have HB4 : Hid (Below W.heap.size W w4) := HB3.out.trans (hX4.out.below.mono (by omega))
  have Iw0_4 := Lib.hid (Iw0_3.out.out hX4.out (by omega))
  clear Iw0_3
  clear Ig0_3
  clear ho
  have M0_4 := M0_new
  clear M0_new
  -- q = heldIntS(g0, q)
  go_wp2_with fail
  go_at_call 52
  refine (heldIntS_x _ r0 _ _ (M0_4.out) HQ0.out (by omega) (by omega)).mono ?_
  rintro e w5 ⟨rfl, hb⟩
  have hX5 : Hid (Below w4.heap.size w4 w5) := hb
  have hz5 : W.heap.size + 0 ≤ w5.heap.size ∧ w4.heap.size + 0 ≤ w5.heap.size := by have h1 := hb.size; (try simp at h1); omega
  have HB5 : Hid (Below W.heap.size W w5) := HB4.out.trans (hX5.out.mono (by omega))
  have Iw0_5 := Lib.hid (Iw0_4.out.later hX5.out)
  clear Iw0_4
  have M0_5 := Lib.hid (M0_4.out.later hX5.out)
  clear M0_4
  clear hb
  have hqq : ((1 : Int) + (r0.length : Int) != 1 + (r0.length : Int)) = false := by simp
  -- h0, h1 := impl.EvenTimes(aCount, aPeriod)
  go_wp2_with fail
  go_at_call 38
  refine (HImpl.out  _ ).mono ?_
  rintro e w6 ⟨zh0, rfl, hi0, hb⟩
  obtain ⟨h0_0, h0_1, rfl⟩ := IntS_open hi0.at
  have Ih0_new := Lib.hid hi0
  clear hi0
  have hX6 : Hid (Below w5.heap.size w5 w6) := hb
  have hz6 : W.heap.size + 0 ≤ w6.heap.size ∧ w5.heap.size + 0 ≤ w6.heap.size := by have h1 := hb.size; (try simp at h1); omega
  have HB6 : Hid (Below W.heap.size W w6) := HB5.out.trans (hX6.out.mono (by omega))
  have Iw0_6 := Lib.hid (Iw0_5.out.later hX6.out)
  clear Iw0_5
  have M0_6 := Lib.hid (M0_5.out.later hX6.out)
  clear M0_5
  clear hb
  have Ih0_6 := Ih0_new
  clear Ih0_new
  -- if !eqIntS(h0, w0) || h1 != w1 {
  go_wp2_with fail
  go_at_call 48
  refine (eqIntS_x _ _ r0 _ ((Ih0_6.out).at) ((Iw0_6.out).at) HQ0.out).mono ?_
  rintro e w7 ⟨rfl, hb⟩
  have hX7 : Hid (Below w6.heap.size w6 w7) := hb
  have hz7 : W.heap.size + 0 ≤ w7.heap.size ∧ w6.heap.size + 0 ≤ w7.heap.size := by have h1 := hb.size; (try simp at h1); omega
  have HB7 : Hid (Below W.heap.size W w7) := HB6.out.trans (hX7.out.mono (by omega))
  have Iw0_7 := Lib.hid (Iw0_6.out.later hX7.out)
  clear Iw0_6
  have M0_7 := Lib.hid (M0_6.out.later hX7.out)
  clear M0_6
  have Ih0_7 := Lib.hid (Ih0_6.out.later hX7.out)
  clear Ih0_6
  clear hb
  clear Ih0_7
  -- q = heldIntS(g0, q)
  go_wp2_with fail
  go_at_call 52
  refine (heldIntS_x _ r0 _ _ (M0_7.out) HQ0.out (by omega) (by omega)).mono ?_
  rintro e w8 ⟨rfl, hb⟩
  have hX8 : Hid (Below w7.heap.size w7 w8) := hb
  have hz8 : W.heap.size + 0 ≤ w8.heap.size ∧ w7.heap.size + 0 ≤ w8.heap.size := by have h1 := hb.size; (try simp at h1); omega
  have HB8 : Hid (Below W.heap.size W w8) := HB7.out.trans (hX8.out.mono (by omega))
  have Iw0_8 := Lib.hid (Iw0_7.out.later hX8.out)
  clear Iw0_7
  have M0_8 := Lib.hid (M0_7.out.later hX8.out)
  clear M0_7
  clear hb
  have hqq : ((1 : Int) + (r0.length : Int) != 1 + (r0.length : Int)) = false := by simp
  go_wp2_with fail
  go_ret
  exact ⟨rfl, HB8.out⟩
end Go.Proofs.Ytfgkfdkdjegaiaa.fnExactEvenTimes
