/-
  THE WALK of laws.FnExactRunTime: for every network and every further argument the law returns true and nothing that was in memory turns.
-/
import Derived.Test.YticmghmidnboaaaRunTime
namespace Go.Proofs.Yticmghmidnboaaa.fnExactRunTime
open Go.RowKit
set_option linter.unusedVariables false

set_option maxRecDepth 100000 in
set_option maxHeartbeats 2000000 in
theorem walk (v0 : Value) (a1 : Int) (a2 : Int) (a3 : Int) (W : World) (S0 : ∃ n, NetAt W v0 n ∧ NetFits n) (w1 : (Lit.int .i64 a1).wf = true) (w2 : (Lit.int .i64 a2).wf = true) (w3 : (Lit.int .i64 a3).wf = true) (hL : laidMetH Try.prog Rows.fnExactRunTimeRow.laid W) (hsh : W.ShapedOpen Try.prog) :
    Calls Try.prog 11 #[v0, .int .i64 a1, .int .i64 a2, .int .i64 a3] W fun e w' => e = .returned (.bool true) ∧ Below W.heap.size W w' := by
  obtain ⟨n, hr, hf⟩ := S0
  clear hL hsh
  have HSz := Lib.hid (fun w (h : Below W.heap.size W w) => szNetwork_any v0 n w (hr.below rfl h) hf)
  have HTo := Lib.hid (fun (hs : NetSmall n) w (h : Below W.heap.size W w) => toNetwork_any v0 n w (hr.below rfl h) hs.1 hs.2.1 (fun l hl => (hs.2.2 l hl).2))
  have HBoth := Lib.hid (fun (hs : NetSmall n) => bothRunTime n hf hs a1 a2 a3 w1 w2 w3)
  obtain ⟨sv, lv, rfl, hss, hll⟩ := hr
  obtain ⟨a, c, rfl, hc, hm, _⟩ := strs_open hss
  obtain ⟨a', c', rfl, hc', hm', _⟩ := lines_open hll
  clear hss hll hf
  go_enter Try.func11, Try.ntmps11
  go_wp2_with fail
  go_at_call 44
  refine (HSz.out _ ((Below.refl _ _).alloc (Nat.le_refl _) _)).mono ?_
  rintro e w1 ⟨⟨z, rfl, hz⟩, hb1⟩
  have HB1 : Hid (Below W.heap.size W w1) := ((Below.refl _ _).alloc (Nat.le_refl _) _).trans (hb1.mono (by simp))
  have p0 : w1.cell? ⟨W.heap.size, 0, none⟩ = some (.slice a n.stops.length c) := bkeep hb1 (by go_simp)
  have p1 : w1.cell? ⟨W.heap.size, 1, none⟩ = some (.slice a' n.lines.length c') := bkeep hb1 (by go_simp)
  clear hb1
  rcases hz with rfl | ⟨hz0, hsm⟩
  · go_wp2_with fail
    go_ret
    exact ⟨rfl, HB1.out⟩
  have HSm := Lib.hid hsm
  obtain ⟨r, b, hboth⟩ := HBoth.out hsm
  have HSpec := Lib.hid (fun v w (h : NetAt w v n) => (hboth v w h).1)
  have HImpl := Lib.hid (fun v w (h : NetAt w v n) => (hboth v w h).2)
  have HT := Lib.hid (HTo.out hsm)
  clear hsm hboth HTo HBoth HSz
  have hbb : (b != b) = false := by simp
  have hrr : (r != r) = false := by simp
  go_wp2_with fail
  go_at_call 45
  refine (HT.out _ HB1.out).mono ?_
  rintro e w2 ⟨a1, c1, a1', c1', rfl, hown, hb2⟩
  have HB2 : Hid (Below W.heap.size W w2) := HB1.out.trans (hb2.mono HB1.out.size)
  have HN2 := Lib.hid hown.at
  have q0 := bkeep hb2 p0
  have q1 := bkeep hb2 p1
  clear p0 p1 hb2 hown HB1
  go_wp2_with fail
  go_at_call 55
  refine (HSpec.out _ _ HN2.out).mono ?_
  rintro e w3 ⟨rfl, hb3⟩
  have HB3 : Hid (Below W.heap.size W w3) := HB2.out.trans (hb3.mono HB2.out.size)
  have p0 := bkeep hb3 q0
  have p1 := bkeep hb3 q1
  clear q0 q1 hb3 HN2 HB2
  go_wp2_with fail
  go_at_call 45
  refine (HT.out _ HB3.out).mono ?_
  rintro e w4 ⟨a2, c2, a2', c2', rfl, hown, hb4⟩
  have HB4 : Hid (Below W.heap.size W w4) := HB3.out.trans (hb4.mono HB3.out.size)
  have HN4 := Lib.hid hown.at
  have q0 := bkeep hb4 p0
  have q1 := bkeep hb4 p1
  have hz4 : W.heap.size < w4.heap.size := World.block_lt_of_cell? w4 _ q0
  clear p0 p1 hb4 hown HB3
  go_wp2_with fail
  go_at_call 31
  refine (HImpl.out _ _ (HN4.out.below rfl ((Below.refl _ _).alloc (Nat.le_refl _) _))).mono ?_
  rintro e w5 ⟨rfl, hb5⟩
  have HB5 : Hid (Below W.heap.size W w5) := (HB4.out.alloc (by omega) _).trans (hb5.mono (by simp; omega))
  have HN5 := Lib.hid (HN4.out.below rfl (((Below.refl _ _).alloc (Nat.le_refl _) _).trans (hb5.mono (by simp))))
  have p0 := bkeep hb5 (acell q0 _)
  have p1 := bkeep hb5 (acell q1 _)
  have x0 : w5.cell? ⟨w4.heap.size, 0, none⟩ = some (.slice a2 n.stops.length c2) := bkeep hb5 (by go_simp)
  have x1 : w5.cell? ⟨w4.heap.size, 1, none⟩ = some (.slice a2' n.lines.length c2') := bkeep hb5 (by go_simp)
  clear q0 q1 hb5 HN4 HB4
  go_wp2_with fail
  go_region_held3 (fun w' => w'.cell? ⟨W.heap.size, 0, none⟩ = some (.slice a n.stops.length c) ∧ w'.cell? ⟨W.heap.size, 1, none⟩ = some (.slice a' n.lines.length c') ∧ w'.cell? ⟨w4.heap.size, 0, none⟩ = some (.slice a2 n.stops.length c2) ∧ w'.cell? ⟨w4.heap.size, 1, none⟩ = some (.slice a2' n.lines.length c2') ∧ Below w5.heap.size w5 w')
    (first | (exact ⟨p0, p1, x0, x1, (Below.refl _ _).drew⟩) | (exact keepX hb (by assumption)))
    (first | (go_at_call 45; refine (HT.out _ (HB5.out.trans ((belX (by assumption)).mono HB5.out.size))).mono ?_; rintro e w' ⟨a3, c3, a3', c3', rfl, hown, hb⟩) | (go_at_call 46; refine (eqNetwork_same _ _ n _ (HN5.out.below rfl (belX (by assumption))) hown.at HSm.out.1).mono ?_; rintro e w' ⟨rfl, hb⟩))
  obtain ⟨_, _, _, _, qb⟩ := (by assumption : _ ∧ _)
  clear p0 p1 x0 x1
  go_wp2_with fail
  go_ret
  exact ⟨rfl, HB5.out.trans (qb.mono HB5.out.size)⟩
end Go.Proofs.Yticmghmidnboaaa.fnExactRunTime
