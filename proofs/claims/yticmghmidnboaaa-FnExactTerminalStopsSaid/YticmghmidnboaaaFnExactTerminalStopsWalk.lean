/-
  THE WALK of laws.FnExactTerminalStops: for every network the law returns true and nothing that was in memory turns.
-/
import Derived.Test.YticmghmidnboaaaImplTerminal
import Derived.Test.YticmghmidnboaaaMarkLines
namespace Go.Proofs.Yticmghmidnboaaa.fnExactTerminalStops
open Go.RowKit
set_option linter.unusedVariables false

set_option maxRecDepth 100000 in
set_option maxHeartbeats 4000000 in
theorem walk (v0 : Value)  (W : World) (S0 : ∃ n, NetAt W v0 n ∧ NetFits n)  (hL : laidMetH Try.prog Rows.fnExactTerminalStopsRow.laid W) (hsh : W.ShapedOpen Try.prog) :
    Calls Try.prog 15 #[v0] W fun e w' => e = .returned (.bool true) ∧ Below W.heap.size W w' := by
  obtain ⟨n, hr, hf⟩ := S0
  clear hL hsh
  have HSz := Lib.hid (fun w (h : Below W.heap.size W w) => szNetwork_any v0 n w (hr.below rfl h) hf)
  have HTo := Lib.hid (fun (hs : NetSmall n) w (h : Below W.heap.size W w) => toNetwork_any v0 n w (hr.below rfl h) hs.1 hs.2.1 (fun l hl => (hs.2.2.1 l hl).2))
  have HBoth := Lib.hid (fun (hs : NetSmall n) => bothTerminalStops n hf hs  )
  obtain ⟨sv, lv, rfl, hss, hll⟩ := hr
  obtain ⟨a, c, rfl, hc, hm, _⟩ := strs_open hss
  obtain ⟨a', c', rfl, hc', hm', _⟩ := lines_open hll
  clear hss hll hf
  go_enter Try.func15, Try.ntmps15
  go_wp2_with fail
  go_at_call 44
  refine (HSz.out _ ((Below.refl _ _).alloc (Nat.le_refl _) _)).mono ?_
  rintro e w1 ⟨⟨z, rfl, hz⟩, hb1⟩
  have HB1 : Hid (Below W.heap.size W w1) := ((Below.refl _ _).alloc (Nat.le_refl _) _).trans (hb1.mono (by simp))
  have p0 : w1.cell? ⟨W.heap.size, 0, none⟩ = some (.slice a n.stops.length c) := bkeep hb1 (by go_simp)
  have p1 : w1.cell? ⟨W.heap.size, 1, none⟩ = some (.slice a' n.lines.length c') := bkeep hb1 (by go_simp)
  clear hb1
  rcases hz with rfl | ⟨hz0, hsm⟩
  · go_wp2_with fail
    go_ret
    exact ⟨rfl, HB1.out⟩
  have HSm := Lib.hid hsm
  obtain ⟨res, b, hres, hboth⟩ := HBoth.out hsm
  have HSpec := Lib.hid (fun v w (h : NetAt w v n) => (hboth v w h).1)
  have HImpl := Lib.hid (fun v w (h : NetAt w v n) => (hboth v w h).2)
  have HT := Lib.hid (HTo.out hsm)
  have HRes := Lib.hid hres
  clear hsm hboth HTo HBoth HSz hres
  have hbb : (b != b) = false := by simp
  -- the model's answer
  go_wp2_with fail
  go_at_call 45
  refine (HT.out _ HB1.out).mono ?_
  rintro e w2 ⟨a1, c1, a1', c1', rfl, hown, hb2⟩
  have HB2 : Hid (Below W.heap.size W w2) := HB1.out.trans (hb2.mono HB1.out.size)
  have HN2 := Lib.hid hown.at
  have q0 := bkeep hb2 p0
  have q1 := bkeep hb2 p1
  clear p0 p1 hb2 hown HB1
  go_wp2_with fail
  go_at_call 58
  refine (HSpec.out _ _ HN2.out).mono ?_
  rintro e w3 ⟨vs, rfl, ho3, hb3⟩
  obtain ⟨asl, csl, rfl⟩ := own_shape ho3
  have HB3 : Hid (Below W.heap.size W w3) := HB2.out.trans (hb3.mono HB2.out.size)
  have HVs3 := Lib.hid (rowAt_own ho3)
  have HVsB : Hid (∀ g, (Value.slice asl res.length csl).ownBlock = some g → g < w3.heap.size) := fun g hg => (ho3.lt g hg).2
  have p0 := bkeep hb3 q0
  have hzW3 : W.heap.size < w3.heap.size := World.block_lt_of_cell? w3 _ p0
  have p1 := bkeep hb3 q1
  clear q0 q1 hb3 HN2 HB2 ho3
  -- the program's copy and answer
  go_wp2_with fail
  go_at_call 45
  refine (HT.out _ HB3.out).mono ?_
  rintro e w4 ⟨a2, c2, a2', c2', rfl, hown, hb4⟩
  have HB4 : Hid (Below W.heap.size W w4) := HB3.out.trans (hb4.mono HB3.out.size)
  have HN4 := Lib.hid hown.at
  have HX4 := Lib.hid (hown.shape (Nat.le_refl _))
  have HVs4 := Lib.hid (HVs3.out.below rfl hb4)
  have hz34 : w3.heap.size ≤ w4.heap.size := hb4.size
  have q0 := bkeep hb4 p0
  have q1 := bkeep hb4 p1
  have hz4 : W.heap.size < w4.heap.size := World.block_lt_of_cell? w4 _ q0
  clear p0 p1 hb4 hown HB3 HVs3
  go_wp2_with fail
  go_at_call 59
  refine (HImpl.out _ _ (HN4.out.below rfl ((Below.refl _ _).alloc (Nat.le_refl _) _))).mono ?_
  rintro e w5 ⟨vg, rfl, ho5, hb5⟩
  obtain ⟨ag, cg, rfl⟩ := own_shape ho5
  have HBx : Hid (Below w4.heap.size w4 w5) := ((Below.refl _ _).alloc (Nat.le_refl _) _).trans (hb5.mono (by simp))
  have HB5 : Hid (Below W.heap.size W w5) := HB4.out.trans (HBx.out.mono (by omega))
  have HVg5 := Lib.hid (own_base ho5 (show w4.heap.size ≤ _ by simp))
  have HVs5 := Lib.hid (HVs4.out.below rfl HBx.out)
  have HX5 := Lib.hid (HX4.out.later HBx.out)
  have HN5 := Lib.hid (HN4.out.below rfl HBx.out)
  have p0 := bkeep hb5 (acell q0 _)
  have p1 := bkeep hb5 (acell q1 _)
  have x0 : w5.cell? ⟨w4.heap.size, 0, none⟩ = some (.slice a2 n.stops.length c2) := bkeep hb5 (by go_simp)
  have x1 : w5.cell? ⟨w4.heap.size, 1, none⟩ = some (.slice a2' n.lines.length c2') := bkeep hb5 (by go_simp)
  have hz5 : w4.heap.size ≤ w5.heap.size := HBx.out.size
  clear q0 q1 hb5 HN4 HB4 HX4 HVs4 ho5 HBx
  go_wp2_with fail
  go_at_call 51
  refine (eqIntS_same _ _ res _ (rowAt_own HVg5.out) HVs5.out).mono ?_
  rintro e w6 ⟨rfl, hb6⟩
  have HB6 : Hid (Below W.heap.size W w6) := HB5.out.trans (hb6.mono HB5.out.size)
  have HVg6 := Lib.hid (own_later HVg5.out hb6)
  have HVs6 := Lib.hid (HVs5.out.below rfl hb6)
  have HX6 := Lib.hid (HX5.out.later hb6)
  have HN6 := Lib.hid (HN5.out.below rfl hb6)
  have q0 := bkeep hb6 p0
  have q1 := bkeep hb6 p1
  have y0 := bkeep hb6 x0
  have y1 := bkeep hb6 x1
  have hz6 : w4.heap.size ≤ w6.heap.size := Nat.le_trans hz5 hb6.size
  clear p0 p1 x0 x1 hb6 HB5 HVg5 HVs5 HX5 HN5 hz5
  go_wp2_with fail
  go_region_held3 (fun w' => w'.cell? ⟨W.heap.size, 0, none⟩ = some (.slice a n.stops.length c) ∧ w'.cell? ⟨W.heap.size, 1, none⟩ = some (.slice a' n.lines.length c') ∧ w'.cell? ⟨w4.heap.size, 0, none⟩ = some (.slice a2 n.stops.length c2) ∧ w'.cell? ⟨w4.heap.size, 1, none⟩ = some (.slice a2' n.lines.length c2') ∧ Below w6.heap.size w6 w')
    (first | (exact ⟨q0, q1, y0, y1, (Below.refl _ _).drew⟩) | (exact keepX hb (by assumption)))
    (first | (go_at_call 45; refine (HT.out _ (HB6.out.trans ((belX (by assumption)).mono HB6.out.size))).mono ?_; rintro e w' ⟨a3, c3, a3', c3', rfl, hown, hb⟩) | (go_at_call 46; refine (eqNetwork_same _ _ n _ (HN6.out.below rfl (belX (by assumption))) hown.at HSm.out.1).mono ?_; rintro e w' ⟨rfl, hb⟩))
  obtain ⟨p0, p1, x0, x1, hb8⟩ := (by assumption : _ ∧ _)
  obtain ⟨w8, hw8⟩ : ∃ w8 : World, w8 = w' := ⟨_, rfl⟩
  subst hw8
  have HB8 : Hid (Below W.heap.size W w8) := HB6.out.trans (hb8.mono HB6.out.size)
  have HVg8 := Lib.hid (own_later HVg6.out hb8)
  have HVs8 := Lib.hid (HVs6.out.below rfl hb8)
  have HX8 := Lib.hid (HX6.out.later hb8)
  have hz8 : w4.heap.size ≤ w8.heap.size := Nat.le_trans hz6 hb8.size
  clear q0 q1 y0 y1 hb8 HB6 HVg6 HVs6 HX6 HN6 hz6
  -- the mark of the argument
  go_wp2_with fail
  go_at_call 52
  refine (markNetwork_own _ n w3.heap.size w4.heap.size _ HX8.out hz8 HSm.out).mono ?_
  rintro e w9 ⟨⟨r9, rfl⟩, ho9⟩
  have HVg9 := Lib.hid (own_out HVg8.out ho9 (fun g hg => .inr (HVg8.out.lt g hg).1))
  have HVs9 := Lib.hid (HVs8.out.out ho9 (fun g hg => .inl (HVsB.out g hg)))
  have HB9 : Hid (Below W.heap.size W w9) := HB8.out.trans (ho9.below.mono (by omega))
  have q0 := ho9.cell (p := ⟨W.heap.size, 0, none⟩) (.inl (by show W.heap.size < w3.heap.size; omega)) p0
  have q1 := ho9.cell (p := ⟨W.heap.size, 1, none⟩) (.inl (by show W.heap.size < w3.heap.size; omega)) p1
  have hz9 : w4.heap.size ≤ w9.heap.size := Nat.le_trans hz8 ho9.below.size
  clear p0 p1 x0 x1 ho9 HB8 HVg8 HVs8 HX8 hz8
  go_wp2_with fail
  go_at_call 51
  refine (eqIntS_same _ _ res _ (rowAt_own HVg9.out) HVs9.out).mono ?_
  rintro e w10 ⟨rfl, hb10⟩
  have HB10 : Hid (Below W.heap.size W w10) := HB9.out.trans (hb10.mono HB9.out.size)
  have HVg10 := Lib.hid (own_later HVg9.out hb10)
  have HVgz : Hid (w4.heap.size ≤ w10.heap.size) := by show _ ≤ _; have := hb10.size; have := hz9; omega
  have HVs10 := Lib.hid (HVs9.out.below rfl hb10)
  have p0 := bkeep hb10 q0
  have p1 := bkeep hb10 q1
  clear q0 q1 hb10 HB9 HVg9 HVs9
  -- the mark of the answer
  go_wp2_with fail
  go_at_call 53
  refine (markIntS_own _ res 1 w4.heap.size _ HVg10.out HRes.out (by omega) (by omega)).mono ?_
  rintro e w11 ⟨rfl, ho11, hg11⟩
  have HOut11 : Hid (Out w4.heap.size w10.heap.size w10 w11) := Out.of_grown hg11 (by have := HB10.out.size; have := HVgz.out; omega) (fun g hg => HVg10.out.lt g hg)
  have HB11 : Hid (Below W.heap.size W w11) := HB10.out.trans (HOut11.out.below.mono (by omega))
  have HVg11 := Lib.hid (rowAt_own ho11)
  have HVs11 := Lib.hid (HVs10.out.out HOut11.out (fun g hg => .inl (by have := HVsB.out g hg; omega)))
  have q0 := HOut11.out.cell (p := ⟨W.heap.size, 0, none⟩) (.inl (by show W.heap.size < w4.heap.size; omega)) p0
  have q1 := HOut11.out.cell (p := ⟨W.heap.size, 1, none⟩) (.inl (by show W.heap.size < w4.heap.size; omega)) p1
  clear p0 p1 ho11 hg11 HB10 HVg10 HVs10 HOut11
  have hrl := HRes.out
  have hqq : ((1 : Int) + (res.length : Int) != 1 + (res.length : Int)) = false := by simp
  go_wp2_with fail
  go_at_call 54
  refine (heldIntS_own _ 1 res.length _ HVg11.out HRes.out (by omega) (by omega)).mono ?_
  rintro e w ⟨rfl, rfl⟩
  -- the answer to a second call
  go_wp2_with fail
  go_at_call 45
  refine (HT.out _ HB11.out).mono ?_
  rintro e w12 ⟨a5, c5, a5', c5', rfl, hown, hb12⟩
  have HB12 : Hid (Below W.heap.size W w12) := HB11.out.trans (hb12.mono HB11.out.size)
  have HN12 := Lib.hid hown.at
  have HVg12 := Lib.hid (HVg11.out.below rfl hb12)
  have HVs12 := Lib.hid (HVs11.out.below rfl hb12)
  clear q0 q1 hb12 hown HB11 HVg11 HVs11
  go_wp2_with fail
  go_at_call 59
  refine (HImpl.out _ _ HN12.out).mono ?_
  rintro e w13 ⟨vh, rfl, ho13, hb13⟩
  obtain ⟨ah, ch, rfl⟩ := own_shape ho13
  have HB13 : Hid (Below W.heap.size W w13) := HB12.out.trans (hb13.mono HB12.out.size)
  have HVh13 := Lib.hid (rowAt_own ho13)
  have HVg13 := Lib.hid (HVg12.out.below rfl hb13)
  have HVs13 := Lib.hid (HVs12.out.below rfl hb13)
  clear hb13 ho13 HB12 HVg12 HVs12 HN12
  go_wp2_with fail
  go_at_call 51
  refine (eqIntS_same _ _ res _ HVh13.out HVs13.out).mono ?_
  rintro e w14 ⟨rfl, hb14⟩
  have HB14 : Hid (Below W.heap.size W w14) := HB13.out.trans (hb14.mono HB13.out.size)
  have HVg14 := Lib.hid (HVg13.out.below rfl hb14)
  clear hb14 HB13 HVg13 HVs13 HVh13
  go_wp2_with fail
  go_at_call 54
  refine (heldIntS_own _ 1 res.length _ HVg14.out HRes.out (by omega) (by omega)).mono ?_
  rintro e w ⟨rfl, rfl⟩
  go_wp2_with fail
  go_ret
  exact ⟨rfl, HB14.out⟩
end Go.Proofs.Yticmghmidnboaaa.fnExactTerminalStops
