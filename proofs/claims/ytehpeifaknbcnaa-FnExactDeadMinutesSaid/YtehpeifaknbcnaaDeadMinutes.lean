import Derived.Test.YtehpeifaknbcnaaDeadOf
import Derived.Test.YtehpeifaknbcnaaValidBlocksS
namespace Go.Proofs.Ytehpeifaknbcnaa
open Go.RowKit
set_option linter.unusedVariables false
set_option linter.unusedSimpArgs false

noncomputable def dmOk (t : TTD) (f : FleetD) (bs : List (List Int)) : Bool := askedB t f && blksB t f bs
noncomputable def dmA (t : TTD) (f : FleetD) (bs : List (List Int)) : Int := if dmOk t f bs = true then deadAll t f bs else 0
theorem blksB_iff {t : TTD} {f : FleetD} {bs : List (List Int)} : blksB t f bs = true ↔ BlksGood t f bs := by unfold blksB; simp

set_option maxRecDepth 100000 in
set_option maxHeartbeats 2000000 in
theorem implDead_any (tv fv bv : Value) (t : TTD) (f : FleetD) (bs : List (List Int)) (w : World) (hr : TTAt w tv t) (hf : TTFits t) (hg : FleetAt w fv f) (hs : GrpsSmall f.dead) (hb : GrpsAt w bv bs) (hbs : GrpsSmall bs) :
    Calls Try.prog 32 #[tv, fv, bv] w fun e w' => e = .returned (.tuple #[.int .i64 (dmA t f bs), .bool (dmOk t f bs)]) ∧ Below w.heap.size w w' := by
  have HV := Lib.hid (fun W (h : Below w.heap.size w W) => implBlocks_any tv fv bv t f bs W (hr.below rfl h) hf (hg.below rfl h) hs (hb.below rfl h) hbs)
  have HD : Hid ((askedB t f && blksB t f bs) = true → ∀ W (h : Below w.heap.size w W), Calls Try.prog 78 #[tv, fv, bv] W fun e w' => e = .returned (.int .i64 (deadAll t f bs)) ∧ Below W.heap.size W w') := fun h1 W h => by
    have h2 := Bool.and_eq_true_iff.1 h1
    have hA := askedB_iff.1 h2.1
    have hB := blksB_iff.1 h2.2
    exact deadOf_any tv fv bv t f bs W (hr.below rfl h) (hg.below rfl h) hA (hb.below rfl h) hbs hB.fnd
  obtain ⟨c0, d0, c1, d1, c2, d2, rfl, -, -⟩ := tt_open hr
  obtain ⟨fa, fc, rfl, -⟩ := fleet_open hg
  obtain ⟨ba, bc, rfl⟩ := IntSS_open hb
  clear hr hg hf hs hb hbs
  unfold dmA dmOk
  generalize (askedB t f && blksB t f bs) = b1 at *
  generalize deadAll t f bs = D at *
  cases b1
  all_goals
    simp only [Bool.false_eq_true, if_false, if_true]
    try have HDD := Lib.hid (HD.out rfl)
    go_enter Try.func32, Try.ntmps32
    go_wp2_with fail
    go_at_call 27
    refine (HV.out _ (((Below.refl _ _).alloc (Nat.le_refl _) _).alloc (by simp) _)).mono ?_
    rintro e w1 ⟨rfl, hb1⟩
    have HB1 : Hid (Below w.heap.size w w1) := (((Below.refl _ _).alloc (Nat.le_refl _) _).alloc (by simp) _).trans (hb1.mono (by simp; omega))
    have p0 : w1.cell? ⟨w.heap.size, 0, none⟩ = some (.slice c0 t.net.stops.length d0) := bkeep hb1 (by go_simp)
    have p1 : w1.cell? ⟨w.heap.size, 1, none⟩ = some (.slice c1 t.net.lines.length d1) := bkeep hb1 (by go_simp)
    have p2 : w1.cell? ⟨w.heap.size, 2, none⟩ = some (.slice c2 t.trips.length d2) := bkeep hb1 (by go_simp)
    have q0 : w1.cell? ⟨w.heap.size + 1, 0, none⟩ = some (.slice fa f.dead.length fc) := bkeep hb1 (by go_simp)
    have q1 : w1.cell? ⟨w.heap.size + 1, 1, none⟩ = some (.int .i64 f.turn) := bkeep hb1 (by go_simp)
    clear hb1
    go_wp2_with fail
  · go_ret2
    exact ⟨rfl, HB1.out⟩
  · go_at_call 78
    refine (HDD.out _ HB1.out).mono ?_
    rintro e w2 ⟨rfl, hb2⟩
    go_wp2_with fail
    go_ret2
    exact ⟨rfl, HB1.out.trans (hb2.mono HB1.out.size)⟩

set_option maxRecDepth 100000 in
set_option maxHeartbeats 4000000 in
theorem specDead_any (tv fv bv : Value) (t : TTD) (f : FleetD) (bs : List (List Int)) (w : World) (hr : TTAt w tv t) (hf : TTFits t) (hsm : TTSmall t) (hg : FleetAt w fv f) (hs : GrpsSmall f.dead) (hb : GrpsAt w bv bs) (hbs : GrpsSmall bs) :
    Calls Try.prog 31 #[tv, fv, bv] w fun e w' => e = .returned (.tuple #[.int .i64 (dmA t f bs), .bool (dmOk t f bs)]) ∧ Below w.heap.size w w' := by
  have HF := Lib.hid (fun W (h : Below w.heap.size w W) => l11Asked_any tv fv t f W (hr.below rfl h) hf (hg.below rfl h) hs)
  have HK := Lib.hid (fun W (h : Below w.heap.size w W) hA => l11Blocks_any tv fv bv t f bs W (hr.below rfl h) hsm (hg.below rfl h) hA (hb.below rfl h) hbs)
  have HD : Hid (askedB t f = true → blksB t f bs = true → ∀ W (h : Below w.heap.size w W), Calls Try.prog 77 #[tv, fv, bv] W fun e w' => e = .returned (.int .i64 (deadAll t f bs)) ∧ Below W.heap.size W w') := fun h1 h2 W h =>
    l11Sum_any tv fv bv t f bs W (hr.below rfl h) hsm (hg.below rfl h) (askedB_iff.1 h1) (hb.below rfl h) hbs (blksB_iff.1 h2).fnd
  obtain ⟨c0, d0, c1, d1, c2, d2, rfl, -, -⟩ := tt_open hr
  obtain ⟨fa, fc, rfl, -⟩ := fleet_open hg
  obtain ⟨ba, bc, rfl⟩ := IntSS_open hb
  clear hr hg hf hs hsm hb hbs
  unfold dmA dmOk
  have HAs : Hid (∀ b, askedB t f = b → b = true → AskedGood t f) := fun b h h2 => askedB_iff.1 (h.trans h2)
  generalize hb1e : askedB t f = b1 at *
  have HAs2 : Hid (b1 = true → AskedGood t f) := fun h => askedB_iff.1 (hb1e.trans h)
  clear hb1e HAs
  generalize blksB t f bs = b2 at *
  generalize deadAll t f bs = D at *
  have hways : b1 = false ∨ (b1 = true ∧ b2 = false) ∨ (b1 = true ∧ b2 = true) := by
    cases b1 <;> cases b2 <;> simp
  rcases hways with rfl | ⟨rfl, rfl⟩ | ⟨rfl, rfl⟩
  all_goals
    try have HAg := Lib.hid (HAs2.out rfl)
    try have HDD := Lib.hid (HD.out rfl rfl)
    simp only [Bool.false_and, Bool.true_and, Bool.false_eq_true, if_false, if_true]
    go_enter Try.func31, Try.ntmps31
    go_wp2_with fail
    go_at_call 58
    refine (HF.out _ (((Below.refl _ _).alloc (Nat.le_refl _) _).alloc (by simp) _)).mono ?_
    rintro e w1 ⟨rfl, hb1⟩
    have HB1 : Hid (Below w.heap.size w w1) := (((Below.refl _ _).alloc (Nat.le_refl _) _).alloc (by simp) _).trans (hb1.mono (by simp; omega))
    have p0 : w1.cell? ⟨w.heap.size, 0, none⟩ = some (.slice c0 t.net.stops.length d0) := bkeep hb1 (by go_simp)
    have p1 : w1.cell? ⟨w.heap.size, 1, none⟩ = some (.slice c1 t.net.lines.length d1) := bkeep hb1 (by go_simp)
    have p2 : w1.cell? ⟨w.heap.size, 2, none⟩ = some (.slice c2 t.trips.length d2) := bkeep hb1 (by go_simp)
    have q0 : w1.cell? ⟨w.heap.size + 1, 0, none⟩ = some (.slice fa f.dead.length fc) := bkeep hb1 (by go_simp)
    have q1 : w1.cell? ⟨w.heap.size + 1, 1, none⟩ = some (.int .i64 f.turn) := bkeep hb1 (by go_simp)
    clear hb1
    go_wp2_with fail
  · go_ret2
    exact ⟨rfl, HB1.out⟩
  all_goals
    go_at_call 66
    refine (HK.out _ HB1.out HAg.out).mono ?_
    rintro e w2 ⟨rfl, hb2⟩
    have HB2 : Hid (Below w.heap.size w w2) := HB1.out.trans (hb2.mono HB1.out.size)
    have p0 := bkeep hb2 p0
    have p1 := bkeep hb2 p1
    have p2 := bkeep hb2 p2
    have q0 := bkeep hb2 q0
    have q1 := bkeep hb2 q1
    clear hb2 HB1
    go_wp2_with fail
  · go_ret2
    exact ⟨rfl, HB2.out⟩
  · go_at_call 77
    refine (HDD.out _ HB2.out).mono ?_
    rintro e w3 ⟨rfl, hb3⟩
    go_wp2_with fail
    go_ret2
    exact ⟨rfl, HB2.out.trans (hb3.mono HB2.out.size)⟩

theorem bothDeadMinutes (t : TTD) (hf : TTFits t) (hs : TTSmall t) (f : FleetD) (_hf2 : FleetFits f) (hs2 : FleetSmall f) (bs : List (List Int)) (_hf3 : GrpsFit bs) (hs3 : GrpsSmall bs) : ∃ (r0 : Int) (r1 : Bool), ∀ v v' v'' w, TTAt w v t → FleetAt w v' f → GrpsAt w v'' bs →
    Calls Try.prog 31 #[v, v', v''] w (fun e w' => e = .returned (.tuple #[.int .i64 r0, .bool r1]) ∧ Below w.heap.size w w') ∧ Calls Try.prog 32 #[v, v', v''] w (fun e w' => e = .returned (.tuple #[.int .i64 r0, .bool r1]) ∧ Below w.heap.size w w') :=
  ⟨_, _, fun v v' v'' w h h' h'' => ⟨specDead_any v v' v'' t f bs w h hf hs h' hs2 h'' hs3, implDead_any v v' v'' t f bs w h hf h' hs2 h'' hs3⟩⟩
end Go.Proofs.Ytehpeifaknbcnaa
