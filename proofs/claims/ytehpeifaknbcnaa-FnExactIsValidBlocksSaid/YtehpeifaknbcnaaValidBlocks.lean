import Derived.Test.YtehpeifaknbcnaaValidBlocksS
namespace Go.Proofs.Ytehpeifaknbcnaa
open Go.RowKit
set_option linter.unusedVariables false
set_option linter.unusedSimpArgs false

set_option maxRecDepth 100000 in
set_option maxHeartbeats 2000000 in
theorem specBlocks_any (tv fv bv : Value) (t : TTD) (f : FleetD) (bs : List (List Int)) (w : World) (hr : TTAt w tv t) (hf : TTFits t) (hsm : TTSmall t) (hg : FleetAt w fv f) (hs : GrpsSmall f.dead) (hb : GrpsAt w bv bs) (hbs : GrpsSmall bs) :
    Calls Try.prog 25 #[tv, fv, bv] w fun e w' => e = .returned (.bool (askedB t f && blksB t f bs)) ∧ Below w.heap.size w w' := by
  have HF := Lib.hid (fun W (h : Below w.heap.size w W) => l11Asked_any tv fv t f W (hr.below rfl h) hf (hg.below rfl h) hs)
  have HK := Lib.hid (fun W (h : Below w.heap.size w W) hA => l11Blocks_any tv fv bv t f bs W (hr.below rfl h) hsm (hg.below rfl h) hA (hb.below rfl h) hbs)
  obtain ⟨c0, d0, c1, d1, c2, d2, rfl, -, -⟩ := tt_open hr
  obtain ⟨fa, fc, rfl, -⟩ := fleet_open hg
  obtain ⟨ba, bc, rfl⟩ := IntSS_open hb
  clear hr hg hf hs hsm hb hbs
  cases hA : askedB t f
  all_goals
    rw [hA] at HF
    try have HA := Lib.hid (askedB_iff.1 hA)
    clear hA
    go_enter Try.func25, Try.ntmps25
    go_wp2_with fail
    go_at_call 58
    refine (HF.out _ (((Below.refl _ _).alloc (Nat.le_refl _) _).alloc (by simp) _)).mono ?_
    rintro e w1 ⟨rfl, hb1⟩
    have HB1 : Hid (Below w.heap.size w w1) := (((Below.refl _ _).alloc (Nat.le_refl _) _).alloc (by simp) _).trans (hb1.mono (by simp; omega))
    have p0 : w1.cell? ⟨w.heap.size, 0, none⟩ = some (.slice c0 t.net.stops.length d0) := bkeep hb1 (by go_simp)
    have p1 : w1.cell? ⟨w.heap.size, 1, none⟩ = some (.slice c1 t.net.lines.length d1) := bkeep hb1 (by go_simp)
    have p2 : w1.cell? ⟨w.heap.size, 2, none⟩ = some (.slice c2 t.trips.length d2) := bkeep hb1 (by go_simp)
    have q0 : w1.cell? ⟨w.heap.size + 1, 0, none⟩ = some (.slice fa f.dead.length fc) := bkeep hb1 (by go_simp)
    have q1 : w1.cell? ⟨w.heap.size + 1, 1, none⟩ = some (.int .i64 f.turn) := bkeep hb1 (by go_simp)
    clear hb1
    go_wp2_with fail
  · go_ret
    exact ⟨rfl, HB1.out⟩
  · go_at_call 66
    refine (HK.out _ HB1.out HA.out).mono ?_
    rintro e w2 ⟨rfl, hb2⟩
    go_wp2_with fail
    go_ret
    exact ⟨by simp, HB1.out.trans (hb2.mono HB1.out.size)⟩

theorem bothIsValidBlocks (t : TTD) (hf : TTFits t) (hs : TTSmall t) (f : FleetD) (_hf2 : FleetFits f) (hs2 : FleetSmall f) (bs : List (List Int)) (_hf3 : GrpsFit bs) (hs3 : GrpsSmall bs) : ∃ (r0 : Bool), ∀ v v' v'' w, TTAt w v t → FleetAt w v' f → GrpsAt w v'' bs →
    Calls Try.prog 25 #[v, v', v''] w (fun e w' => e = .returned (.bool r0) ∧ Below w.heap.size w w') ∧ Calls Try.prog 27 #[v, v', v''] w (fun e w' => e = .returned (.bool r0) ∧ Below w.heap.size w w') :=
  ⟨_, fun v v' v'' w h h' h'' => ⟨specBlocks_any v v' v'' t f bs w h hf hs h' hs2 h'' hs3, implBlocks_any v v' v'' t f bs w h hf h' hs2 h'' hs3⟩⟩
end Go.Proofs.Ytehpeifaknbcnaa
