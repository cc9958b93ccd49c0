import Derived.Test.YtehpeifaknbcnaaSwapS
import Derived.Test.YtehpeifaknbcnaaTTX
import Derived.Test.YtehpeifaknbcnaaMk09
namespace Go.Proofs.Ytehpeifaknbcnaa.fnExactSwapTails
open Go.RowKit
set_option linter.unusedVariables false
set_option linter.unusedSimpArgs false

theorem keep4 {W w w' : World} {p0 p1 p2 p3 : Addr} {x0 x1 x2 x3 : Value} (hb : Below w.heap.size w w') (h : w.cell? p0 = some x0 ∧ w.cell? p1 = some x1 ∧ w.cell? p2 = some x2 ∧ w.cell? p3 = some x3 ∧ Below W.heap.size W w) : w'.cell? p0 = some x0 ∧ w'.cell? p1 = some x1 ∧ w'.cell? p2 = some x2 ∧ w'.cell? p3 = some x3 ∧ Below W.heap.size W w' := by
  obtain ⟨h0, h1, h2, h3, hl⟩ := h
  exact ⟨bkeep hb h0, bkeep hb h1, bkeep hb h2, bkeep hb h3, hl.trans (hb.mono hl.size)⟩
theorem bel4 {W w : World} {p0 p1 p2 p3 : Addr} {x0 x1 x2 x3 : Value} (h : w.cell? p0 = some x0 ∧ w.cell? p1 = some x1 ∧ w.cell? p2 = some x2 ∧ w.cell? p3 = some x3 ∧ Below W.heap.size W w) : Below W.heap.size W w := h.2.2.2.2

theorem keep5 {W w w' : World} {p0 p1 p2 p3 p4 : Addr} {x0 x1 x2 x3 x4 : Value} (hb : Below w.heap.size w w') (h : w.cell? p0 = some x0 ∧ w.cell? p1 = some x1 ∧ w.cell? p2 = some x2 ∧ w.cell? p3 = some x3 ∧ w.cell? p4 = some x4 ∧ Below W.heap.size W w) : w'.cell? p0 = some x0 ∧ w'.cell? p1 = some x1 ∧ w'.cell? p2 = some x2 ∧ w'.cell? p3 = some x3 ∧ w'.cell? p4 = some x4 ∧ Below W.heap.size W w' := by
  obtain ⟨h0, h1, h2, h3, h4, hl⟩ := h
  exact ⟨bkeep hb h0, bkeep hb h1, bkeep hb h2, bkeep hb h3, bkeep hb h4, hl.trans (hb.mono hl.size)⟩
theorem bel5 {W w : World} {p0 p1 p2 p3 p4 : Addr} {x0 x1 x2 x3 x4 : Value} (h : w.cell? p0 = some x0 ∧ w.cell? p1 = some x1 ∧ w.cell? p2 = some x2 ∧ w.cell? p3 = some x3 ∧ w.cell? p4 = some x4 ∧ Below W.heap.size W w) : Below W.heap.size W w := h.2.2.2.2.2

theorem keep6 {W w w' : World} {p0 p1 p2 p3 p4 p5 : Addr} {x0 x1 x2 x3 x4 x5 : Value} (hb : Below w.heap.size w w') (h : w.cell? p0 = some x0 ∧ w.cell? p1 = some x1 ∧ w.cell? p2 = some x2 ∧ w.cell? p3 = some x3 ∧ w.cell? p4 = some x4 ∧ w.cell? p5 = some x5 ∧ Below W.heap.size W w) : w'.cell? p0 = some x0 ∧ w'.cell? p1 = some x1 ∧ w'.cell? p2 = some x2 ∧ w'.cell? p3 = some x3 ∧ w'.cell? p4 = some x4 ∧ w'.cell? p5 = some x5 ∧ Below W.heap.size W w' := by
  obtain ⟨h0, h1, h2, h3, h4, h5, hl⟩ := h
  exact ⟨bkeep hb h0, bkeep hb h1, bkeep hb h2, bkeep hb h3, bkeep hb h4, bkeep hb h5, hl.trans (hb.mono hl.size)⟩
theorem bel6 {W w : World} {p0 p1 p2 p3 p4 p5 : Addr} {x0 x1 x2 x3 x4 x5 : Value} (h : w.cell? p0 = some x0 ∧ w.cell? p1 = some x1 ∧ w.cell? p2 = some x2 ∧ w.cell? p3 = some x3 ∧ w.cell? p4 = some x4 ∧ w.cell? p5 = some x5 ∧ Below W.heap.size W w) : Below W.heap.size W w := h.2.2.2.2.2.2

set_option maxRecDepth 100000 in
set_option maxHeartbeats 8000000 in
theorem walk (v0 : Value) (v1 : Value) (v2 : Value) (a3 : Int) (a4 : Int) (W : World) (S0 : ∃ d, TTAt W v0 d ∧ TTFits d) (S1 : ∃ d, FleetAt W v1 d ∧ FleetFits d) (S2 : ∃ d, GrpsAt W v2 d ∧ GrpsFit d) (w3 : (Lit.int .i64 a3).wf = true) (w4 : (Lit.int .i64 a4).wf = true) (hL : laidMetH Try.prog Rows.fnExactSwapTailsRow.laid W) (hsh : W.ShapedOpen Try.prog) :
    Calls Try.prog 10 #[v0, v1, v2, .int .i64 a3, .int .i64 a4] W fun e w' => e = .returned (.bool true) ∧ Below W.heap.size W w' := by
  clear hL hsh
  obtain ⟨d0, hr0, hf0⟩ := S0
  obtain ⟨u0_0, u0_1, u0_2, u0_3, u0_4, u0_5, rfl⟩ := Timetable_open hr0
  have A0_0 := Lib.hid hr0
  have HF0 := Lib.hid hf0
  clear hr0 hf0
  obtain ⟨d1, hr1, hf1⟩ := S1
  obtain ⟨u1_0, u1_1, rfl⟩ := Fleet_open hr1
  have A1_0 := Lib.hid hr1
  have HF1 := Lib.hid hf1
  clear hr1 hf1
  obtain ⟨d2, hr2, hf2⟩ := S2
  obtain ⟨u2_0, u2_1, rfl⟩ := IntSS_open hr2
  have A2_0 := Lib.hid hr2
  have HF2 := Lib.hid hf2
  clear hr2 hf2
  have Hw3 := Lib.hid w3
  clear w3
  have Hw4 := Lib.hid w4
  clear w4
  go_enter Try.func10, Try.ntmps10

  go_wp2_with fail
  go_at_call 19
  refine (szTimetable_x _ d0 _ _ ((A0_0.out).below rfl (((Below.refl _ _).alloc (by first | omega | (simp; omega) | simp) _).alloc (by first | omega | (simp; omega) | simp) _)) HF0.out (by omega) (by omega)).mono ?_
  rintro e w1 ⟨⟨z0, rfl, hz⟩, hb⟩
  have hX1 : Hid (Below W.heap.size W w1) := (((Below.refl _ _).alloc (by first | omega | (simp; omega) | simp) _).alloc (by first | omega | (simp; omega) | simp) _).trans (hb.mono (by first | omega | (simp; omega) | simp))
  have hz1 : W.heap.size + 2 ≤ w1.heap.size ∧ W.heap.size + 2 ≤ w1.heap.size := by have h1 := hb.size; (try simp at h1); omega
  have HB1 : Hid (Below W.heap.size W w1) := hX1
  have A0_1 := Lib.hid (A0_0.out.below rfl hX1.out)
  clear A0_0
  have A1_1 := Lib.hid (A1_0.out.below rfl hX1.out)
  clear A1_0
  have A2_1 := Lib.hid (A2_0.out.below rfl hX1.out)
  clear A2_0
  have n_0 : w1.cell? ⟨W.heap.size, 0, none⟩ = some (.slice u0_0 d0.net.stops.length u0_1) := bkeep hb (by go_simp)
  have n_1 : w1.cell? ⟨W.heap.size, 1, none⟩ = some (.slice u0_2 d0.net.lines.length u0_3) := bkeep hb (by go_simp)
  have n_2 : w1.cell? ⟨W.heap.size, 2, none⟩ = some (.slice u0_4 d0.trips.length u0_5) := bkeep hb (by go_simp)
  have XaT_1 : Hid (CellsF w1 (W.heap.size) 0 [(.slice u0_0 d0.net.stops.length u0_1), (.slice u0_2 d0.net.lines.length u0_3), (.slice u0_4 d0.trips.length u0_5)]) := ⟨n_0, n_1, n_2, trivial⟩
  clear n_0 n_1 n_2
  have n_0 : w1.cell? ⟨W.heap.size + 1, 0, none⟩ = some (.slice u1_0 d1.dead.length u1_1) := bkeep hb (by go_simp)
  have n_1 : w1.cell? ⟨W.heap.size + 1, 1, none⟩ = some (.int .i64 d1.turn) := bkeep hb (by go_simp)
  have XaF_1 : Hid (CellsF w1 (W.heap.size + 1) 0 [(.slice u1_0 d1.dead.length u1_1), (.int .i64 d1.turn)]) := ⟨n_0, n_1, trivial⟩
  clear n_0 n_1
  clear hb
  rcases hz with rfl | ⟨hz0, hz1, hsm⟩
  · go_wp2_with fail
    go_ret
    exact ⟨rfl, HB1.out⟩
  have HSm0 := Lib.hid hsm
  clear hsm
  have HT0 := Lib.hid (fun w (h : Below w1.heap.size w1 w) => toTimetable_x _ d0 w (A0_1.out.below rfl h) HSm0.out)

  have c_aF0 : w1.cell? ⟨W.heap.size + 1, 0, none⟩ = some (.slice u1_0 d1.dead.length u1_1) := XaF_1.out.1
  have c_aF1 : w1.cell? ⟨W.heap.size + 1, 1, none⟩ = some (.int .i64 d1.turn) := XaF_1.out.2.1
  go_wp2_with fail
  go_at_call 12
  refine (szFleet_x _ d1 _ _ (A1_1.out) HF1.out (by omega) (by omega)).mono ?_
  rintro e w2 ⟨⟨z1, rfl, hz⟩, hb⟩
  have hX2 : Hid (Below w1.heap.size w1 w2) := hb
  have hz2 : W.heap.size + 2 ≤ w2.heap.size ∧ w1.heap.size + 0 ≤ w2.heap.size := by have h1 := hb.size; (try simp at h1); omega
  have HB2 : Hid (Below W.heap.size W w2) := HB1.out.trans (hX2.out.mono (by omega))
  have A0_2 := Lib.hid (A0_1.out.below rfl hX2.out)
  clear A0_1
  have A1_2 := Lib.hid (A1_1.out.below rfl hX2.out)
  clear A1_1
  have A2_2 := Lib.hid (A2_1.out.below rfl hX2.out)
  clear A2_1
  have XaT_2 := Lib.hid (XaT_1.out.keep hX2.out)
  clear XaT_1
  have XaF_2 := Lib.hid (XaF_1.out.keep hX2.out)
  clear XaF_1
  clear c_aF0 c_aF1
  clear hb
  rcases hz with rfl | ⟨hz0, hz1, hsm⟩
  · go_wp2_with fail
    go_ret
    exact ⟨rfl, HB2.out⟩
  have HSm1 := Lib.hid hsm
  clear hsm
  have HT1 := Lib.hid (fun w (h : Below w2.heap.size w2 w) => toFleet_x _ d1 w (A1_2.out.below rfl h) HSm1.out)

  go_wp2_with fail
  go_at_call 24
  refine (szIntSS_x _ d2 _ _ (A2_2.out) HF2.out (by omega) (by omega)).mono ?_
  rintro e w3 ⟨⟨z2, rfl, hz⟩, hb⟩
  have hX3 : Hid (Below w2.heap.size w2 w3) := hb
  have hz3 : W.heap.size + 2 ≤ w3.heap.size ∧ w2.heap.size + 0 ≤ w3.heap.size := by have h1 := hb.size; (try simp at h1); omega
  have HB3 : Hid (Below W.heap.size W w3) := HB2.out.trans (hX3.out.mono (by omega))
  have A0_3 := Lib.hid (A0_2.out.below rfl hX3.out)
  clear A0_2
  have A1_3 := Lib.hid (A1_2.out.below rfl hX3.out)
  clear A1_2
  have A2_3 := Lib.hid (A2_2.out.below rfl hX3.out)
  clear A2_2
  have XaT_3 := Lib.hid (XaT_2.out.keep hX3.out)
  clear XaT_2
  have XaF_3 := Lib.hid (XaF_2.out.keep hX3.out)
  clear XaF_2
  clear hb
  rcases hz with rfl | ⟨hz0, hz1, hsm⟩
  · go_wp2_with fail
    go_ret
    exact ⟨rfl, HB3.out⟩
  have HSm2 := Lib.hid hsm
  clear hsm
  have HT2 := Lib.hid (fun w (h : Below w3.heap.size w3 w) => toIntSS_x _ d2 w (A2_3.out.below rfl h) HSm2.out)
  obtain ⟨r0, r1, hq0, hboth⟩ := bothSwapTails d0 HF0.out HSm0.out d1 HF1.out HSm1.out d2 HF2.out HSm2.out a3 Hw3.out a4 Hw4.out
  have HQ0 := Lib.hid hq0
  clear hq0
  have HSpec := Lib.hid (fun v0 v1 v2 w (h0 : TTAt w v0 d0) (h1 : FleetAt w v1 d1) (h2 : GrpsAt w v2 d2) => (hboth v0 v1 v2 w h0 h1 h2).1)
  have HImpl := Lib.hid (fun v0 v1 v2 w (h0 : TTAt w v0 d0) (h1 : FleetAt w v1 d1) (h2 : GrpsAt w v2 d2) => (hboth v0 v1 v2 w h0 h1 h2).2)
  clear hboth
  have hne1 : (r1 != r1) = false := by simp

  have c_aT0 : w3.cell? ⟨W.heap.size, 0, none⟩ = some (.slice u0_0 d0.net.stops.length u0_1) := XaT_3.out.1
  have c_aT1 : w3.cell? ⟨W.heap.size, 1, none⟩ = some (.slice u0_2 d0.net.lines.length u0_3) := XaT_3.out.2.1
  have c_aT2 : w3.cell? ⟨W.heap.size, 2, none⟩ = some (.slice u0_4 d0.trips.length u0_5) := XaT_3.out.2.2.1
  have c_aF0 : w3.cell? ⟨W.heap.size + 1, 0, none⟩ = some (.slice u1_0 d1.dead.length u1_1) := XaF_3.out.1
  have c_aF1 : w3.cell? ⟨W.heap.size + 1, 1, none⟩ = some (.int .i64 d1.turn) := XaF_3.out.2.1
  go_wp2_with fail
  go_region_held3 (fun w' => w'.cell? ⟨W.heap.size, 0, none⟩ = some (.slice u0_0 d0.net.stops.length u0_1) ∧ w'.cell? ⟨W.heap.size, 1, none⟩ = some (.slice u0_2 d0.net.lines.length u0_3) ∧ w'.cell? ⟨W.heap.size, 2, none⟩ = some (.slice u0_4 d0.trips.length u0_5) ∧ w'.cell? ⟨W.heap.size + 1, 0, none⟩ = some (.slice u1_0 d1.dead.length u1_1) ∧ w'.cell? ⟨W.heap.size + 1, 1, none⟩ = some (.int .i64 d1.turn) ∧ Below w3.heap.size w3 w')
    (first | (exact ⟨c_aT0, c_aT1, c_aT2, c_aF0, c_aF1, (Below.refl _ _).drew⟩) | (exact keep5 hb (by assumption)) | (exact keep5 hb0 (by assumption)) | (exact keep5 hb1 (by assumption)) | (exact keep5 hb2 (by assumption)))
    (first | (go_at_call_of 21 d0; refine (HT0.out _ ((hX2.out.trans (hX3.out.mono (by omega))).trans ((bel5 (by assumption)).mono (by omega)))).mono ?_; rintro e w' ⟨yw0_0, yw0_1, yw0_2, yw0_3, yw0_4, yw0_5, rfl, hown0, hb0⟩) | (go_at_call_of 15 d1; refine (HT1.out _ (hX3.out.trans ((bel5 (by assumption)).mono (by omega)))).mono ?_; rintro e w' ⟨yw1_0, yw1_1, rfl, hown1, hb1⟩) | (go_at_call_of 26 d2; refine (HT2.out _ ((Below.refl _ _).trans ((bel5 (by assumption)).mono (by omega)))).mono ?_; rintro e w' ⟨yw2_0, yw2_1, rfl, hown2, hb2⟩) | (go_at_call 43; refine (HSpec.out _ _ _ _ (by first | exact hown0.at | exact hown0.at.below rfl hb1 | exact hown0.at.below rfl hb2 | exact (hown0.at.below rfl hb1).below rfl hb2 | exact (hown0.at.below rfl hb2).below rfl hb1) (by first | exact hown1.at | exact hown1.at.below rfl hb0 | exact hown1.at.below rfl hb2 | exact (hown1.at.below rfl hb0).below rfl hb2 | exact (hown1.at.below rfl hb2).below rfl hb0) (by first | exact hown2.at | exact hown2.at.below rfl hb0 | exact hown2.at.below rfl hb1 | exact (hown2.at.below rfl hb0).below rfl hb1 | exact (hown2.at.below rfl hb1).below rfl hb0)).mono ?_; rintro e w' ⟨zw0, rfl, hi0, hb⟩))
  all_goals
    have hS : w'.cell? ⟨W.heap.size, 0, none⟩ = some (.slice u0_0 d0.net.stops.length u0_1) ∧ w'.cell? ⟨W.heap.size, 1, none⟩ = some (.slice u0_2 d0.net.lines.length u0_3) ∧ w'.cell? ⟨W.heap.size, 2, none⟩ = some (.slice u0_4 d0.trips.length u0_5) ∧ w'.cell? ⟨W.heap.size + 1, 0, none⟩ = some (.slice u1_0 d1.dead.length u1_1) ∧ w'.cell? ⟨W.heap.size + 1, 1, none⟩ = some (.int .i64 d1.turn) ∧ Below w3.heap.size w3 w' := by assumption
    obtain ⟨w0_0, w0_1, rfl⟩ := IntSS_open hi0.at
    have Iw0_new := Lib.hid hi0
    clear hi0
    have Iw0_low := Lib.hid (Iw0_new.out.base (Nat.zero_le _) (Nat.le_refl _))
    clear Iw0_new
    clear hb hown0 hown1 hown2 hb0 hb1 hb2
    obtain ⟨_, _, _, _, _, hb⟩ := hS
    obtain ⟨w4, hww⟩ : ∃ q : World, q = w' := ⟨_, rfl⟩
    subst hww
    have hX4 : Hid (Below w3.heap.size w3 w4) := hb
    have hz4 : W.heap.size + 2 ≤ w4.heap.size ∧ w3.heap.size + 0 ≤ w4.heap.size := by have h1 := hb.size; (try simp at h1); omega
    have HB4 : Hid (Below W.heap.size W w4) := HB3.out.trans (hX4.out.mono (by omega))
    have A0_4 := Lib.hid (A0_3.out.below rfl hX4.out)
    clear A0_3
    have A1_4 := Lib.hid (A1_3.out.below rfl hX4.out)
    clear A1_3
    have A2_4 := Lib.hid (A2_3.out.below rfl hX4.out)
    clear A2_3
    have XaT_4 := Lib.hid (XaT_3.out.keep hX4.out)
    clear XaT_3
    have XaF_4 := Lib.hid (XaF_3.out.keep hX4.out)
    clear XaF_3
    clear c_aT0 c_aT1 c_aT2 c_aF0 c_aF1
    clear hb
    have Iw0_4 := Iw0_low
    clear Iw0_low

    have c_aT0 : w4.cell? ⟨W.heap.size, 0, none⟩ = some (.slice u0_0 d0.net.stops.length u0_1) := XaT_4.out.1
    have c_aT1 : w4.cell? ⟨W.heap.size, 1, none⟩ = some (.slice u0_2 d0.net.lines.length u0_3) := XaT_4.out.2.1
    have c_aT2 : w4.cell? ⟨W.heap.size, 2, none⟩ = some (.slice u0_4 d0.trips.length u0_5) := XaT_4.out.2.2.1
    go_wp2_with fail
    go_at_call 21
    refine (HT0.out _ ((hX2.out.trans (hX3.out.mono (by omega))).trans (hX4.out.mono (by omega)))).mono ?_
    rintro e w5 ⟨x0_0, x0_1, x0_2, x0_3, x0_4, x0_5, rfl, hown, hb⟩
    have Ix0_new := Lib.hid hown
    clear hown
    have hX5 : Hid (Below w4.heap.size w4 w5) := hb
    have hz5 : W.heap.size + 2 ≤ w5.heap.size ∧ w4.heap.size + 0 ≤ w5.heap.size := by have h1 := hb.size; (try simp at h1); omega
    have HB5 : Hid (Below W.heap.size W w5) := HB4.out.trans (hX5.out.mono (by omega))
    have A0_5 := Lib.hid (A0_4.out.below rfl hX5.out)
    clear A0_4
    have A1_5 := Lib.hid (A1_4.out.below rfl hX5.out)
    clear A1_4
    have A2_5 := Lib.hid (A2_4.out.below rfl hX5.out)
    clear A2_4
    have XaT_5 := Lib.hid (XaT_4.out.keep hX5.out)
    clear XaT_4
    have XaF_5 := Lib.hid (XaF_4.out.keep hX5.out)
    clear XaF_4
    have Iw0_5 := Lib.hid (Iw0_4.out.later hX5.out)
    clear Iw0_4
    clear c_aT0 c_aT1 c_aT2
    clear hb
    have Ix0_5 := Ix0_new
    clear Ix0_new

    have c_aF0 : w5.cell? ⟨W.heap.size + 1, 0, none⟩ = some (.slice u1_0 d1.dead.length u1_1) := XaF_5.out.1
    have c_aF1 : w5.cell? ⟨W.heap.size + 1, 1, none⟩ = some (.int .i64 d1.turn) := XaF_5.out.2.1
    have hlt_aF : W.heap.size + 1 < w5.heap.size := by omega
    go_wp2_with fail
    go_at_call 15
    refine (HT1.out _ (((hX3.out.trans (hX4.out.mono (by omega))).trans (hX5.out.mono (by omega))).alloc (by first | omega | (simp; omega) | simp) _)).mono ?_
    rintro e w6 ⟨x1_0, x1_1, rfl, hown, hb⟩
    simp only [World.size_alloc] at hown
    have Ix1_new := Lib.hid hown
    clear hown
    have hX6 : Hid (Below w5.heap.size w5 w6) := ((Below.refl _ _).alloc (by first | omega | (simp; omega) | simp) _).trans (hb.mono (by first | omega | (simp; omega) | simp))
    have hz6 : W.heap.size + 2 ≤ w6.heap.size ∧ w5.heap.size + 1 ≤ w6.heap.size := by have h1 := hb.size; (try simp at h1); omega
    have HB6 : Hid (Below W.heap.size W w6) := HB5.out.trans (hX6.out.mono (by omega))
    have A0_6 := Lib.hid (A0_5.out.below rfl hX6.out)
    clear A0_5
    have A1_6 := Lib.hid (A1_5.out.below rfl hX6.out)
    clear A1_5
    have A2_6 := Lib.hid (A2_5.out.below rfl hX6.out)
    clear A2_5
    have XaT_6 := Lib.hid (XaT_5.out.keep hX6.out)
    clear XaT_5
    have XaF_6 := Lib.hid (XaF_5.out.keep hX6.out)
    clear XaF_5
    have Iw0_6 := Lib.hid (Iw0_5.out.later hX6.out)
    clear Iw0_5
    have Ix0_6 := Lib.hid (Ix0_5.out.later hX6.out)
    clear Ix0_5
    have n_0 : w6.cell? ⟨w5.heap.size, 0, none⟩ = some (.slice x0_0 d0.net.stops.length x0_1) := bkeep hb (by go_simp)
    have n_1 : w6.cell? ⟨w5.heap.size, 1, none⟩ = some (.slice x0_2 d0.net.lines.length x0_3) := bkeep hb (by go_simp)
    have n_2 : w6.cell? ⟨w5.heap.size, 2, none⟩ = some (.slice x0_4 d0.trips.length x0_5) := bkeep hb (by go_simp)
    have Xx0_6 : Hid (CellsF w6 (w5.heap.size) 0 [(.slice x0_0 d0.net.stops.length x0_1), (.slice x0_2 d0.net.lines.length x0_3), (.slice x0_4 d0.trips.length x0_5)]) := ⟨n_0, n_1, n_2, trivial⟩
    clear n_0 n_1 n_2
    clear c_aF0 c_aF1 hlt_aF
    clear hb
    have Ix1_6 := Ix1_new
    clear Ix1_new

    go_wp2_with fail
    go_at_call 26
    refine (HT2.out _ (((hX4.out.trans (hX5.out.mono (by omega))).trans (hX6.out.mono (by omega))).alloc (by first | omega | (simp; omega) | simp) _)).mono ?_
    rintro e w7 ⟨x2_0, x2_1, rfl, hown, hb⟩
    simp only [World.size_alloc] at hown
    have Ix2_new := Lib.hid hown
    clear hown
    have hX7 : Hid (Below w6.heap.size w6 w7) := ((Below.refl _ _).alloc (by first | omega | (simp; omega) | simp) _).trans (hb.mono (by first | omega | (simp; omega) | simp))
    have hz7 : W.heap.size + 2 ≤ w7.heap.size ∧ w6.heap.size + 1 ≤ w7.heap.size := by have h1 := hb.size; (try simp at h1); omega
    have HB7 : Hid (Below W.heap.size W w7) := HB6.out.trans (hX7.out.mono (by omega))
    have A0_7 := Lib.hid (A0_6.out.below rfl hX7.out)
    clear A0_6
    have A1_7 := Lib.hid (A1_6.out.below rfl hX7.out)
    clear A1_6
    have A2_7 := Lib.hid (A2_6.out.below rfl hX7.out)
    clear A2_6
    have XaT_7 := Lib.hid (XaT_6.out.keep hX7.out)
    clear XaT_6
    have XaF_7 := Lib.hid (XaF_6.out.keep hX7.out)
    clear XaF_6
    have Iw0_7 := Lib.hid (Iw0_6.out.later hX7.out)
    clear Iw0_6
    have Ix0_7 := Lib.hid (Ix0_6.out.later hX7.out)
    clear Ix0_6
    have Xx0_7 := Lib.hid (Xx0_6.out.keep hX7.out)
    clear Xx0_6
    have Ix1_7 := Lib.hid (Ix1_6.out.later hX7.out)
    clear Ix1_6
    have n_0 : w7.cell? ⟨w6.heap.size, 0, none⟩ = some (.slice x1_0 d1.dead.length x1_1) := bkeep hb (by go_simp)
    have n_1 : w7.cell? ⟨w6.heap.size, 1, none⟩ = some (.int .i64 d1.turn) := bkeep hb (by go_simp)
    have Xx1_7 : Hid (CellsF w7 (w6.heap.size) 0 [(.slice x1_0 d1.dead.length x1_1), (.int .i64 d1.turn)]) := ⟨n_0, n_1, trivial⟩
    clear n_0 n_1
    clear hb
    have Ix2_7 := Ix2_new
    clear Ix2_new

    have c_x00 : w7.cell? ⟨w5.heap.size, 0, none⟩ = some (.slice x0_0 d0.net.stops.length x0_1) := Xx0_7.out.1
    have c_x01 : w7.cell? ⟨w5.heap.size, 1, none⟩ = some (.slice x0_2 d0.net.lines.length x0_3) := Xx0_7.out.2.1
    have c_x02 : w7.cell? ⟨w5.heap.size, 2, none⟩ = some (.slice x0_4 d0.trips.length x0_5) := Xx0_7.out.2.2.1
    have c_x10 : w7.cell? ⟨w6.heap.size, 0, none⟩ = some (.slice x1_0 d1.dead.length x1_1) := Xx1_7.out.1
    have c_x11 : w7.cell? ⟨w6.heap.size, 1, none⟩ = some (.int .i64 d1.turn) := Xx1_7.out.2.1
    go_wp2_with fail
    go_at_call 44
    refine (HImpl.out _ _ _ _ ((Ix0_7.out).at) ((Ix1_7.out).at) ((Ix2_7.out).at)).mono ?_
    rintro e w8 ⟨zg0, rfl, hi0, hb⟩
    obtain ⟨g0_0, g0_1, rfl⟩ := IntSS_open hi0.at
    have Ig0_new := Lib.hid hi0
    clear hi0
    have hX8 : Hid (Below w7.heap.size w7 w8) := hb
    have hz8 : W.heap.size + 2 ≤ w8.heap.size ∧ w7.heap.size + 0 ≤ w8.heap.size := by have h1 := hb.size; (try simp at h1); omega
    have HB8 : Hid (Below W.heap.size W w8) := HB7.out.trans (hX8.out.mono (by omega))
    have A0_8 := Lib.hid (A0_7.out.below rfl hX8.out)
    clear A0_7
    have A1_8 := Lib.hid (A1_7.out.below rfl hX8.out)
    clear A1_7
    have A2_8 := Lib.hid (A2_7.out.below rfl hX8.out)
    clear A2_7
    have XaT_8 := Lib.hid (XaT_7.out.keep hX8.out)
    clear XaT_7
    have XaF_8 := Lib.hid (XaF_7.out.keep hX8.out)
    clear XaF_7
    have Iw0_8 := Lib.hid (Iw0_7.out.later hX8.out)
    clear Iw0_7
    have Ix0_8 := Lib.hid (Ix0_7.out.later hX8.out)
    clear Ix0_7
    have Xx0_8 := Lib.hid (Xx0_7.out.keep hX8.out)
    clear Xx0_7
    have Ix1_8 := Lib.hid (Ix1_7.out.later hX8.out)
    clear Ix1_7
    have Xx1_8 := Lib.hid (Xx1_7.out.keep hX8.out)
    clear Xx1_7
    have Ix2_8 := Lib.hid (Ix2_7.out.later hX8.out)
    clear Ix2_7
    clear c_x00 c_x01 c_x02 c_x10 c_x11
    clear hb
    have Ig0_8 := Ig0_new
    clear Ig0_new

    go_wp2_with fail
    go_at_call 28
    refine (eqIntSS_x _ _ r0 _ ((Ig0_8.out).at) ((Iw0_8.out).at) HQ0.out).mono ?_
    rintro e w9 ⟨rfl, hb⟩
    have hX9 : Hid (Below w8.heap.size w8 w9) := hb
    have hz9 : W.heap.size + 2 ≤ w9.heap.size ∧ w8.heap.size + 0 ≤ w9.heap.size := by have h1 := hb.size; (try simp at h1); omega
    have HB9 : Hid (Below W.heap.size W w9) := HB8.out.trans (hX9.out.mono (by omega))
    have A0_9 := Lib.hid (A0_8.out.below rfl hX9.out)
    clear A0_8
    have A1_9 := Lib.hid (A1_8.out.below rfl hX9.out)
    clear A1_8
    have A2_9 := Lib.hid (A2_8.out.below rfl hX9.out)
    clear A2_8
    have XaT_9 := Lib.hid (XaT_8.out.keep hX9.out)
    clear XaT_8
    have XaF_9 := Lib.hid (XaF_8.out.keep hX9.out)
    clear XaF_8
    have Iw0_9 := Lib.hid (Iw0_8.out.later hX9.out)
    clear Iw0_8
    have Ix0_9 := Lib.hid (Ix0_8.out.later hX9.out)
    clear Ix0_8
    have Xx0_9 := Lib.hid (Xx0_8.out.keep hX9.out)
    clear Xx0_8
    have Ix1_9 := Lib.hid (Ix1_8.out.later hX9.out)
    clear Ix1_8
    have Xx1_9 := Lib.hid (Xx1_8.out.keep hX9.out)
    clear Xx1_8
    have Ix2_9 := Lib.hid (Ix2_8.out.later hX9.out)
    clear Ix2_8
    have Ig0_9 := Lib.hid (Ig0_8.out.later hX9.out)
    clear Ig0_8
    clear hb

    have c_x00 : w9.cell? ⟨w5.heap.size, 0, none⟩ = some (.slice x0_0 d0.net.stops.length x0_1) := Xx0_9.out.1
    have c_x01 : w9.cell? ⟨w5.heap.size, 1, none⟩ = some (.slice x0_2 d0.net.lines.length x0_3) := Xx0_9.out.2.1
    have c_x02 : w9.cell? ⟨w5.heap.size, 2, none⟩ = some (.slice x0_4 d0.trips.length x0_5) := Xx0_9.out.2.2.1
    have c_aT0 : w9.cell? ⟨W.heap.size, 0, none⟩ = some (.slice u0_0 d0.net.stops.length u0_1) := XaT_9.out.1
    have c_aT1 : w9.cell? ⟨W.heap.size, 1, none⟩ = some (.slice u0_2 d0.net.lines.length u0_3) := XaT_9.out.2.1
    have c_aT2 : w9.cell? ⟨W.heap.size, 2, none⟩ = some (.slice u0_4 d0.trips.length u0_5) := XaT_9.out.2.2.1
    go_wp2_with fail
    go_region_held3 (fun w' => w'.cell? ⟨w5.heap.size, 0, none⟩ = some (.slice x0_0 d0.net.stops.length x0_1) ∧ w'.cell? ⟨w5.heap.size, 1, none⟩ = some (.slice x0_2 d0.net.lines.length x0_3) ∧ w'.cell? ⟨w5.heap.size, 2, none⟩ = some (.slice x0_4 d0.trips.length x0_5) ∧ w'.cell? ⟨W.heap.size, 0, none⟩ = some (.slice u0_0 d0.net.stops.length u0_1) ∧ w'.cell? ⟨W.heap.size, 1, none⟩ = some (.slice u0_2 d0.net.lines.length u0_3) ∧ w'.cell? ⟨W.heap.size, 2, none⟩ = some (.slice u0_4 d0.trips.length u0_5) ∧ Below w9.heap.size w9 w')
      (first | (exact ⟨c_x00, c_x01, c_x02, c_aT0, c_aT1, c_aT2, (Below.refl _ _).drew⟩) | (exact keep6 hb (by assumption)))
      (first | (go_at_call 21; refine (HT0.out _ ((((((((hX2.out.trans (hX3.out.mono (by omega))).trans (hX4.out.mono (by omega))).trans (hX5.out.mono (by omega))).trans (hX6.out.mono (by omega))).trans (hX7.out.mono (by omega))).trans (hX8.out.mono (by omega))).trans (hX9.out.mono (by omega))).trans ((bel6 (by assumption)).mono (by omega)))).mono ?_; rintro e w' ⟨yy0_0, yy0_1, yy0_2, yy0_3, yy0_4, yy0_5, rfl, hown, hb⟩) | (go_at_call 23; refine (eqTimetable_x _ _ d0 _ (Ix0_9.out.at.below rfl (bel6 (by assumption))) hown.at HSm0.out).mono ?_; rintro e w' ⟨rfl, hb⟩))
    obtain ⟨_, _, _, _, _, _, hb⟩ := (by assumption : _ ∧ _)
    obtain ⟨w10, hww⟩ : ∃ q : World, q = w' := ⟨_, rfl⟩
    subst hww
    have hX10 : Hid (Below w9.heap.size w9 w10) := hb
    have hz10 : W.heap.size + 2 ≤ w10.heap.size ∧ w9.heap.size + 0 ≤ w10.heap.size := by have h1 := hb.size; (try simp at h1); omega
    have HB10 : Hid (Below W.heap.size W w10) := HB9.out.trans (hX10.out.mono (by omega))
    have A0_10 := Lib.hid (A0_9.out.below rfl hX10.out)
    clear A0_9
    have A1_10 := Lib.hid (A1_9.out.below rfl hX10.out)
    clear A1_9
    have A2_10 := Lib.hid (A2_9.out.below rfl hX10.out)
    clear A2_9
    have XaT_10 := Lib.hid (XaT_9.out.keep hX10.out)
    clear XaT_9
    have XaF_10 := Lib.hid (XaF_9.out.keep hX10.out)
    clear XaF_9
    have Iw0_10 := Lib.hid (Iw0_9.out.later hX10.out)
    clear Iw0_9
    have Ix0_10 := Lib.hid (Ix0_9.out.later hX10.out)
    clear Ix0_9
    have Xx0_10 := Lib.hid (Xx0_9.out.keep hX10.out)
    clear Xx0_9
    have Ix1_10 := Lib.hid (Ix1_9.out.later hX10.out)
    clear Ix1_9
    have Xx1_10 := Lib.hid (Xx1_9.out.keep hX10.out)
    clear Xx1_9
    have Ix2_10 := Lib.hid (Ix2_9.out.later hX10.out)
    clear Ix2_9
    have Ig0_10 := Lib.hid (Ig0_9.out.later hX10.out)
    clear Ig0_9
    clear c_x00 c_x01 c_x02 c_aT0 c_aT1 c_aT2
    clear hb

    have c_x10 : w10.cell? ⟨w6.heap.size, 0, none⟩ = some (.slice x1_0 d1.dead.length x1_1) := Xx1_10.out.1
    have c_x11 : w10.cell? ⟨w6.heap.size, 1, none⟩ = some (.int .i64 d1.turn) := Xx1_10.out.2.1
    have c_aF0 : w10.cell? ⟨W.heap.size + 1, 0, none⟩ = some (.slice u1_0 d1.dead.length u1_1) := XaF_10.out.1
    have c_aF1 : w10.cell? ⟨W.heap.size + 1, 1, none⟩ = some (.int .i64 d1.turn) := XaF_10.out.2.1
    go_wp2_with fail
    go_region_held3 (fun w' => w'.cell? ⟨w6.heap.size, 0, none⟩ = some (.slice x1_0 d1.dead.length x1_1) ∧ w'.cell? ⟨w6.heap.size, 1, none⟩ = some (.int .i64 d1.turn) ∧ w'.cell? ⟨W.heap.size + 1, 0, none⟩ = some (.slice u1_0 d1.dead.length u1_1) ∧ w'.cell? ⟨W.heap.size + 1, 1, none⟩ = some (.int .i64 d1.turn) ∧ Below w10.heap.size w10 w')
      (first | (exact ⟨c_x10, c_x11, c_aF0, c_aF1, (Below.refl _ _).drew⟩) | (exact keep4 hb (by assumption)))
      (first | (go_at_call 15; refine (HT1.out _ ((((((((hX3.out.trans (hX4.out.mono (by omega))).trans (hX5.out.mono (by omega))).trans (hX6.out.mono (by omega))).trans (hX7.out.mono (by omega))).trans (hX8.out.mono (by omega))).trans (hX9.out.mono (by omega))).trans (hX10.out.mono (by omega))).trans ((bel4 (by assumption)).mono (by omega)))).mono ?_; rintro e w' ⟨yy1_0, yy1_1, rfl, hown, hb⟩) | (go_at_call 18; refine (eqFleet_x _ _ d1 _ (Ix1_10.out.at.below rfl (bel4 (by assumption))) hown.at HSm1.out).mono ?_; rintro e w' ⟨rfl, hb⟩))
    obtain ⟨_, _, _, _, hb⟩ := (by assumption : _ ∧ _)
    obtain ⟨w11, hww⟩ : ∃ q : World, q = w' := ⟨_, rfl⟩
    subst hww
    have hX11 : Hid (Below w10.heap.size w10 w11) := hb
    have hz11 : W.heap.size + 2 ≤ w11.heap.size ∧ w10.heap.size + 0 ≤ w11.heap.size := by have h1 := hb.size; (try simp at h1); omega
    have HB11 : Hid (Below W.heap.size W w11) := HB10.out.trans (hX11.out.mono (by omega))
    have A0_11 := Lib.hid (A0_10.out.below rfl hX11.out)
    clear A0_10
    have A1_11 := Lib.hid (A1_10.out.below rfl hX11.out)
    clear A1_10
    have A2_11 := Lib.hid (A2_10.out.below rfl hX11.out)
    clear A2_10
    have XaT_11 := Lib.hid (XaT_10.out.keep hX11.out)
    clear XaT_10
    have XaF_11 := Lib.hid (XaF_10.out.keep hX11.out)
    clear XaF_10
    have Iw0_11 := Lib.hid (Iw0_10.out.later hX11.out)
    clear Iw0_10
    have Ix0_11 := Lib.hid (Ix0_10.out.later hX11.out)
    clear Ix0_10
    have Xx0_11 := Lib.hid (Xx0_10.out.keep hX11.out)
    clear Xx0_10
    have Ix1_11 := Lib.hid (Ix1_10.out.later hX11.out)
    clear Ix1_10
    have Xx1_11 := Lib.hid (Xx1_10.out.keep hX11.out)
    clear Xx1_10
    have Ix2_11 := Lib.hid (Ix2_10.out.later hX11.out)
    clear Ix2_10
    have Ig0_11 := Lib.hid (Ig0_10.out.later hX11.out)
    clear Ig0_10
    clear c_x10 c_x11 c_aF0 c_aF1
    clear hb

    go_wp2_with fail
    go_at_call 26
    refine (HT2.out _ (((((((hX4.out.trans (hX5.out.mono (by omega))).trans (hX6.out.mono (by omega))).trans (hX7.out.mono (by omega))).trans (hX8.out.mono (by omega))).trans (hX9.out.mono (by omega))).trans (hX10.out.mono (by omega))).trans (hX11.out.mono (by omega)))).mono ?_
    rintro e w12 ⟨yy2_0, yy2_1, rfl, hown, hb⟩
    have IT_new := Lib.hid hown
    clear hown
    have hX12 : Hid (Below w11.heap.size w11 w12) := hb
    have hz12 : W.heap.size + 2 ≤ w12.heap.size ∧ w11.heap.size + 0 ≤ w12.heap.size := by have h1 := hb.size; (try simp at h1); omega
    have HB12 : Hid (Below W.heap.size W w12) := HB11.out.trans (hX12.out.mono (by omega))
    have A0_12 := Lib.hid (A0_11.out.below rfl hX12.out)
    clear A0_11
    have A1_12 := Lib.hid (A1_11.out.below rfl hX12.out)
    clear A1_11
    have A2_12 := Lib.hid (A2_11.out.below rfl hX12.out)
    clear A2_11
    have XaT_12 := Lib.hid (XaT_11.out.keep hX12.out)
    clear XaT_11
    have XaF_12 := Lib.hid (XaF_11.out.keep hX12.out)
    clear XaF_11
    have Iw0_12 := Lib.hid (Iw0_11.out.later hX12.out)
    clear Iw0_11
    have Ix0_12 := Lib.hid (Ix0_11.out.later hX12.out)
    clear Ix0_11
    have Xx0_12 := Lib.hid (Xx0_11.out.keep hX12.out)
    clear Xx0_11
    have Ix1_12 := Lib.hid (Ix1_11.out.later hX12.out)
    clear Ix1_11
    have Xx1_12 := Lib.hid (Xx1_11.out.keep hX12.out)
    clear Xx1_11
    have Ix2_12 := Lib.hid (Ix2_11.out.later hX12.out)
    clear Ix2_11
    have Ig0_12 := Lib.hid (Ig0_11.out.later hX12.out)
    clear Ig0_11
    clear hb
    have T9_12 := IT_new
    clear IT_new
    go_wp2_with fail
    go_at_call 28
    refine (eqIntSS_x _ _ d2 _ ((Ix2_12.out).at) ((T9_12.out).at) HSm2.out).mono ?_
    rintro e w13 ⟨rfl, hb⟩
    have hX13 : Hid (Below w12.heap.size w12 w13) := hb
    have hz13 : W.heap.size + 2 ≤ w13.heap.size ∧ w12.heap.size + 0 ≤ w13.heap.size := by have h1 := hb.size; (try simp at h1); omega
    have HB13 : Hid (Below W.heap.size W w13) := HB12.out.trans (hX13.out.mono (by omega))
    have A0_13 := Lib.hid (A0_12.out.below rfl hX13.out)
    clear A0_12
    have A1_13 := Lib.hid (A1_12.out.below rfl hX13.out)
    clear A1_12
    have A2_13 := Lib.hid (A2_12.out.below rfl hX13.out)
    clear A2_12
    have XaT_13 := Lib.hid (XaT_12.out.keep hX13.out)
    clear XaT_12
    have XaF_13 := Lib.hid (XaF_12.out.keep hX13.out)
    clear XaF_12
    have Iw0_13 := Lib.hid (Iw0_12.out.later hX13.out)
    clear Iw0_12
    have Ix0_13 := Lib.hid (Ix0_12.out.later hX13.out)
    clear Ix0_12
    have Xx0_13 := Lib.hid (Xx0_12.out.keep hX13.out)
    clear Xx0_12
    have Ix1_13 := Lib.hid (Ix1_12.out.later hX13.out)
    clear Ix1_12
    have Xx1_13 := Lib.hid (Xx1_12.out.keep hX13.out)
    clear Xx1_12
    have Ix2_13 := Lib.hid (Ix2_12.out.later hX13.out)
    clear Ix2_12
    have Ig0_13 := Lib.hid (Ig0_12.out.later hX13.out)
    clear Ig0_12
    have T9_13 := Lib.hid (T9_12.out.later hX13.out)
    clear T9_12
    clear hb
    clear T9_13

    have c_x00 : w13.cell? ⟨w5.heap.size, 0, none⟩ = some (.slice x0_0 d0.net.stops.length x0_1) := Xx0_13.out.1
    have c_x01 : w13.cell? ⟨w5.heap.size, 1, none⟩ = some (.slice x0_2 d0.net.lines.length x0_3) := Xx0_13.out.2.1
    have c_x02 : w13.cell? ⟨w5.heap.size, 2, none⟩ = some (.slice x0_4 d0.trips.length x0_5) := Xx0_13.out.2.2.1
    clear A0_13
    clear A1_13
    clear A2_13
    go_wp2_with fail
    have hsm0 := HSm0.out
    try unfold TTSmall at hsm0
    obtain ⟨hta0, htb0⟩ := netTot_le HSm0.out.1
    have htc0 := HSm0.out.2
    unfold TripsSmall at htc0
    go_at_call 36
    refine (markTimetable_x _ d0 _ _ _ _ Ix0_13.out (by omega) (by omega) HSm0.out (by omega) (by omega)).mono ?_
    rintro e w14 ⟨rfl, hmk, ho⟩
    clear hmk
    have hX14 : Hid (Out (_) (_) w13 w14) := ho
    have hz14 : W.heap.size + 2 ≤ w14.heap.size ∧ w13.heap.size ≤ w14.heap.size := ⟨by have := hX14.out.below.size; omega, hX14.out.below.size⟩
    have HB14 : Hid (Below W.heap.size W w14) := HB13.out.trans (hX14.out.below.mono (by omega))
    have XaT_14 := Lib.hid (XaT_13.out.out hX14.out (by omega))
    clear XaT_13
    have XaF_14 := Lib.hid (XaF_13.out.out hX14.out (by omega))
    clear XaF_13
    have Iw0_14 := Lib.hid (Iw0_13.out.out hX14.out (by omega))
    clear Iw0_13
    clear Ix0_13
    have Xx0_14 := Lib.hid (Xx0_13.out.out hX14.out (by omega))
    clear Xx0_13
    have Ix1_14 := Lib.hid (Ix1_13.out.out hX14.out (by omega))
    clear Ix1_13
    have Xx1_14 := Lib.hid (Xx1_13.out.out hX14.out (by omega))
    clear Xx1_13
    have Ix2_14 := Lib.hid (Ix2_13.out.out hX14.out (by omega))
    clear Ix2_13
    have Ig0_14 := Lib.hid (Ig0_13.out.out hX14.out (by omega))
    clear Ig0_13
    clear c_x00 c_x01 c_x02
    clear ho

    have c_x10 : w14.cell? ⟨w6.heap.size, 0, none⟩ = some (.slice x1_0 d1.dead.length x1_1) := Xx1_14.out.1
    have c_x11 : w14.cell? ⟨w6.heap.size, 1, none⟩ = some (.int .i64 d1.turn) := Xx1_14.out.2.1
    go_wp2_with fail
    have hsm1 := HSm1.out
    try unfold FleetSmall at hsm1
    try unfold GrpsSmall at hsm1
    go_at_call 37
    refine (markFleet_x _ d1 _ _ _ _ Ix1_14.out (by omega) (by omega) HSm1.out (by omega) (by omega)).mono ?_
    rintro e w15 ⟨rfl, hmk, ho⟩
    clear hmk
    have hX15 : Hid (Out (_) (_) w14 w15) := ho
    have hz15 : W.heap.size + 2 ≤ w15.heap.size ∧ w14.heap.size ≤ w15.heap.size := ⟨by have := hX15.out.below.size; omega, hX15.out.below.size⟩
    have HB15 : Hid (Below W.heap.size W w15) := HB14.out.trans (hX15.out.below.mono (by omega))
    have XaT_15 := Lib.hid (XaT_14.out.out hX15.out (by omega))
    clear XaT_14
    have XaF_15 := Lib.hid (XaF_14.out.out hX15.out (by omega))
    clear XaF_14
    have Iw0_15 := Lib.hid (Iw0_14.out.out hX15.out (by omega))
    clear Iw0_14
    have Xx0_15 := Lib.hid (Xx0_14.out.out hX15.out (by omega))
    clear Xx0_14
    clear Ix1_14
    have Xx1_15 := Lib.hid (Xx1_14.out.out hX15.out (by omega))
    clear Xx1_14
    have Ix2_15 := Lib.hid (Ix2_14.out.out hX15.out (by omega))
    clear Ix2_14
    have Ig0_15 := Lib.hid (Ig0_14.out.out hX15.out (by omega))
    clear Ig0_14
    clear c_x10 c_x11
    clear ho

    go_wp2_with fail
    have hsm2 := HSm2.out
    try unfold GrpsSmall at hsm2
    go_at_call 38
    refine (markIntSS_x _ d2 _ _ _ _ Ix2_15.out (by omega) (by omega) HSm2.out (by omega) (by omega)).mono ?_
    rintro e w16 ⟨rfl, hmk, ho⟩
    clear hmk
    have hX16 : Hid (Out (_) (_) w15 w16) := ho
    have hz16 : W.heap.size + 2 ≤ w16.heap.size ∧ w15.heap.size ≤ w16.heap.size := ⟨by have := hX16.out.below.size; omega, hX16.out.below.size⟩
    have HB16 : Hid (Below W.heap.size W w16) := HB15.out.trans (hX16.out.below.mono (by omega))
    have XaT_16 := Lib.hid (XaT_15.out.out hX16.out (by omega))
    clear XaT_15
    have XaF_16 := Lib.hid (XaF_15.out.out hX16.out (by omega))
    clear XaF_15
    have Iw0_16 := Lib.hid (Iw0_15.out.out hX16.out (by omega))
    clear Iw0_15
    have Xx0_16 := Lib.hid (Xx0_15.out.out hX16.out (by omega))
    clear Xx0_15
    have Xx1_16 := Lib.hid (Xx1_15.out.out hX16.out (by omega))
    clear Xx1_15
    clear Ix2_15
    have Ig0_16 := Lib.hid (Ig0_15.out.out hX16.out (by omega))
    clear Ig0_15
    clear ho

    go_wp2_with fail
    go_at_call 28
    refine (eqIntSS_x _ _ r0 _ ((Ig0_16.out).at) ((Iw0_16.out).at) HQ0.out).mono ?_
    rintro e w17 ⟨rfl, hb⟩
    have hX17 : Hid (Below w16.heap.size w16 w17) := hb
    have hz17 : W.heap.size + 2 ≤ w17.heap.size ∧ w16.heap.size + 0 ≤ w17.heap.size := by have h1 := hb.size; (try simp at h1); omega
    have HB17 : Hid (Below W.heap.size W w17) := HB16.out.trans (hX17.out.mono (by omega))
    have XaT_17 := Lib.hid (XaT_16.out.keep hX17.out)
    clear XaT_16
    have XaF_17 := Lib.hid (XaF_16.out.keep hX17.out)
    clear XaF_16
    have Iw0_17 := Lib.hid (Iw0_16.out.later hX17.out)
    clear Iw0_16
    have Xx0_17 := Lib.hid (Xx0_16.out.keep hX17.out)
    clear Xx0_16
    have Xx1_17 := Lib.hid (Xx1_16.out.keep hX17.out)
    clear Xx1_16
    have Ig0_17 := Lib.hid (Ig0_16.out.later hX17.out)
    clear Ig0_16
    clear hb

    go_wp2_with fail
    have hsq0 := HQ0.out
    try unfold GrpsSmall at hsq0
    go_at_call 38
    refine (markIntSS_x _ r0 _ _ _ _ Ig0_17.out (by omega) (by omega) HQ0.out (by omega) (by omega)).mono ?_
    rintro e w18 ⟨rfl, hmk, ho⟩
    have M0_new := Lib.hid hmk
    clear hmk
    have hX18 : Hid (Out (_) (_) w17 w18) := ho
    have hz18 : W.heap.size + 2 ≤ w18.heap.size ∧ w17.heap.size ≤ w18.heap.size := ⟨by have := hX18.out.below.size; omega, hX18.out.below.size⟩
    have HB18 : Hid (Below W.heap.size W w18) := HB17.out.trans (hX18.out.below.mono (by omega))
    have XaT_18 := Lib.hid (XaT_17.out.out hX18.out (by omega))
    clear XaT_17
    have XaF_18 := Lib.hid (XaF_17.out.out hX18.out (by omega))
    clear XaF_17
    have Iw0_18 := Lib.hid (Iw0_17.out.out hX18.out (by omega))
    clear Iw0_17
    have Xx0_18 := Lib.hid (Xx0_17.out.out hX18.out (by omega))
    clear Xx0_17
    have Xx1_18 := Lib.hid (Xx1_17.out.out hX18.out (by omega))
    clear Xx1_17
    clear Ig0_17
    clear ho
    have M0_18 := M0_new
    clear M0_new

    go_wp2_with fail
    go_at_call 45
    refine (heldIntSS_x _ r0 _ _ (M0_18.out) HQ0.out (by omega) (by omega)).mono ?_
    rintro e w19 ⟨rfl, hb⟩
    have hX19 : Hid (Below w18.heap.size w18 w19) := hb
    have hz19 : W.heap.size + 2 ≤ w19.heap.size ∧ w18.heap.size + 0 ≤ w19.heap.size := by have h1 := hb.size; (try simp at h1); omega
    have HB19 : Hid (Below W.heap.size W w19) := HB18.out.trans (hX19.out.mono (by omega))
    have XaT_19 := Lib.hid (XaT_18.out.keep hX19.out)
    clear XaT_18
    have XaF_19 := Lib.hid (XaF_18.out.keep hX19.out)
    clear XaF_18
    have Iw0_19 := Lib.hid (Iw0_18.out.later hX19.out)
    clear Iw0_18
    have Xx0_19 := Lib.hid (Xx0_18.out.keep hX19.out)
    clear Xx0_18
    have Xx1_19 := Lib.hid (Xx1_18.out.keep hX19.out)
    clear Xx1_18
    have M0_19 := Lib.hid (M0_18.out.later hX19.out)
    clear M0_18
    clear hb
    have hqq : ((1 : Int) + (totL r0 : Int) != 1 + (totL r0 : Int)) = false := by simp

    have c_aT0 : w19.cell? ⟨W.heap.size, 0, none⟩ = some (.slice u0_0 d0.net.stops.length u0_1) := XaT_19.out.1
    have c_aT1 : w19.cell? ⟨W.heap.size, 1, none⟩ = some (.slice u0_2 d0.net.lines.length u0_3) := XaT_19.out.2.1
    have c_aT2 : w19.cell? ⟨W.heap.size, 2, none⟩ = some (.slice u0_4 d0.trips.length u0_5) := XaT_19.out.2.2.1
    have c_aF0 : w19.cell? ⟨W.heap.size + 1, 0, none⟩ = some (.slice u1_0 d1.dead.length u1_1) := XaF_19.out.1
    have c_aF1 : w19.cell? ⟨W.heap.size + 1, 1, none⟩ = some (.int .i64 d1.turn) := XaF_19.out.2.1
    go_wp2_with fail
    go_region_held3 (fun w' => w'.cell? ⟨W.heap.size, 0, none⟩ = some (.slice u0_0 d0.net.stops.length u0_1) ∧ w'.cell? ⟨W.heap.size, 1, none⟩ = some (.slice u0_2 d0.net.lines.length u0_3) ∧ w'.cell? ⟨W.heap.size, 2, none⟩ = some (.slice u0_4 d0.trips.length u0_5) ∧ w'.cell? ⟨W.heap.size + 1, 0, none⟩ = some (.slice u1_0 d1.dead.length u1_1) ∧ w'.cell? ⟨W.heap.size + 1, 1, none⟩ = some (.int .i64 d1.turn) ∧ Below w19.heap.size w19 w')
      (first | (exact ⟨c_aT0, c_aT1, c_aT2, c_aF0, c_aF1, (Below.refl _ _).drew⟩) | (exact keep5 hb (by assumption)) | (exact keep5 hb0 (by assumption)) | (exact keep5 hb1 (by assumption)) | (exact keep5 hb2 (by assumption)))
      (first | (go_at_call_of 21 d0; refine (HT0.out _ ((((((((((((((((((hX2.out.trans (hX3.out.mono (by omega))).trans (hX4.out.mono (by omega))).trans (hX5.out.mono (by omega))).trans (hX6.out.mono (by omega))).trans (hX7.out.mono (by omega))).trans (hX8.out.mono (by omega))).trans (hX9.out.mono (by omega))).trans (hX10.out.mono (by omega))).trans (hX11.out.mono (by omega))).trans (hX12.out.mono (by omega))).trans (hX13.out.mono (by omega))).trans (hX14.out.below.mono (by omega))).trans (hX15.out.below.mono (by omega))).trans (hX16.out.below.mono (by omega))).trans (hX17.out.mono (by omega))).trans (hX18.out.below.mono (by omega))).trans (hX19.out.mono (by omega))).trans ((bel5 (by assumption)).mono (by omega)))).mono ?_; rintro e w' ⟨yh0_0, yh0_1, yh0_2, yh0_3, yh0_4, yh0_5, rfl, hown0, hb0⟩) | (go_at_call_of 15 d1; refine (HT1.out _ (((((((((((((((((hX3.out.trans (hX4.out.mono (by omega))).trans (hX5.out.mono (by omega))).trans (hX6.out.mono (by omega))).trans (hX7.out.mono (by omega))).trans (hX8.out.mono (by omega))).trans (hX9.out.mono (by omega))).trans (hX10.out.mono (by omega))).trans (hX11.out.mono (by omega))).trans (hX12.out.mono (by omega))).trans (hX13.out.mono (by omega))).trans (hX14.out.below.mono (by omega))).trans (hX15.out.below.mono (by omega))).trans (hX16.out.below.mono (by omega))).trans (hX17.out.mono (by omega))).trans (hX18.out.below.mono (by omega))).trans (hX19.out.mono (by omega))).trans ((bel5 (by assumption)).mono (by omega)))).mono ?_; rintro e w' ⟨yh1_0, yh1_1, rfl, hown1, hb1⟩) | (go_at_call_of 26 d2; refine (HT2.out _ ((((((((((((((((hX4.out.trans (hX5.out.mono (by omega))).trans (hX6.out.mono (by omega))).trans (hX7.out.mono (by omega))).trans (hX8.out.mono (by omega))).trans (hX9.out.mono (by omega))).trans (hX10.out.mono (by omega))).trans (hX11.out.mono (by omega))).trans (hX12.out.mono (by omega))).trans (hX13.out.mono (by omega))).trans (hX14.out.below.mono (by omega))).trans (hX15.out.below.mono (by omega))).trans (hX16.out.below.mono (by omega))).trans (hX17.out.mono (by omega))).trans (hX18.out.below.mono (by omega))).trans (hX19.out.mono (by omega))).trans ((bel5 (by assumption)).mono (by omega)))).mono ?_; rintro e w' ⟨yh2_0, yh2_1, rfl, hown2, hb2⟩) | (go_at_call 44; refine (HImpl.out _ _ _ _ (by first | exact hown0.at | exact hown0.at.below rfl hb1 | exact hown0.at.below rfl hb2 | exact (hown0.at.below rfl hb1).below rfl hb2 | exact (hown0.at.below rfl hb2).below rfl hb1) (by first | exact hown1.at | exact hown1.at.below rfl hb0 | exact hown1.at.below rfl hb2 | exact (hown1.at.below rfl hb0).below rfl hb2 | exact (hown1.at.below rfl hb2).below rfl hb0) (by first | exact hown2.at | exact hown2.at.below rfl hb0 | exact hown2.at.below rfl hb1 | exact (hown2.at.below rfl hb0).below rfl hb1 | exact (hown2.at.below rfl hb1).below rfl hb0)).mono ?_; rintro e w' ⟨zh0, rfl, hi0, hb⟩))
    all_goals
      have hS : w'.cell? ⟨W.heap.size, 0, none⟩ = some (.slice u0_0 d0.net.stops.length u0_1) ∧ w'.cell? ⟨W.heap.size, 1, none⟩ = some (.slice u0_2 d0.net.lines.length u0_3) ∧ w'.cell? ⟨W.heap.size, 2, none⟩ = some (.slice u0_4 d0.trips.length u0_5) ∧ w'.cell? ⟨W.heap.size + 1, 0, none⟩ = some (.slice u1_0 d1.dead.length u1_1) ∧ w'.cell? ⟨W.heap.size + 1, 1, none⟩ = some (.int .i64 d1.turn) ∧ Below w19.heap.size w19 w' := by assumption
      obtain ⟨h0_0, h0_1, rfl⟩ := IntSS_open hi0.at
      have Ih0_new := Lib.hid hi0
      clear hi0
      have Ih0_low := Lib.hid (Ih0_new.out.base (Nat.zero_le _) (Nat.le_refl _))
      clear Ih0_new
      clear hb hown0 hown1 hown2 hb0 hb1 hb2
      obtain ⟨_, _, _, _, _, hb⟩ := hS
      obtain ⟨w20, hww⟩ : ∃ q : World, q = w' := ⟨_, rfl⟩
      subst hww
      have hX20 : Hid (Below w19.heap.size w19 w20) := hb
      have hz20 : W.heap.size + 2 ≤ w20.heap.size ∧ w19.heap.size + 0 ≤ w20.heap.size := by have h1 := hb.size; (try simp at h1); omega
      have HB20 : Hid (Below W.heap.size W w20) := HB19.out.trans (hX20.out.mono (by omega))
      have XaT_20 := Lib.hid (XaT_19.out.keep hX20.out)
      clear XaT_19
      have XaF_20 := Lib.hid (XaF_19.out.keep hX20.out)
      clear XaF_19
      have Iw0_20 := Lib.hid (Iw0_19.out.later hX20.out)
      clear Iw0_19
      have Xx0_20 := Lib.hid (Xx0_19.out.keep hX20.out)
      clear Xx0_19
      have Xx1_20 := Lib.hid (Xx1_19.out.keep hX20.out)
      clear Xx1_19
      have M0_20 := Lib.hid (M0_19.out.later hX20.out)
      clear M0_19
      clear c_aT0 c_aT1 c_aT2 c_aF0 c_aF1
      clear hb
      have Ih0_20 := Ih0_low
      clear Ih0_low

      go_wp2_with fail
      go_at_call 28
      refine (eqIntSS_x _ _ r0 _ ((Ih0_20.out).at) ((Iw0_20.out).at) HQ0.out).mono ?_
      rintro e w21 ⟨rfl, hb⟩
      have hX21 : Hid (Below w20.heap.size w20 w21) := hb
      have hz21 : W.heap.size + 2 ≤ w21.heap.size ∧ w20.heap.size + 0 ≤ w21.heap.size := by have h1 := hb.size; (try simp at h1); omega
      have HB21 : Hid (Below W.heap.size W w21) := HB20.out.trans (hX21.out.mono (by omega))
      have XaT_21 := Lib.hid (XaT_20.out.keep hX21.out)
      clear XaT_20
      have XaF_21 := Lib.hid (XaF_20.out.keep hX21.out)
      clear XaF_20
      have Iw0_21 := Lib.hid (Iw0_20.out.later hX21.out)
      clear Iw0_20
      have Xx0_21 := Lib.hid (Xx0_20.out.keep hX21.out)
      clear Xx0_20
      have Xx1_21 := Lib.hid (Xx1_20.out.keep hX21.out)
      clear Xx1_20
      have M0_21 := Lib.hid (M0_20.out.later hX21.out)
      clear M0_20
      have Ih0_21 := Lib.hid (Ih0_20.out.later hX21.out)
      clear Ih0_20
      clear hb
      clear Ih0_21

      go_wp2_with fail
      go_at_call 45
      refine (heldIntSS_x _ r0 _ _ (M0_21.out) HQ0.out (by omega) (by omega)).mono ?_
      rintro e w22 ⟨rfl, hb⟩
      have hX22 : Hid (Below w21.heap.size w21 w22) := hb
      have hz22 : W.heap.size + 2 ≤ w22.heap.size ∧ w21.heap.size + 0 ≤ w22.heap.size := by have h1 := hb.size; (try simp at h1); omega
      have HB22 : Hid (Below W.heap.size W w22) := HB21.out.trans (hX22.out.mono (by omega))
      have XaT_22 := Lib.hid (XaT_21.out.keep hX22.out)
      clear XaT_21
      have XaF_22 := Lib.hid (XaF_21.out.keep hX22.out)
      clear XaF_21
      have Iw0_22 := Lib.hid (Iw0_21.out.later hX22.out)
      clear Iw0_21
      have Xx0_22 := Lib.hid (Xx0_21.out.keep hX22.out)
      clear Xx0_21
      have Xx1_22 := Lib.hid (Xx1_21.out.keep hX22.out)
      clear Xx1_21
      have M0_22 := Lib.hid (M0_21.out.later hX22.out)
      clear M0_21
      clear hb
      have hqq : ((1 : Int) + (totL r0 : Int) != 1 + (totL r0 : Int)) = false := by simp
      go_wp2_with fail
      go_ret
      exact ⟨rfl, HB22.out⟩
end Go.Proofs.Ytehpeifaknbcnaa.fnExactSwapTails
