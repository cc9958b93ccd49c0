/-
  THE WALK of laws.FnExactParetoJourneys: for every argument the law returns true and nothing that was in memory turns.
-/
import Derived.Test.YtmcpafflnccfaaaParetoI
namespace Go.Proofs.Ytmcpafflnccfaaa.fnExactParetoJourneys
open Go.RowKit
set_option linter.unusedVariables false
set_option linter.unusedSimpArgs false

theorem keep6 {W w w' : World} {p0 p1 p2 p3 p4 p5 : Addr} {x0 x1 x2 x3 x4 x5 : Value} (hb : Below w.heap.size w w') (h : w.cell? p0 = some x0 ∧ w.cell? p1 = some x1 ∧ w.cell? p2 = some x2 ∧ w.cell? p3 = some x3 ∧ w.cell? p4 = some x4 ∧ w.cell? p5 = some x5 ∧ Below W.heap.size W w) : w'.cell? p0 = some x0 ∧ w'.cell? p1 = some x1 ∧ w'.cell? p2 = some x2 ∧ w'.cell? p3 = some x3 ∧ w'.cell? p4 = some x4 ∧ w'.cell? p5 = some x5 ∧ Below W.heap.size W w' := by
  obtain ⟨h0, h1, h2, h3, h4, h5, hl⟩ := h
  exact ⟨bkeep hb h0, bkeep hb h1, bkeep hb h2, bkeep hb h3, bkeep hb h4, bkeep hb h5, hl.trans (hb.mono hl.size)⟩
theorem bel6 {W w : World} {p0 p1 p2 p3 p4 p5 : Addr} {x0 x1 x2 x3 x4 x5 : Value} (h : w.cell? p0 = some x0 ∧ w.cell? p1 = some x1 ∧ w.cell? p2 = some x2 ∧ w.cell? p3 = some x3 ∧ w.cell? p4 = some x4 ∧ w.cell? p5 = some x5 ∧ Below W.heap.size W w) : Below W.heap.size W w := h.2.2.2.2.2.2

set_option maxRecDepth 100000 in
set_option maxHeartbeats 8000000 in
theorem walk (v0 : Value) (a1 : Int) (a2 : Int) (a3 : Int) (a4 : Int) (W : World) (S0 : ∃ d, TTAt W v0 d ∧ TTFits d) (w1 : (Lit.int .i64 a1).wf = true) (w2 : (Lit.int .i64 a2).wf = true) (w3 : (Lit.int .i64 a3).wf = true) (w4 : (Lit.int .i64 a4).wf = true) (hL : laidMetH Try.prog Rows.fnExactParetoJourneysRow.laid W) (hsh : W.ShapedOpen Try.prog) :
    Calls Try.prog 8 #[v0, .int .i64 a1, .int .i64 a2, .int .i64 a3, .int .i64 a4] W fun e w' => e = .returned (.bool true) ∧ Below W.heap.size W w' := by
  clear hL hsh
  obtain ⟨d0, hr0, hf0⟩ := S0
  obtain ⟨u0_0, u0_1, u0_2, u0_3, u0_4, u0_5, rfl⟩ := Timetable_open hr0
  have A0_0 := Lib.hid hr0
  have HF0 := Lib.hid hf0
  clear hr0 hf0
  have Hw1 := Lib.hid w1
  clear w1
  have Hw2 := Lib.hid w2
  clear w2
  have Hw3 := Lib.hid w3
  clear w3
  have Hw4 := Lib.hid w4
  clear w4
  go_enter Try.func8, Try.ntmps8
  -- left = szTimetable(aT, left)
  go_wp2_with fail
  go_at_call 11
  refine (szTimetable_x _ d0 _ _ ((A0_0.out).below rfl ((Below.refl _ _).alloc (by first | omega | (simp; omega) | simp) _)) HF0.out (by omega) (by omega)).mono ?_
  rintro e w1 ⟨⟨z0, rfl, hz⟩, hb⟩
  have hX1 : Hid (Below W.heap.size W w1) := ((Below.refl _ _).alloc (by first | omega | (simp; omega) | simp) _).trans (hb.mono (by first | omega | (simp; omega) | simp))
  have hz1 : W.heap.size + 1 ≤ w1.heap.size ∧ W.heap.size + 1 ≤ w1.heap.size := by have h1 := hb.size; (try simp at h1); omega
  have HB1 : Hid (Below W.heap.size W w1) := hX1
  have A0_1 := Lib.hid (A0_0.out.below rfl hX1.out)
  clear A0_0
  have n_0 : w1.cell? ⟨W.heap.size, 0, none⟩ = some (.slice u0_0 d0.net.stops.length u0_1) := bkeep hb (by go_simp)
  have n_1 : w1.cell? ⟨W.heap.size, 1, none⟩ = some (.slice u0_2 d0.net.lines.length u0_3) := bkeep hb (by go_simp)
  have n_2 : w1.cell? ⟨W.heap.size, 2, none⟩ = some (.slice u0_4 d0.trips.length u0_5) := bkeep hb (by go_simp)
  have XaT_1 : Hid (CellsF w1 (W.heap.size) 0 [(.slice u0_0 d0.net.stops.length u0_1), (.slice u0_2 d0.net.lines.length u0_3), (.slice u0_4 d0.trips.length u0_5)]) := ⟨n_0, n_1, n_2, trivial⟩
  clear n_0 n_1 n_2
  clear hb
  rcases hz with rfl | ⟨hz0, hz1, hsm⟩
  · go_wp2_with fail
    go_ret
    exact ⟨rfl, HB1.out⟩
  have HSm0 := Lib.hid hsm
  clear hsm
  have HT0 := Lib.hid (fun w (h : Below w1.heap.size w1 w) => toTimetable_x _ d0 w (A0_1.out.below rfl h) HSm0.out)
  obtain ⟨r0, r1, hq0, hboth⟩ := bothParetoJourneys d0 HF0.out HSm0.out a1 Hw1.out a2 Hw2.out a3 Hw3.out a4 Hw4.out
  have HQ0 := Lib.hid hq0
  clear hq0
  have HSpec := Lib.hid (fun v0 w (h0 : TTAt w v0 d0) => (hboth v0 w h0).1)
  have HImpl := Lib.hid (fun v0 w (h0 : TTAt w v0 d0) => (hboth v0 w h0).2)
  clear hboth
  have hne1 : (r1 != r1) = false := by simp
  -- w0, w1 := spec.ParetoJourneys(toTimetable(aT), aChange, aFrom, aTo, aAt)
  have c_aT0 : w1.cell? ⟨W.heap.size, 0, none⟩ = some (.slice u0_0 d0.net.stops.length u0_1) := XaT_1.out.1
  have c_aT1 : w1.cell? ⟨W.heap.size, 1, none⟩ = some (.slice u0_2 d0.net.lines.length u0_3) := XaT_1.out.2.1
  have c_aT2 : w1.cell? ⟨W.heap.size, 2, none⟩ = some (.slice u0_4 d0.trips.length u0_5) := XaT_1.out.2.2.1
  go_wp2_with fail
  go_at_call 13
  refine (HT0.out _ (Below.refl _ _)).mono ?_
  rintro e w2 ⟨yw0_0, yw0_1, yw0_2, yw0_3, yw0_4, yw0_5, rfl, hown, hb⟩
  have Iwt0_new := Lib.hid hown
  clear hown
  have hX2 : Hid (Below w1.heap.size w1 w2) := hb
  have hz2 : W.heap.size + 1 ≤ w2.heap.size ∧ w1.heap.size + 0 ≤ w2.heap.size := by have h1 := hb.size; (try simp at h1); omega
  have HB2 : Hid (Below W.heap.size W w2) := HB1.out.trans (hX2.out.mono (by omega))
  have A0_2 := Lib.hid (A0_1.out.below rfl hX2.out)
  clear A0_1
  have XaT_2 := Lib.hid (XaT_1.out.keep hX2.out)
  clear XaT_1
  clear c_aT0 c_aT1 c_aT2
  clear hb
  have T0_2 := Iwt0_new
  clear Iwt0_new
  go_wp2_with fail
  go_at_call 37
  refine (HSpec.out _ _ ((T0_2.out).at)).mono ?_
  rintro e w3 ⟨zw0, rfl, hi0, hb⟩
  obtain ⟨w0_0, w0_1, rfl⟩ := LegSS_open hi0.at
  have Iw0_new := Lib.hid hi0
  clear hi0
  have hX3 : Hid (Below w2.heap.size w2 w3) := hb
  have hz3 : W.heap.size + 1 ≤ w3.heap.size ∧ w2.heap.size + 0 ≤ w3.heap.size := by have h1 := hb.size; (try simp at h1); omega
  have HB3 : Hid (Below W.heap.size W w3) := HB2.out.trans (hX3.out.mono (by omega))
  have A0_3 := Lib.hid (A0_2.out.below rfl hX3.out)
  clear A0_2
  have XaT_3 := Lib.hid (XaT_2.out.keep hX3.out)
  clear XaT_2
  have T0_3 := Lib.hid (T0_2.out.later hX3.out)
  clear T0_2
  clear hb
  clear T0_3
  have Iw0_3 := Iw0_new
  clear Iw0_new
  -- x0 := toTimetable(aT)
  have c_aT0 : w3.cell? ⟨W.heap.size, 0, none⟩ = some (.slice u0_0 d0.net.stops.length u0_1) := XaT_3.out.1
  have c_aT1 : w3.cell? ⟨W.heap.size, 1, none⟩ = some (.slice u0_2 d0.net.lines.length u0_3) := XaT_3.out.2.1
  have c_aT2 : w3.cell? ⟨W.heap.size, 2, none⟩ = some (.slice u0_4 d0.trips.length u0_5) := XaT_3.out.2.2.1
  go_wp2_with fail
  go_at_call 13
  refine (HT0.out _ (hX2.out.trans (hX3.out.mono (by omega)))).mono ?_
  rintro e w4 ⟨x0_0, x0_1, x0_2, x0_3, x0_4, x0_5, rfl, hown, hb⟩
  have Ix0_new := Lib.hid hown
  clear hown
  have hX4 : Hid (Below w3.heap.size w3 w4) := hb
  have hz4 : W.heap.size + 1 ≤ w4.heap.size ∧ w3.heap.size + 0 ≤ w4.heap.size := by have h1 := hb.size; (try simp at h1); omega
  have HB4 : Hid (Below W.heap.size W w4) := HB3.out.trans (hX4.out.mono (by omega))
  have A0_4 := Lib.hid (A0_3.out.below rfl hX4.out)
  clear A0_3
  have XaT_4 := Lib.hid (XaT_3.out.keep hX4.out)
  clear XaT_3
  have Iw0_4 := Lib.hid (Iw0_3.out.later hX4.out)
  clear Iw0_3
  clear c_aT0 c_aT1 c_aT2
  clear hb
  have Ix0_4 := Ix0_new
  clear Ix0_new
  -- g0, g1 := impl.ParetoJourneys(x0, aChange, aFrom, aTo, aAt)
  go_wp2_with fail
  go_at_call 38
  refine (HImpl.out _ _ (((Ix0_4.out).at).below rfl ((Below.refl _ _).alloc (by first | omega | (simp; omega) | simp) _))).mono ?_
  rintro e w5 ⟨zg0, rfl, hi0, hb⟩
  simp only [World.size_alloc] at hi0
  obtain ⟨g0_0, g0_1, rfl⟩ := LegSS_open hi0.at
  have Ig0_new := Lib.hid hi0
  clear hi0
  have hX5 : Hid (Below w4.heap.size w4 w5) := ((Below.refl _ _).alloc (by first | omega | (simp; omega) | simp) _).trans (hb.mono (by first | omega | (simp; omega) | simp))
  have hz5 : W.heap.size + 1 ≤ w5.heap.size ∧ w4.heap.size + 1 ≤ w5.heap.size := by have h1 := hb.size; (try simp at h1); omega
  have HB5 : Hid (Below W.heap.size W w5) := HB4.out.trans (hX5.out.mono (by omega))
  have A0_5 := Lib.hid (A0_4.out.below rfl hX5.out)
  clear A0_4
  have XaT_5 := Lib.hid (XaT_4.out.keep hX5.out)
  clear XaT_4
  have Iw0_5 := Lib.hid (Iw0_4.out.later hX5.out)
  clear Iw0_4
  have Ix0_5 := Lib.hid (Ix0_4.out.later hX5.out)
  clear Ix0_4
  have n_0 : w5.cell? ⟨w4.heap.size, 0, none⟩ = some (.slice x0_0 d0.net.stops.length x0_1) := bkeep hb (by go_simp)
  have n_1 : w5.cell? ⟨w4.heap.size, 1, none⟩ = some (.slice x0_2 d0.net.lines.length x0_3) := bkeep hb (by go_simp)
  have n_2 : w5.cell? ⟨w4.heap.size, 2, none⟩ = some (.slice x0_4 d0.trips.length x0_5) := bkeep hb (by go_simp)
  have Xx0_5 : Hid (CellsF w5 (w4.heap.size) 0 [(.slice x0_0 d0.net.stops.length x0_1), (.slice x0_2 d0.net.lines.length x0_3), (.slice x0_4 d0.trips.length x0_5)]) := ⟨n_0, n_1, n_2, trivial⟩
  clear n_0 n_1 n_2
  clear hb
  have Ig0_5 := Ig0_new
  clear Ig0_new
  -- if !eqLegSS(g0, w0) || g1 != w1 {
  go_wp2_with fail
  go_at_call 39
  refine (eqLegSS_x _ _ r0 _ ((Ig0_5.out).at) ((Iw0_5.out).at) HQ0.out).mono ?_
  rintro e w6 ⟨rfl, hb⟩
  have hX6 : Hid (Below w5.heap.size w5 w6) := hb
  have hz6 : W.heap.size + 1 ≤ w6.heap.size ∧ w5.heap.size + 0 ≤ w6.heap.size := by have h1 := hb.size; (try simp at h1); omega
  have HB6 : Hid (Below W.heap.size W w6) := HB5.out.trans (hX6.out.mono (by omega))
  have A0_6 := Lib.hid (A0_5.out.below rfl hX6.out)
  clear A0_5
  have XaT_6 := Lib.hid (XaT_5.out.keep hX6.out)
  clear XaT_5
  have Iw0_6 := Lib.hid (Iw0_5.out.later hX6.out)
  clear Iw0_5
  have Ix0_6 := Lib.hid (Ix0_5.out.later hX6.out)
  clear Ix0_5
  have Xx0_6 := Lib.hid (Xx0_5.out.keep hX6.out)
  clear Xx0_5
  have Ig0_6 := Lib.hid (Ig0_5.out.later hX6.out)
  clear Ig0_5
  clear hb
  -- if !eqTimetable(x0, toTimetable(aT)) {
  have c_x00 : w6.cell? ⟨w4.heap.size, 0, none⟩ = some (.slice x0_0 d0.net.stops.length x0_1) := Xx0_6.out.1
  have c_x01 : w6.cell? ⟨w4.heap.size, 1, none⟩ = some (.slice x0_2 d0.net.lines.length x0_3) := Xx0_6.out.2.1
  have c_x02 : w6.cell? ⟨w4.heap.size, 2, none⟩ = some (.slice x0_4 d0.trips.length x0_5) := Xx0_6.out.2.2.1
  have c_aT0 : w6.cell? ⟨W.heap.size, 0, none⟩ = some (.slice u0_0 d0.net.stops.length u0_1) := XaT_6.out.1
  have c_aT1 : w6.cell? ⟨W.heap.size, 1, none⟩ = some (.slice u0_2 d0.net.lines.length u0_3) := XaT_6.out.2.1
  have c_aT2 : w6.cell? ⟨W.heap.size, 2, none⟩ = some (.slice u0_4 d0.trips.length u0_5) := XaT_6.out.2.2.1
  go_wp2_with fail
  go_region_held3 (fun w' => w'.cell? ⟨w4.heap.size, 0, none⟩ = some (.slice x0_0 d0.net.stops.length x0_1) ∧ w'.cell? ⟨w4.heap.size, 1, none⟩ = some (.slice x0_2 d0.net.lines.length x0_3) ∧ w'.cell? ⟨w4.heap.size, 2, none⟩ = some (.slice x0_4 d0.trips.length x0_5) ∧ w'.cell? ⟨W.heap.size, 0, none⟩ = some (.slice u0_0 d0.net.stops.length u0_1) ∧ w'.cell? ⟨W.heap.size, 1, none⟩ = some (.slice u0_2 d0.net.lines.length u0_3) ∧ w'.cell? ⟨W.heap.size, 2, none⟩ = some (.slice u0_4 d0.trips.length u0_5) ∧ Below w6.heap.size w6 w')
    (first | (exact ⟨c_x00, c_x01, c_x02, c_aT0, c_aT1, c_aT2, (Below.refl _ _).drew⟩) | (exact keep6 hb (by assumption)))
    (first | (go_at_call 13; refine (HT0.out _ (((((hX2.out.trans (hX3.out.mono (by omega))).trans (hX4.out.mono (by omega))).trans (hX5.out.mono (by omega))).trans (hX6.out.mono (by omega))).trans ((bel6 (by assumption)).mono (by omega)))).mono ?_; rintro e w' ⟨yy0_0, yy0_1, yy0_2, yy0_3, yy0_4, yy0_5, rfl, hown, hb⟩) | (go_at_call 16; refine (eqTimetable_x _ _ d0 _ (Ix0_6.out.at.below rfl (bel6 (by assumption))) hown.at HSm0.out).mono ?_; rintro e w' ⟨rfl, hb⟩))
  obtain ⟨_, _, _, _, _, _, hb⟩ := (by assumption : _ ∧ _)
  obtain ⟨w7, hww⟩ : ∃ q : World, q = w' := ⟨_, rfl⟩
  subst hww
  have hX7 : Hid (Below w6.heap.size w6 w7) := hb
  have hz7 : W.heap.size + 1 ≤ w7.heap.size ∧ w6.heap.size + 0 ≤ w7.heap.size := by have h1 := hb.size; (try simp at h1); omega
  have HB7 : Hid (Below W.heap.size W w7) := HB6.out.trans (hX7.out.mono (by omega))
  have A0_7 := Lib.hid (A0_6.out.below rfl hX7.out)
  clear A0_6
  have XaT_7 := Lib.hid (XaT_6.out.keep hX7.out)
  clear XaT_6
  have Iw0_7 := Lib.hid (Iw0_6.out.later hX7.out)
  clear Iw0_6
  have Ix0_7 := Lib.hid (Ix0_6.out.later hX7.out)
  clear Ix0_6
  have Xx0_7 := Lib.hid (Xx0_6.out.keep hX7.out)
  clear Xx0_6
  have Ig0_7 := Lib.hid (Ig0_6.out.later hX7.out)
  clear Ig0_6
  clear c_x00 c_x01 c_x02 c_aT0 c_aT1 c_aT2
  clear hb
  -- k = markTimetable(x0, k)
  have c_x00 : w7.cell? ⟨w4.heap.size, 0, none⟩ = some (.slice x0_0 d0.net.stops.length x0_1) := Xx0_7.out.1
  have c_x01 : w7.cell? ⟨w4.heap.size, 1, none⟩ = some (.slice x0_2 d0.net.lines.length x0_3) := Xx0_7.out.2.1
  have c_x02 : w7.cell? ⟨w4.heap.size, 2, none⟩ = some (.slice x0_4 d0.trips.length x0_5) := Xx0_7.out.2.2.1
  clear A0_7
  go_wp2_with fail
  have hsm0 := HSm0.out
  try unfold TTSmall at hsm0
  obtain ⟨hta0, htb0⟩ := netTot_le HSm0.out.1
  have htc0 := HSm0.out.2
  unfold TripsSmall at htc0
  go_at_call 17
  refine (markTimetable_x _ d0 _ _ _ _ Ix0_7.out (by omega) (by omega) HSm0.out (by omega) (by omega)).mono ?_
  rintro e w8 ⟨rfl, hmk, ho⟩
  clear hmk
  have hX8 : Hid (Out (_) (_) w7 w8) := ho
  have hz8 : W.heap.size + 1 ≤ w8.heap.size ∧ w7.heap.size ≤ w8.heap.size := ⟨by have := hX8.out.below.size; omega, hX8.out.below.size⟩
  have HB8 : Hid (Below W.heap.size W w8) := HB7.out.trans (hX8.out.below.mono (by omega))
  have XaT_8 := Lib.hid (XaT_7.out.out hX8.out (by omega))
  clear XaT_7
  have Iw0_8 := Lib.hid (Iw0_7.out.out hX8.out (by omega))
  clear Iw0_7
  clear Ix0_7
  have Xx0_8 := Lib.hid (Xx0_7.out.out hX8.out (by omega))
  clear Xx0_7
  have Ig0_8 := Lib.hid (Ig0_7.out.out hX8.out (by omega))
  clear Ig0_7
  clear c_x00 c_x01 c_x02
  clear ho
  -- if k < 0 || !eqLegSS(g0, w0) || g1 != w1 {
  go_wp2_with fail
  go_at_call 39
  refine (eqLegSS_x _ _ r0 _ ((Ig0_8.out).at) ((Iw0_8.out).at) HQ0.out).mono ?_
  rintro e w9 ⟨rfl, hb⟩
  have hX9 : Hid (Below w8.heap.size w8 w9) := hb
  have hz9 : W.heap.size + 1 ≤ w9.heap.size ∧ w8.heap.size + 0 ≤ w9.heap.size := by have h1 := hb.size; (try simp at h1); omega
  have HB9 : Hid (Below W.heap.size W w9) := HB8.out.trans (hX9.out.mono (by omega))
  have XaT_9 := Lib.hid (XaT_8.out.keep hX9.out)
  clear XaT_8
  have Iw0_9 := Lib.hid (Iw0_8.out.later hX9.out)
  clear Iw0_8
  have Xx0_9 := Lib.hid (Xx0_8.out.keep hX9.out)
  clear Xx0_8
  have Ig0_9 := Lib.hid (Ig0_8.out.later hX9.out)
  clear Ig0_8
  clear hb
  -- m = markLegSS(g0, m)
  go_wp2_with fail
  have hsq0 := HQ0.out
  try unfold LGrpsSmall at hsq0
  go_at_call 40
  refine (markLegSS_x _ r0 _ _ _ _ Ig0_9.out (by omega) (by omega) HQ0.out (by omega) (by omega)).mono ?_
  rintro e w10 ⟨rfl, hmk, ho⟩
  have M0_new := Lib.hid hmk
  clear hmk
  have hX10 : Hid (Out (_) (_) w9 w10) := ho
  have hz10 : W.heap.size + 1 ≤ w10.heap.size ∧ w9.heap.size ≤ w10.heap.size := ⟨by have := hX10.out.below.size; omega, hX10.out.below.size⟩
  have HB10 : Hid (Below W.heap.size W w10) := HB9.out.trans (hX10.out.below.mono (by omega))
  have XaT_10 := Lib.hid (XaT_9.out.out hX10.out (by omega))
  clear XaT_9
  have Iw0_10 := Lib.hid (Iw0_9.out.out hX10.out (by omega))
  clear Iw0_9
  have Xx0_10 := Lib.hid (Xx0_9.out.out hX10.out (by omega))
  clear Xx0_9
  clear Ig0_9
  clear ho
  have M0_10 := M0_new
  clear M0_new
  -- q = heldLegSS(g0, q)
  go_wp2_with fail
  go_at_call 41
  refine (heldLegSS_x _ r0 _ _ (M0_10.out) HQ0.out (by omega) (by omega)).mono ?_
  rintro e w11 ⟨rfl, hb⟩
  have hX11 : Hid (Below w10.heap.size w10 w11) := hb
  have hz11 : W.heap.size + 1 ≤ w11.heap.size ∧ w10.heap.size + 0 ≤ w11.heap.size := by have h1 := hb.size; (try simp at h1); omega
  have HB11 : Hid (Below W.heap.size W w11) := HB10.out.trans (hX11.out.mono (by omega))
  have XaT_11 := Lib.hid (XaT_10.out.keep hX11.out)
  clear XaT_10
  have Iw0_11 := Lib.hid (Iw0_10.out.later hX11.out)
  clear Iw0_10
  have Xx0_11 := Lib.hid (Xx0_10.out.keep hX11.out)
  clear Xx0_10
  have M0_11 := Lib.hid (M0_10.out.later hX11.out)
  clear M0_10
  clear hb
  have hqq : ((1 : Int) + (totG r0 : Int) != 1 + (totG r0 : Int)) = false := by simp
  -- h0, h1 := impl.ParetoJourneys(toTimetable(aT), aChange, aFrom, aTo, aAt)
  have c_aT0 : w11.cell? ⟨W.heap.size, 0, none⟩ = some (.slice u0_0 d0.net.stops.length u0_1) := XaT_11.out.1
  have c_aT1 : w11.cell? ⟨W.heap.size, 1, none⟩ = some (.slice u0_2 d0.net.lines.length u0_3) := XaT_11.out.2.1
  have c_aT2 : w11.cell? ⟨W.heap.size, 2, none⟩ = some (.slice u0_4 d0.trips.length u0_5) := XaT_11.out.2.2.1
  go_wp2_with fail
  go_at_call 13
  refine (HT0.out _ (((((((((hX2.out.trans (hX3.out.mono (by omega))).trans (hX4.out.mono (by omega))).trans (hX5.out.mono (by omega))).trans (hX6.out.mono (by omega))).trans (hX7.out.mono (by omega))).trans (hX8.out.below.mono (by omega))).trans (hX9.out.mono (by omega))).trans (hX10.out.below.mono (by omega))).trans (hX11.out.mono (by omega)))).mono ?_
  rintro e w12 ⟨yh0_0, yh0_1, yh0_2, yh0_3, yh0_4, yh0_5, rfl, hown, hb⟩
  have Iht0_new := Lib.hid hown
  clear hown
  have hX12 : Hid (Below w11.heap.size w11 w12) := hb
  have hz12 : W.heap.size + 1 ≤ w12.heap.size ∧ w11.heap.size + 0 ≤ w12.heap.size := by have h1 := hb.size; (try simp at h1); omega
  have HB12 : Hid (Below W.heap.size W w12) := HB11.out.trans (hX12.out.mono (by omega))
  have XaT_12 := Lib.hid (XaT_11.out.keep hX12.out)
  clear XaT_11
  have Iw0_12 := Lib.hid (Iw0_11.out.later hX12.out)
  clear Iw0_11
  have Xx0_12 := Lib.hid (Xx0_11.out.keep hX12.out)
  clear Xx0_11
  have M0_12 := Lib.hid (M0_11.out.later hX12.out)
  clear M0_11
  clear c_aT0 c_aT1 c_aT2
  clear hb
  have T0_12 := Iht0_new
  clear Iht0_new
  go_wp2_with fail
  go_at_call 38
  refine (HImpl.out _ _ ((T0_12.out).at)).mono ?_
  rintro e w13 ⟨zh0, rfl, hi0, hb⟩
  obtain ⟨h0_0, h0_1, rfl⟩ := LegSS_open hi0.at
  have Ih0_new := Lib.hid hi0
  clear hi0
  have hX13 : Hid (Below w12.heap.size w12 w13) := hb
  have hz13 : W.heap.size + 1 ≤ w13.heap.size ∧ w12.heap.size + 0 ≤ w13.heap.size := by have h1 := hb.size; (try simp at h1); omega
  have HB13 : Hid (Below W.heap.size W w13) := HB12.out.trans (hX13.out.mono (by omega))
  have XaT_13 := Lib.hid (XaT_12.out.keep hX13.out)
  clear XaT_12
  have Iw0_13 := Lib.hid (Iw0_12.out.later hX13.out)
  clear Iw0_12
  have Xx0_13 := Lib.hid (Xx0_12.out.keep hX13.out)
  clear Xx0_12
  have M0_13 := Lib.hid (M0_12.out.later hX13.out)
  clear M0_12
  have T0_13 := Lib.hid (T0_12.out.later hX13.out)
  clear T0_12
  clear hb
  clear T0_13
  have Ih0_13 := Ih0_new
  clear Ih0_new
  -- if !eqLegSS(h0, w0) || h1 != w1 {
  go_wp2_with fail
  go_at_call 39
  refine (eqLegSS_x _ _ r0 _ ((Ih0_13.out).at) ((Iw0_13.out).at) HQ0.out).mono ?_
  rintro e w14 ⟨rfl, hb⟩
  have hX14 : Hid (Below w13.heap.size w13 w14) := hb
  have hz14 : W.heap.size + 1 ≤ w14.heap.size ∧ w13.heap.size + 0 ≤ w14.heap.size := by have h1 := hb.size; (try simp at h1); omega
  have HB14 : Hid (Below W.heap.size W w14) := HB13.out.trans (hX14.out.mono (by omega))
  have XaT_14 := Lib.hid (XaT_13.out.keep hX14.out)
  clear XaT_13
  have Iw0_14 := Lib.hid (Iw0_13.out.later hX14.out)
  clear Iw0_13
  have Xx0_14 := Lib.hid (Xx0_13.out.keep hX14.out)
  clear Xx0_13
  have M0_14 := Lib.hid (M0_13.out.later hX14.out)
  clear M0_13
  have Ih0_14 := Lib.hid (Ih0_13.out.later hX14.out)
  clear Ih0_13
  clear hb
  clear Ih0_14
  -- q = heldLegSS(g0, q)
  go_wp2_with fail
  go_at_call 41
  refine (heldLegSS_x _ r0 _ _ (M0_14.out) HQ0.out (by omega) (by omega)).mono ?_
  rintro e w15 ⟨rfl, hb⟩
  have hX15 : Hid (Below w14.heap.size w14 w15) := hb
  have hz15 : W.heap.size + 1 ≤ w15.heap.size ∧ w14.heap.size + 0 ≤ w15.heap.size := by have h1 := hb.size; (try simp at h1); omega
  have HB15 : Hid (Below W.heap.size W w15) := HB14.out.trans (hX15.out.mono (by omega))
  have XaT_15 := Lib.hid (XaT_14.out.keep hX15.out)
  clear XaT_14
  have Iw0_15 := Lib.hid (Iw0_14.out.later hX15.out)
  clear Iw0_14
  have Xx0_15 := Lib.hid (Xx0_14.out.keep hX15.out)
  clear Xx0_14
  have M0_15 := Lib.hid (M0_14.out.later hX15.out)
  clear M0_14
  clear hb
  have hqq : ((1 : Int) + (totG r0 : Int) != 1 + (totG r0 : Int)) = false := by simp
  go_wp2_with fail
  go_ret
  exact ⟨rfl, HB15.out⟩
end Go.Proofs.Ytmcpafflnccfaaa.fnExactParetoJourneys
