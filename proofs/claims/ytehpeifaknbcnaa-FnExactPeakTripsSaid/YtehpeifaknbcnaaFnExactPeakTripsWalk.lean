import Derived.Test.YtehpeifaknbcnaaPeak
import Derived.Test.YtehpeifaknbcnaaTTX
namespace Go.Proofs.Ytehpeifaknbcnaa.fnExactPeakTrips
open Go.RowKit
set_option linter.unusedVariables false
set_option linter.unusedSimpArgs false

theorem keep6 {W w w' : World} {p0 p1 p2 p3 p4 p5 : Addr} {x0 x1 x2 x3 x4 x5 : Value} (hb : Below w.heap.size w w') (h : w.cell? p0 = some x0 ∧ w.cell? p1 = some x1 ∧ w.cell? p2 = some x2 ∧ w.cell? p3 = some x3 ∧ w.cell? p4 = some x4 ∧ w.cell? p5 = some x5 ∧ Below W.heap.size W w) : w'.cell? p0 = some x0 ∧ w'.cell? p1 = some x1 ∧ w'.cell? p2 = some x2 ∧ w'.cell? p3 = some x3 ∧ w'.cell? p4 = some x4 ∧ w'.cell? p5 = some x5 ∧ Below W.heap.size W w' := by
  obtain ⟨h0, h1, h2, h3, h4, h5, hl⟩ := h
  exact ⟨bkeep hb h0, bkeep hb h1, bkeep hb h2, bkeep hb h3, bkeep hb h4, bkeep hb h5, hl.trans (hb.mono hl.size)⟩
theorem bel6 {W w : World} {p0 p1 p2 p3 p4 p5 : Addr} {x0 x1 x2 x3 x4 x5 : Value} (h : w.cell? p0 = some x0 ∧ w.cell? p1 = some x1 ∧ w.cell? p2 = some x2 ∧ w.cell? p3 = some x3 ∧ w.cell? p4 = some x4 ∧ w.cell? p5 = some x5 ∧ Below W.heap.size W w) : Below W.heap.size W w := h.2.2.2.2.2.2

set_option maxRecDepth 100000 in
set_option maxHeartbeats 8000000 in
theorem walk (v0 : Value) (W : World) (S0 : ∃ d, TTAt W v0 d ∧ TTFits d) (hL : laidMetH Try.prog Rows.fnExactPeakTripsRow.laid W) (hsh : W.ShapedOpen Try.prog) :
    Calls Try.prog 6 #[v0] W fun e w' => e = .returned (.bool true) ∧ Below W.heap.size W w' := by
  clear hL hsh
  obtain ⟨d0, hr0, hf0⟩ := S0
  obtain ⟨u0_0, u0_1, u0_2, u0_3, u0_4, u0_5, rfl⟩ := Timetable_open hr0
  have A0_0 := Lib.hid hr0
  have HF0 := Lib.hid hf0
  clear hr0 hf0
  go_enter Try.func6, Try.ntmps6

  go_wp2_with fail
  go_at_call 19
  refine (szTimetable_x _ d0 _ _ ((A0_0.out).below rfl ((Below.refl _ _).alloc (by first | omega | (simp; omega) | simp) _)) HF0.out (by omega) (by omega)).mono ?_
  rintro e w1 ⟨⟨z0, rfl, hz⟩, hb⟩
  have hX1 : Hid (Below W.heap.size W w1) := ((Below.refl _ _).alloc (by first | omega | (simp; omega) | simp) _).trans (hb.mono (by first | omega | (simp; omega) | simp))
  have hz1 : W.heap.size + 1 ≤ w1.heap.size ∧ W.heap.size + 1 ≤ w1.heap.size := by have h1 := hb.size; (try simp at h1); omega
  have HB1 : Hid (Below W.heap.size W w1) := hX1
  have A0_1 := Lib.hid (A0_0.out.below rfl hX1.out)
  clear A0_0
  have n_0 : w1.cell? ⟨W.heap.size, 0, none⟩ = some (.slice u0_0 d0.net.stops.length u0_1) := bkeep hb (by go_simp)
  have n_1 : w1.cell? ⟨W.heap.size, 1, none⟩ = some (.slice u0_2 d0.net.lines.length u0_3) := bkeep hb (by go_simp)
  have n_2 : w1.cell? ⟨W.heap.size, 2, none⟩ = some (.slice u0_4 d0.trips.length u0_5) := bkeep hb (by go_simp)
  have XaT_1 : Hid (CellsF w1 (W.heap.size) 0 [(.slice u0_0 d0.net.stops.length u0_1), (.slice u0_2 d0.net.lines.length u0_3), (.slice u0_4 d0.trips.length u0_5)]) := ⟨n_0, n_1, n_2, trivial⟩
  clear n_0 n_1 n_2
  clear hb
  rcases hz with rfl | ⟨hz0, hz1, hsm⟩
  · go_wp2_with fail
    go_ret
    exact ⟨rfl, HB1.out⟩
  have HSm0 := Lib.hid hsm
  clear hsm
  have HT0 := Lib.hid (fun w (h : Below w1.heap.size w1 w) => toTimetable_x _ d0 w (A0_1.out.below rfl h) HSm0.out)
  obtain ⟨r0, r1, r2, hboth⟩ := bothPeakTrips d0 HF0.out HSm0.out
  have HSpec := Lib.hid (fun v0 w (h0 : TTAt w v0 d0) => (hboth v0 w h0).1)
  have HImpl := Lib.hid (fun v0 w (h0 : TTAt w v0 d0) => (hboth v0 w h0).2)
  clear hboth
  have hne0 : (r0 != r0) = false := by simp
  have hne1 : (r1 != r1) = false := by simp
  have hne2 : (r2 != r2) = false := by simp

  have c_aT0 : w1.cell? ⟨W.heap.size, 0, none⟩ = some (.slice u0_0 d0.net.stops.length u0_1) := XaT_1.out.1
  have c_aT1 : w1.cell? ⟨W.heap.size, 1, none⟩ = some (.slice u0_2 d0.net.lines.length u0_3) := XaT_1.out.2.1
  have c_aT2 : w1.cell? ⟨W.heap.size, 2, none⟩ = some (.slice u0_4 d0.trips.length u0_5) := XaT_1.out.2.2.1
  go_wp2_with fail
  go_at_call 21
  refine (HT0.out _ (Below.refl _ _)).mono ?_
  rintro e w2 ⟨yw0_0, yw0_1, yw0_2, yw0_3, yw0_4, yw0_5, rfl, hown, hb⟩
  have Iwt0_new := Lib.hid hown
  clear hown
  have hX2 : Hid (Below w1.heap.size w1 w2) := hb
  have hz2 : W.heap.size + 1 ≤ w2.heap.size ∧ w1.heap.size + 0 ≤ w2.heap.size := by have h1 := hb.size; (try simp at h1); omega
  have HB2 : Hid (Below W.heap.size W w2) := HB1.out.trans (hX2.out.mono (by omega))
  have A0_2 := Lib.hid (A0_1.out.below rfl hX2.out)
  clear A0_1
  have XaT_2 := Lib.hid (XaT_1.out.keep hX2.out)
  clear XaT_1
  clear c_aT0 c_aT1 c_aT2
  clear hb
  have T0_2 := Iwt0_new
  clear Iwt0_new
  go_wp2_with fail
  go_at_call 29
  refine (HSpec.out _ _ ((T0_2.out).at)).mono ?_
  rintro e w3 ⟨rfl, hb⟩
  have hX3 : Hid (Below w2.heap.size w2 w3) := hb
  have hz3 : W.heap.size + 1 ≤ w3.heap.size ∧ w2.heap.size + 0 ≤ w3.heap.size := by have h1 := hb.size; (try simp at h1); omega
  have HB3 : Hid (Below W.heap.size W w3) := HB2.out.trans (hX3.out.mono (by omega))
  have A0_3 := Lib.hid (A0_2.out.below rfl hX3.out)
  clear A0_2
  have XaT_3 := Lib.hid (XaT_2.out.keep hX3.out)
  clear XaT_2
  have T0_3 := Lib.hid (T0_2.out.later hX3.out)
  clear T0_2
  clear hb
  clear T0_3

  have c_aT0 : w3.cell? ⟨W.heap.size, 0, none⟩ = some (.slice u0_0 d0.net.stops.length u0_1) := XaT_3.out.1
  have c_aT1 : w3.cell? ⟨W.heap.size, 1, none⟩ = some (.slice u0_2 d0.net.lines.length u0_3) := XaT_3.out.2.1
  have c_aT2 : w3.cell? ⟨W.heap.size, 2, none⟩ = some (.slice u0_4 d0.trips.length u0_5) := XaT_3.out.2.2.1
  go_wp2_with fail
  go_at_call 21
  refine (HT0.out _ (hX2.out.trans (hX3.out.mono (by omega)))).mono ?_
  rintro e w4 ⟨x0_0, x0_1, x0_2, x0_3, x0_4, x0_5, rfl, hown, hb⟩
  have Ix0_new := Lib.hid hown
  clear hown
  have hX4 : Hid (Below w3.heap.size w3 w4) := hb
  have hz4 : W.heap.size + 1 ≤ w4.heap.size ∧ w3.heap.size + 0 ≤ w4.heap.size := by have h1 := hb.size; (try simp at h1); omega
  have HB4 : Hid (Below W.heap.size W w4) := HB3.out.trans (hX4.out.mono (by omega))
  have A0_4 := Lib.hid (A0_3.out.below rfl hX4.out)
  clear A0_3
  have XaT_4 := Lib.hid (XaT_3.out.keep hX4.out)
  clear XaT_3
  clear c_aT0 c_aT1 c_aT2
  clear hb
  have Ix0_4 := Ix0_new
  clear Ix0_new

  go_wp2_with fail
  go_at_call 30
  refine (HImpl.out _ _ (((Ix0_4.out).at).below rfl ((Below.refl _ _).alloc (by first | omega | (simp; omega) | simp) _))).mono ?_
  rintro e w5 ⟨rfl, hb⟩
  have hX5 : Hid (Below w4.heap.size w4 w5) := ((Below.refl _ _).alloc (by first | omega | (simp; omega) | simp) _).trans (hb.mono (by first | omega | (simp; omega) | simp))
  have hz5 : W.heap.size + 1 ≤ w5.heap.size ∧ w4.heap.size + 1 ≤ w5.heap.size := by have h1 := hb.size; (try simp at h1); omega
  have HB5 : Hid (Below W.heap.size W w5) := HB4.out.trans (hX5.out.mono (by omega))
  have A0_5 := Lib.hid (A0_4.out.below rfl hX5.out)
  clear A0_4
  have XaT_5 := Lib.hid (XaT_4.out.keep hX5.out)
  clear XaT_4
  have Ix0_5 := Lib.hid (Ix0_4.out.later hX5.out)
  clear Ix0_4
  have n_0 : w5.cell? ⟨w4.heap.size, 0, none⟩ = some (.slice x0_0 d0.net.stops.length x0_1) := bkeep hb (by go_simp)
  have n_1 : w5.cell? ⟨w4.heap.size, 1, none⟩ = some (.slice x0_2 d0.net.lines.length x0_3) := bkeep hb (by go_simp)
  have n_2 : w5.cell? ⟨w4.heap.size, 2, none⟩ = some (.slice x0_4 d0.trips.length x0_5) := bkeep hb (by go_simp)
  have Xx0_5 : Hid (CellsF w5 (w4.heap.size) 0 [(.slice x0_0 d0.net.stops.length x0_1), (.slice x0_2 d0.net.lines.length x0_3), (.slice x0_4 d0.trips.length x0_5)]) := ⟨n_0, n_1, n_2, trivial⟩
  clear n_0 n_1 n_2
  clear hb

  have c_x00 : w5.cell? ⟨w4.heap.size, 0, none⟩ = some (.slice x0_0 d0.net.stops.length x0_1) := Xx0_5.out.1
  have c_x01 : w5.cell? ⟨w4.heap.size, 1, none⟩ = some (.slice x0_2 d0.net.lines.length x0_3) := Xx0_5.out.2.1
  have c_x02 : w5.cell? ⟨w4.heap.size, 2, none⟩ = some (.slice x0_4 d0.trips.length x0_5) := Xx0_5.out.2.2.1
  have c_aT0 : w5.cell? ⟨W.heap.size, 0, none⟩ = some (.slice u0_0 d0.net.stops.length u0_1) := XaT_5.out.1
  have c_aT1 : w5.cell? ⟨W.heap.size, 1, none⟩ = some (.slice u0_2 d0.net.lines.length u0_3) := XaT_5.out.2.1
  have c_aT2 : w5.cell? ⟨W.heap.size, 2, none⟩ = some (.slice u0_4 d0.trips.length u0_5) := XaT_5.out.2.2.1
  go_wp2_with fail
  go_region_held3 (fun w' => w'.cell? ⟨w4.heap.size, 0, none⟩ = some (.slice x0_0 d0.net.stops.length x0_1) ∧ w'.cell? ⟨w4.heap.size, 1, none⟩ = some (.slice x0_2 d0.net.lines.length x0_3) ∧ w'.cell? ⟨w4.heap.size, 2, none⟩ = some (.slice x0_4 d0.trips.length x0_5) ∧ w'.cell? ⟨W.heap.size, 0, none⟩ = some (.slice u0_0 d0.net.stops.length u0_1) ∧ w'.cell? ⟨W.heap.size, 1, none⟩ = some (.slice u0_2 d0.net.lines.length u0_3) ∧ w'.cell? ⟨W.heap.size, 2, none⟩ = some (.slice u0_4 d0.trips.length u0_5) ∧ Below w5.heap.size w5 w')
    (first | (exact ⟨c_x00, c_x01, c_x02, c_aT0, c_aT1, c_aT2, (Below.refl _ _).drew⟩) | (exact keep6 hb (by assumption)))
    (first | (go_at_call 21; refine (HT0.out _ ((((hX2.out.trans (hX3.out.mono (by omega))).trans (hX4.out.mono (by omega))).trans (hX5.out.mono (by omega))).trans ((bel6 (by assumption)).mono (by omega)))).mono ?_; rintro e w' ⟨yy0_0, yy0_1, yy0_2, yy0_3, yy0_4, yy0_5, rfl, hown, hb⟩) | (go_at_call 23; refine (eqTimetable_x _ _ d0 _ (Ix0_5.out.at.below rfl (bel6 (by assumption))) hown.at HSm0.out).mono ?_; rintro e w' ⟨rfl, hb⟩))
  obtain ⟨_, _, _, _, _, _, hb⟩ := (by assumption : _ ∧ _)
  obtain ⟨w6, hww⟩ : ∃ q : World, q = w' := ⟨_, rfl⟩
  subst hww
  have hX6 : Hid (Below w5.heap.size w5 w6) := hb
  have hz6 : W.heap.size + 1 ≤ w6.heap.size ∧ w5.heap.size + 0 ≤ w6.heap.size := by have h1 := hb.size; (try simp at h1); omega
  have HB6 : Hid (Below W.heap.size W w6) := HB5.out.trans (hX6.out.mono (by omega))
  have A0_6 := Lib.hid (A0_5.out.below rfl hX6.out)
  clear A0_5
  have XaT_6 := Lib.hid (XaT_5.out.keep hX6.out)
  clear XaT_5
  have Ix0_6 := Lib.hid (Ix0_5.out.later hX6.out)
  clear Ix0_5
  have Xx0_6 := Lib.hid (Xx0_5.out.keep hX6.out)
  clear Xx0_5
  clear c_x00 c_x01 c_x02 c_aT0 c_aT1 c_aT2
  clear hb
  go_wp2_with fail
  go_ret
  exact ⟨rfl, HB6.out⟩
end Go.Proofs.Ytehpeifaknbcnaa.fnExactPeakTrips
