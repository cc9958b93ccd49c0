/-
  THE WALK of laws.FnExactCommonDays: for every argument the law returns true and nothing that was in memory turns.
-/
import Derived.Test.YtbbcjponeiphaaaCommonDays
import Derived.Test.YtbbcjponeiphaaaCalMark
namespace Go.Proofs.Ytbbcjponeiphaaa.fnExactCommonDays
open Go.RowKit
set_option linter.unusedVariables false
set_option linter.unusedSimpArgs false

theorem keep10 {W w w' : World} {p0 p1 p2 p3 p4 p5 p6 p7 p8 p9 : Addr} {x0 x1 x2 x3 x4 x5 x6 x7 x8 x9 : Value} (hb : Below w.heap.size w w') (h : w.cell? p0 = some x0 ∧ w.cell? p1 = some x1 ∧ w.cell? p2 = some x2 ∧ w.cell? p3 = some x3 ∧ w.cell? p4 = some x4 ∧ w.cell? p5 = some x5 ∧ w.cell? p6 = some x6 ∧ w.cell? p7 = some x7 ∧ w.cell? p8 = some x8 ∧ w.cell? p9 = some x9 ∧ Below W.heap.size W w) : w'.cell? p0 = some x0 ∧ w'.cell? p1 = some x1 ∧ w'.cell? p2 = some x2 ∧ w'.cell? p3 = some x3 ∧ w'.cell? p4 = some x4 ∧ w'.cell? p5 = some x5 ∧ w'.cell? p6 = some x6 ∧ w'.cell? p7 = some x7 ∧ w'.cell? p8 = some x8 ∧ w'.cell? p9 = some x9 ∧ Below W.heap.size W w' := by
  obtain ⟨h0, h1, h2, h3, h4, h5, h6, h7, h8, h9, hl⟩ := h
  exact ⟨bkeep hb h0, bkeep hb h1, bkeep hb h2, bkeep hb h3, bkeep hb h4, bkeep hb h5, bkeep hb h6, bkeep hb h7, bkeep hb h8, bkeep hb h9, hl.trans (hb.mono hl.size)⟩
theorem bel10 {W w : World} {p0 p1 p2 p3 p4 p5 p6 p7 p8 p9 : Addr} {x0 x1 x2 x3 x4 x5 x6 x7 x8 x9 : Value} (h : w.cell? p0 = some x0 ∧ w.cell? p1 = some x1 ∧ w.cell? p2 = some x2 ∧ w.cell? p3 = some x3 ∧ w.cell? p4 = some x4 ∧ w.cell? p5 = some x5 ∧ w.cell? p6 = some x6 ∧ w.cell? p7 = some x7 ∧ w.cell? p8 = some x8 ∧ w.cell? p9 = some x9 ∧ Below W.heap.size W w) : Below W.heap.size W w := h.2.2.2.2.2.2.2.2.2.2

set_option maxRecDepth 100000 in
set_option maxHeartbeats 8000000 in
theorem walk (v0 : Value) (v1 : Value) (W : World) (S0 : ∃ d, CalAt W v0 d ∧ CalFits d) (S1 : ∃ d, CalAt W v1 d ∧ CalFits d) (hL : laidMetH Try.prog Rows.fnExactCommonDaysRow.laid W) (hsh : W.ShapedOpen Try.prog) :
    Calls Try.prog 8 #[v0, v1] W fun e w' => e = .returned (.bool true) ∧ Below W.heap.size W w' := by
  clear hL hsh
  obtain ⟨d0, hr0, hf0⟩ := S0
  obtain ⟨u0_0, u0_1, u0_2, u0_3, rfl⟩ := Calendar_open hr0
  have A0_0 := Lib.hid hr0
  have HF0 := Lib.hid hf0
  clear hr0 hf0
  obtain ⟨d1, hr1, hf1⟩ := S1
  obtain ⟨u1_0, u1_1, u1_2, u1_3, rfl⟩ := Calendar_open hr1
  have A1_0 := Lib.hid hr1
  have HF1 := Lib.hid hf1
  clear hr1 hf1
  go_enter Try.func8, Try.ntmps8
  -- left = szCalendar(aA, left)
  go_wp2_with fail
  go_at_call 18
  refine (szCalendar_x _ d0 _ _ ((A0_0.out).below rfl (((Below.refl _ _).alloc (by first | omega | (simp; omega) | simp) _).alloc (by first | omega | (simp; omega) | simp) _)) HF0.out (by omega) (by omega)).mono ?_
  rintro e w1 ⟨⟨z0, rfl, hz⟩, hb⟩
  have hX1 : Hid (Below W.heap.size W w1) := (((Below.refl _ _).alloc (by first | omega | (simp; omega) | simp) _).alloc (by first | omega | (simp; omega) | simp) _).trans (hb.mono (by first | omega | (simp; omega) | simp))
  have hz1 : W.heap.size + 2 ≤ w1.heap.size ∧ W.heap.size + 2 ≤ w1.heap.size := by have h1 := hb.size; (try simp at h1); omega
  have HB1 : Hid (Below W.heap.size W w1) := hX1
  have A0_1 := Lib.hid (A0_0.out.below rfl hX1.out)
  clear A0_0
  have A1_1 := Lib.hid (A1_0.out.below rfl hX1.out)
  clear A1_0
  have n_0 : w1.cell? ⟨W.heap.size, 0, none⟩ = some (.int .i64 d0.frm) := bkeep hb (by go_simp)
  have n_1 : w1.cell? ⟨W.heap.size, 1, none⟩ = some (.int .i64 d0.too) := bkeep hb (by go_simp)
  have n_2 : w1.cell? ⟨W.heap.size, 2, none⟩ = some (.int .i64 d0.wd) := bkeep hb (by go_simp)
  have n_3 : w1.cell? ⟨W.heap.size, 3, none⟩ = some (.slice u0_0 d0.added.length u0_1) := bkeep hb (by go_simp)
  have n_4 : w1.cell? ⟨W.heap.size, 4, none⟩ = some (.slice u0_2 d0.removed.length u0_3) := bkeep hb (by go_simp)
  have XaA_1 : Hid (CellsF w1 (W.heap.size) 0 [(.int .i64 d0.frm), (.int .i64 d0.too), (.int .i64 d0.wd), (.slice u0_0 d0.added.length u0_1), (.slice u0_2 d0.removed.length u0_3)]) := ⟨n_0, n_1, n_2, n_3, n_4, trivial⟩
  clear n_0 n_1 n_2 n_3 n_4
  have n_0 : w1.cell? ⟨W.heap.size + 1, 0, none⟩ = some (.int .i64 d1.frm) := bkeep hb (by go_simp)
  have n_1 : w1.cell? ⟨W.heap.size + 1, 1, none⟩ = some (.int .i64 d1.too) := bkeep hb (by go_simp)
  have n_2 : w1.cell? ⟨W.heap.size + 1, 2, none⟩ = some (.int .i64 d1.wd) := bkeep hb (by go_simp)
  have n_3 : w1.cell? ⟨W.heap.size + 1, 3, none⟩ = some (.slice u1_0 d1.added.length u1_1) := bkeep hb (by go_simp)
  have n_4 : w1.cell? ⟨W.heap.size + 1, 4, none⟩ = some (.slice u1_2 d1.removed.length u1_3) := bkeep hb (by go_simp)
  have XaB_1 : Hid (CellsF w1 (W.heap.size + 1) 0 [(.int .i64 d1.frm), (.int .i64 d1.too), (.int .i64 d1.wd), (.slice u1_0 d1.added.length u1_1), (.slice u1_2 d1.removed.length u1_3)]) := ⟨n_0, n_1, n_2, n_3, n_4, trivial⟩
  clear n_0 n_1 n_2 n_3 n_4
  clear hb
  rcases hz with rfl | ⟨hz0, hz1, hsm⟩
  · go_wp2_with fail
    go_ret
    exact ⟨rfl, HB1.out⟩
  have HSm0 := Lib.hid hsm
  clear hsm
  have HT0 := Lib.hid (fun w (h : Below w1.heap.size w1 w) => toCalendar_x _ d0 w (A0_1.out.below rfl h) HSm0.out)
  -- left = szCalendar(aB, left)
  have c_aB0 : w1.cell? ⟨W.heap.size + 1, 0, none⟩ = some (.int .i64 d1.frm) := XaB_1.out.1
  have c_aB1 : w1.cell? ⟨W.heap.size + 1, 1, none⟩ = some (.int .i64 d1.too) := XaB_1.out.2.1
  have c_aB2 : w1.cell? ⟨W.heap.size + 1, 2, none⟩ = some (.int .i64 d1.wd) := XaB_1.out.2.2.1
  have c_aB3 : w1.cell? ⟨W.heap.size + 1, 3, none⟩ = some (.slice u1_0 d1.added.length u1_1) := XaB_1.out.2.2.2.1
  have c_aB4 : w1.cell? ⟨W.heap.size + 1, 4, none⟩ = some (.slice u1_2 d1.removed.length u1_3) := XaB_1.out.2.2.2.2.1
  go_wp2_with fail
  go_at_call 18
  refine (szCalendar_x _ d1 _ _ (A1_1.out) HF1.out (by omega) (by omega)).mono ?_
  rintro e w2 ⟨⟨z1, rfl, hz⟩, hb⟩
  have hX2 : Hid (Below w1.heap.size w1 w2) := hb
  have hz2 : W.heap.size + 2 ≤ w2.heap.size ∧ w1.heap.size + 0 ≤ w2.heap.size := by have h1 := hb.size; (try simp at h1); omega
  have HB2 : Hid (Below W.heap.size W w2) := HB1.out.trans (hX2.out.mono (by omega))
  have A0_2 := Lib.hid (A0_1.out.below rfl hX2.out)
  clear A0_1
  have A1_2 := Lib.hid (A1_1.out.below rfl hX2.out)
  clear A1_1
  have XaA_2 := Lib.hid (XaA_1.out.keep hX2.out)
  clear XaA_1
  have XaB_2 := Lib.hid (XaB_1.out.keep hX2.out)
  clear XaB_1
  clear c_aB0 c_aB1 c_aB2 c_aB3 c_aB4
  clear hb
  rcases hz with rfl | ⟨hz0, hz1, hsm⟩
  · go_wp2_with fail
    go_ret
    exact ⟨rfl, HB2.out⟩
  have HSm1 := Lib.hid hsm
  clear hsm
  have HT1 := Lib.hid (fun w (h : Below w2.heap.size w2 w) => toCalendar_x _ d1 w (A1_2.out.below rfl h) HSm1.out)
  obtain ⟨r0, r1, hq0, hboth⟩ := bothCommonDays d0 HF0.out HSm0.out d1 HF1.out HSm1.out
  have HQ0 := Lib.hid hq0
  clear hq0
  have HSpec := Lib.hid (fun v0 v1 w (h0 : CalAt w v0 d0) (h1 : CalAt w v1 d1) => (hboth v0 v1 w h0 h1).1)
  have HImpl := Lib.hid (fun v0 v1 w (h0 : CalAt w v0 d0) (h1 : CalAt w v1 d1) => (hboth v0 v1 w h0 h1).2)
  clear hboth
  have hne1 : (r1 != r1) = false := by simp
  -- w0, w1 := spec.CommonDays(toCalendar(aA), toCalendar(aB))
  have c_aA0 : w2.cell? ⟨W.heap.size, 0, none⟩ = some (.int .i64 d0.frm) := XaA_2.out.1
  have c_aA1 : w2.cell? ⟨W.heap.size, 1, none⟩ = some (.int .i64 d0.too) := XaA_2.out.2.1
  have c_aA2 : w2.cell? ⟨W.heap.size, 2, none⟩ = some (.int .i64 d0.wd) := XaA_2.out.2.2.1
  have c_aA3 : w2.cell? ⟨W.heap.size, 3, none⟩ = some (.slice u0_0 d0.added.length u0_1) := XaA_2.out.2.2.2.1
  have c_aA4 : w2.cell? ⟨W.heap.size, 4, none⟩ = some (.slice u0_2 d0.removed.length u0_3) := XaA_2.out.2.2.2.2.1
  have c_aB0 : w2.cell? ⟨W.heap.size + 1, 0, none⟩ = some (.int .i64 d1.frm) := XaB_2.out.1
  have c_aB1 : w2.cell? ⟨W.heap.size + 1, 1, none⟩ = some (.int .i64 d1.too) := XaB_2.out.2.1
  have c_aB2 : w2.cell? ⟨W.heap.size + 1, 2, none⟩ = some (.int .i64 d1.wd) := XaB_2.out.2.2.1
  have c_aB3 : w2.cell? ⟨W.heap.size + 1, 3, none⟩ = some (.slice u1_0 d1.added.length u1_1) := XaB_2.out.2.2.2.1
  have c_aB4 : w2.cell? ⟨W.heap.size + 1, 4, none⟩ = some (.slice u1_2 d1.removed.length u1_3) := XaB_2.out.2.2.2.2.1
  go_wp2_with fail
  go_region_held3 (fun w' => w'.cell? ⟨W.heap.size, 0, none⟩ = some (.int .i64 d0.frm) ∧ w'.cell? ⟨W.heap.size, 1, none⟩ = some (.int .i64 d0.too) ∧ w'.cell? ⟨W.heap.size, 2, none⟩ = some (.int .i64 d0.wd) ∧ w'.cell? ⟨W.heap.size, 3, none⟩ = some (.slice u0_0 d0.added.length u0_1) ∧ w'.cell? ⟨W.heap.size, 4, none⟩ = some (.slice u0_2 d0.removed.length u0_3) ∧ w'.cell? ⟨W.heap.size + 1, 0, none⟩ = some (.int .i64 d1.frm) ∧ w'.cell? ⟨W.heap.size + 1, 1, none⟩ = some (.int .i64 d1.too) ∧ w'.cell? ⟨W.heap.size + 1, 2, none⟩ = some (.int .i64 d1.wd) ∧ w'.cell? ⟨W.heap.size + 1, 3, none⟩ = some (.slice u1_0 d1.added.length u1_1) ∧ w'.cell? ⟨W.heap.size + 1, 4, none⟩ = some (.slice u1_2 d1.removed.length u1_3) ∧ Below w2.heap.size w2 w')
    (first | (exact ⟨c_aA0, c_aA1, c_aA2, c_aA3, c_aA4, c_aB0, c_aB1, c_aB2, c_aB3, c_aB4, (Below.refl _ _).drew⟩) | (exact keep10 hb (by assumption)) | (exact keep10 hb0 (by assumption)) | (exact keep10 hb1 (by assumption)))
    (first | (go_at_call_of 20 d0; refine (HT0.out _ (hX2.out.trans ((bel10 (by assumption)).mono (by omega)))).mono ?_; rintro e w' ⟨yw0_0, yw0_1, yw0_2, yw0_3, rfl, hown0, hb0⟩) | (go_at_call_of 20 d1; refine (HT1.out _ ((Below.refl _ _).trans ((bel10 (by assumption)).mono (by omega)))).mono ?_; rintro e w' ⟨yw1_0, yw1_1, yw1_2, yw1_3, rfl, hown1, hb1⟩) | (go_at_call 33; refine (HSpec.out _ _ _ (by first | exact hown0.at | exact hown0.at.below rfl hb1) (by first | exact hown1.at | exact hown1.at.below rfl hb0)).mono ?_; rintro e w' ⟨zw0, rfl, hi0, hb⟩))
  all_goals
    have hS : w'.cell? ⟨W.heap.size, 0, none⟩ = some (.int .i64 d0.frm) ∧ w'.cell? ⟨W.heap.size, 1, none⟩ = some (.int .i64 d0.too) ∧ w'.cell? ⟨W.heap.size, 2, none⟩ = some (.int .i64 d0.wd) ∧ w'.cell? ⟨W.heap.size, 3, none⟩ = some (.slice u0_0 d0.added.length u0_1) ∧ w'.cell? ⟨W.heap.size, 4, none⟩ = some (.slice u0_2 d0.removed.length u0_3) ∧ w'.cell? ⟨W.heap.size + 1, 0, none⟩ = some (.int .i64 d1.frm) ∧ w'.cell? ⟨W.heap.size + 1, 1, none⟩ = some (.int .i64 d1.too) ∧ w'.cell? ⟨W.heap.size + 1, 2, none⟩ = some (.int .i64 d1.wd) ∧ w'.cell? ⟨W.heap.size + 1, 3, none⟩ = some (.slice u1_0 d1.added.length u1_1) ∧ w'.cell? ⟨W.heap.size + 1, 4, none⟩ = some (.slice u1_2 d1.removed.length u1_3) ∧ Below w2.heap.size w2 w' := by assumption
    obtain ⟨w0_0, w0_1, rfl⟩ := IntS_open hi0.at
    have Iw0_new := Lib.hid hi0
    clear hi0
    have Iw0_low := Lib.hid (Iw0_new.out.base (Nat.zero_le _) (Nat.le_refl _))
    clear Iw0_new
    clear hb hown0 hown1 hb0 hb1
    obtain ⟨_, _, _, _, _, _, _, _, _, _, hb⟩ := hS
    obtain ⟨w3, hww⟩ : ∃ q : World, q = w' := ⟨_, rfl⟩
    subst hww
    have hX3 : Hid (Below w2.heap.size w2 w3) := hb
    have hz3 : W.heap.size + 2 ≤ w3.heap.size ∧ w2.heap.size + 0 ≤ w3.heap.size := by have h1 := hb.size; (try simp at h1); omega
    have HB3 : Hid (Below W.heap.size W w3) := HB2.out.trans (hX3.out.mono (by omega))
    have A0_3 := Lib.hid (A0_2.out.below rfl hX3.out)
    clear A0_2
    have A1_3 := Lib.hid (A1_2.out.below rfl hX3.out)
    clear A1_2
    have XaA_3 := Lib.hid (XaA_2.out.keep hX3.out)
    clear XaA_2
    have XaB_3 := Lib.hid (XaB_2.out.keep hX3.out)
    clear XaB_2
    clear c_aA0 c_aA1 c_aA2 c_aA3 c_aA4 c_aB0 c_aB1 c_aB2 c_aB3 c_aB4
    clear hb
    have Iw0_3 := Iw0_low
    clear Iw0_low
    -- x0 := toCalendar(aA)
    have c_aA0 : w3.cell? ⟨W.heap.size, 0, none⟩ = some (.int .i64 d0.frm) := XaA_3.out.1
    have c_aA1 : w3.cell? ⟨W.heap.size, 1, none⟩ = some (.int .i64 d0.too) := XaA_3.out.2.1
    have c_aA2 : w3.cell? ⟨W.heap.size, 2, none⟩ = some (.int .i64 d0.wd) := XaA_3.out.2.2.1
    have c_aA3 : w3.cell? ⟨W.heap.size, 3, none⟩ = some (.slice u0_0 d0.added.length u0_1) := XaA_3.out.2.2.2.1
    have c_aA4 : w3.cell? ⟨W.heap.size, 4, none⟩ = some (.slice u0_2 d0.removed.length u0_3) := XaA_3.out.2.2.2.2.1
    go_wp2_with fail
    go_at_call 20
    refine (HT0.out _ (hX2.out.trans (hX3.out.mono (by omega)))).mono ?_
    rintro e w4 ⟨x0_0, x0_1, x0_2, x0_3, rfl, hown, hb⟩
    have Ix0_new := Lib.hid hown
    clear hown
    have hX4 : Hid (Below w3.heap.size w3 w4) := hb
    have hz4 : W.heap.size + 2 ≤ w4.heap.size ∧ w3.heap.size + 0 ≤ w4.heap.size := by have h1 := hb.size; (try simp at h1); omega
    have HB4 : Hid (Below W.heap.size W w4) := HB3.out.trans (hX4.out.mono (by omega))
    have A0_4 := Lib.hid (A0_3.out.below rfl hX4.out)
    clear A0_3
    have A1_4 := Lib.hid (A1_3.out.below rfl hX4.out)
    clear A1_3
    have XaA_4 := Lib.hid (XaA_3.out.keep hX4.out)
    clear XaA_3
    have XaB_4 := Lib.hid (XaB_3.out.keep hX4.out)
    clear XaB_3
    have Iw0_4 := Lib.hid (Iw0_3.out.later hX4.out)
    clear Iw0_3
    clear c_aA0 c_aA1 c_aA2 c_aA3 c_aA4
    clear hb
    have Ix0_4 := Ix0_new
    clear Ix0_new
    -- x1 := toCalendar(aB)
    have c_aB0 : w4.cell? ⟨W.heap.size + 1, 0, none⟩ = some (.int .i64 d1.frm) := XaB_4.out.1
    have c_aB1 : w4.cell? ⟨W.heap.size + 1, 1, none⟩ = some (.int .i64 d1.too) := XaB_4.out.2.1
    have c_aB2 : w4.cell? ⟨W.heap.size + 1, 2, none⟩ = some (.int .i64 d1.wd) := XaB_4.out.2.2.1
    have c_aB3 : w4.cell? ⟨W.heap.size + 1, 3, none⟩ = some (.slice u1_0 d1.added.length u1_1) := XaB_4.out.2.2.2.1
    have c_aB4 : w4.cell? ⟨W.heap.size + 1, 4, none⟩ = some (.slice u1_2 d1.removed.length u1_3) := XaB_4.out.2.2.2.2.1
    have hlt_aB : W.heap.size + 1 < w4.heap.size := by omega
    go_wp2_with fail
    go_at_call 20
    refine (HT1.out _ ((hX3.out.trans (hX4.out.mono (by omega))).alloc (by first | omega | (simp; omega) | simp) _)).mono ?_
    rintro e w5 ⟨x1_0, x1_1, x1_2, x1_3, rfl, hown, hb⟩
    simp only [World.size_alloc] at hown
    have Ix1_new := Lib.hid hown
    clear hown
    have hX5 : Hid (Below w4.heap.size w4 w5) := ((Below.refl _ _).alloc (by first | omega | (simp; omega) | simp) _).trans (hb.mono (by first | omega | (simp; omega) | simp))
    have hz5 : W.heap.size + 2 ≤ w5.heap.size ∧ w4.heap.size + 1 ≤ w5.heap.size := by have h1 := hb.size; (try simp at h1); omega
    have HB5 : Hid (Below W.heap.size W w5) := HB4.out.trans (hX5.out.mono (by omega))
    have A0_5 := Lib.hid (A0_4.out.below rfl hX5.out)
    clear A0_4
    have A1_5 := Lib.hid (A1_4.out.below rfl hX5.out)
    clear A1_4
    have XaA_5 := Lib.hid (XaA_4.out.keep hX5.out)
    clear XaA_4
    have XaB_5 := Lib.hid (XaB_4.out.keep hX5.out)
    clear XaB_4
    have Iw0_5 := Lib.hid (Iw0_4.out.later hX5.out)
    clear Iw0_4
    have Ix0_5 := Lib.hid (Ix0_4.out.later hX5.out)
    clear Ix0_4
    have n_0 : w5.cell? ⟨w4.heap.size, 0, none⟩ = some (.int .i64 d0.frm) := bkeep hb (by go_simp)
    have n_1 : w5.cell? ⟨w4.heap.size, 1, none⟩ = some (.int .i64 d0.too) := bkeep hb (by go_simp)
    have n_2 : w5.cell? ⟨w4.heap.size, 2, none⟩ = some (.int .i64 d0.wd) := bkeep hb (by go_simp)
    have n_3 : w5.cell? ⟨w4.heap.size, 3, none⟩ = some (.slice x0_0 d0.added.length x0_1) := bkeep hb (by go_simp)
    have n_4 : w5.cell? ⟨w4.heap.size, 4, none⟩ = some (.slice x0_2 d0.removed.length x0_3) := bkeep hb (by go_simp)
    have Xx0_5 : Hid (CellsF w5 (w4.heap.size) 0 [(.int .i64 d0.frm), (.int .i64 d0.too), (.int .i64 d0.wd), (.slice x0_0 d0.added.length x0_1), (.slice x0_2 d0.removed.length x0_3)]) := ⟨n_0, n_1, n_2, n_3, n_4, trivial⟩
    clear n_0 n_1 n_2 n_3 n_4
    clear c_aB0 c_aB1 c_aB2 c_aB3 c_aB4 hlt_aB
    clear hb
    have Ix1_5 := Ix1_new
    clear Ix1_new
    -- g0, g1 := impl.CommonDays(x0, x1)
    have c_x00 : w5.cell? ⟨w4.heap.size, 0, none⟩ = some (.int .i64 d0.frm) := Xx0_5.out.1
    have c_x01 : w5.cell? ⟨w4.heap.size, 1, none⟩ = some (.int .i64 d0.too) := Xx0_5.out.2.1
    have c_x02 : w5.cell? ⟨w4.heap.size, 2, none⟩ = some (.int .i64 d0.wd) := Xx0_5.out.2.2.1
    have c_x03 : w5.cell? ⟨w4.heap.size, 3, none⟩ = some (.slice x0_0 d0.added.length x0_1) := Xx0_5.out.2.2.2.1
    have c_x04 : w5.cell? ⟨w4.heap.size, 4, none⟩ = some (.slice x0_2 d0.removed.length x0_3) := Xx0_5.out.2.2.2.2.1
    have hlt_x0 : w4.heap.size < w5.heap.size := by omega
    go_wp2_with fail
    go_at_call 34
    refine (HImpl.out _ _ _ (((Ix0_5.out).at).below rfl ((Below.refl _ _).alloc (by first | omega | (simp; omega) | simp) _)) (((Ix1_5.out).at).below rfl ((Below.refl _ _).alloc (by first | omega | (simp; omega) | simp) _))).mono ?_
    rintro e w6 ⟨zg0, rfl, hi0, hb⟩
    simp only [World.size_alloc] at hi0
    obtain ⟨g0_0, g0_1, rfl⟩ := IntS_open hi0.at
    have Ig0_new := Lib.hid hi0
    clear hi0
    have hX6 : Hid (Below w5.heap.size w5 w6) := ((Below.refl _ _).alloc (by first | omega | (simp; omega) | simp) _).trans (hb.mono (by first | omega | (simp; omega) | simp))
    have hz6 : W.heap.size + 2 ≤ w6.heap.size ∧ w5.heap.size + 1 ≤ w6.heap.size := by have h1 := hb.size; (try simp at h1); omega
    have HB6 : Hid (Below W.heap.size W w6) := HB5.out.trans (hX6.out.mono (by omega))
    have A0_6 := Lib.hid (A0_5.out.below rfl hX6.out)
    clear A0_5
    have A1_6 := Lib.hid (A1_5.out.below rfl hX6.out)
    clear A1_5
    have XaA_6 := Lib.hid (XaA_5.out.keep hX6.out)
    clear XaA_5
    have XaB_6 := Lib.hid (XaB_5.out.keep hX6.out)
    clear XaB_5
    have Iw0_6 := Lib.hid (Iw0_5.out.later hX6.out)
    clear Iw0_5
    have Ix0_6 := Lib.hid (Ix0_5.out.later hX6.out)
    clear Ix0_5
    have Xx0_6 := Lib.hid (Xx0_5.out.keep hX6.out)
    clear Xx0_5
    have Ix1_6 := Lib.hid (Ix1_5.out.later hX6.out)
    clear Ix1_5
    have n_0 : w6.cell? ⟨w5.heap.size, 0, none⟩ = some (.int .i64 d1.frm) := bkeep hb (by go_simp)
    have n_1 : w6.cell? ⟨w5.heap.size, 1, none⟩ = some (.int .i64 d1.too) := bkeep hb (by go_simp)
    have n_2 : w6.cell? ⟨w5.heap.size, 2, none⟩ = some (.int .i64 d1.wd) := bkeep hb (by go_simp)
    have n_3 : w6.cell? ⟨w5.heap.size, 3, none⟩ = some (.slice x1_0 d1.added.length x1_1) := bkeep hb (by go_simp)
    have n_4 : w6.cell? ⟨w5.heap.size, 4, none⟩ = some (.slice x1_2 d1.removed.length x1_3) := bkeep hb (by go_simp)
    have Xx1_6 : Hid (CellsF w6 (w5.heap.size) 0 [(.int .i64 d1.frm), (.int .i64 d1.too), (.int .i64 d1.wd), (.slice x1_0 d1.added.length x1_1), (.slice x1_2 d1.removed.length x1_3)]) := ⟨n_0, n_1, n_2, n_3, n_4, trivial⟩
    clear n_0 n_1 n_2 n_3 n_4
    clear c_x00 c_x01 c_x02 c_x03 c_x04 hlt_x0
    clear hb
    have Ig0_6 := Ig0_new
    clear Ig0_new
    -- if !eqIntS(g0, w0) || g1 != w1 {
    go_wp2_with fail
    go_at_call 35
    refine (eqIntS_x _ _ r0 _ ((Ig0_6.out).at) ((Iw0_6.out).at) HQ0.out).mono ?_
    rintro e w7 ⟨rfl, hb⟩
    have hX7 : Hid (Below w6.heap.size w6 w7) := hb
    have hz7 : W.heap.size + 2 ≤ w7.heap.size ∧ w6.heap.size + 0 ≤ w7.heap.size := by have h1 := hb.size; (try simp at h1); omega
    have HB7 : Hid (Below W.heap.size W w7) := HB6.out.trans (hX7.out.mono (by omega))
    have A0_7 := Lib.hid (A0_6.out.below rfl hX7.out)
    clear A0_6
    have A1_7 := Lib.hid (A1_6.out.below rfl hX7.out)
    clear A1_6
    have XaA_7 := Lib.hid (XaA_6.out.keep hX7.out)
    clear XaA_6
    have XaB_7 := Lib.hid (XaB_6.out.keep hX7.out)
    clear XaB_6
    have Iw0_7 := Lib.hid (Iw0_6.out.later hX7.out)
    clear Iw0_6
    have Ix0_7 := Lib.hid (Ix0_6.out.later hX7.out)
    clear Ix0_6
    have Xx0_7 := Lib.hid (Xx0_6.out.keep hX7.out)
    clear Xx0_6
    have Ix1_7 := Lib.hid (Ix1_6.out.later hX7.out)
    clear Ix1_6
    have Xx1_7 := Lib.hid (Xx1_6.out.keep hX7.out)
    clear Xx1_6
    have Ig0_7 := Lib.hid (Ig0_6.out.later hX7.out)
    clear Ig0_6
    clear hb
    -- if !eqCalendar(x0, toCalendar(aA)) {
    have c_x00 : w7.cell? ⟨w4.heap.size, 0, none⟩ = some (.int .i64 d0.frm) := Xx0_7.out.1
    have c_x01 : w7.cell? ⟨w4.heap.size, 1, none⟩ = some (.int .i64 d0.too) := Xx0_7.out.2.1
    have c_x02 : w7.cell? ⟨w4.heap.size, 2, none⟩ = some (.int .i64 d0.wd) := Xx0_7.out.2.2.1
    have c_x03 : w7.cell? ⟨w4.heap.size, 3, none⟩ = some (.slice x0_0 d0.added.length x0_1) := Xx0_7.out.2.2.2.1
    have c_x04 : w7.cell? ⟨w4.heap.size, 4, none⟩ = some (.slice x0_2 d0.removed.length x0_3) := Xx0_7.out.2.2.2.2.1
    have c_aA0 : w7.cell? ⟨W.heap.size, 0, none⟩ = some (.int .i64 d0.frm) := XaA_7.out.1
    have c_aA1 : w7.cell? ⟨W.heap.size, 1, none⟩ = some (.int .i64 d0.too) := XaA_7.out.2.1
    have c_aA2 : w7.cell? ⟨W.heap.size, 2, none⟩ = some (.int .i64 d0.wd) := XaA_7.out.2.2.1
    have c_aA3 : w7.cell? ⟨W.heap.size, 3, none⟩ = some (.slice u0_0 d0.added.length u0_1) := XaA_7.out.2.2.2.1
    have c_aA4 : w7.cell? ⟨W.heap.size, 4, none⟩ = some (.slice u0_2 d0.removed.length u0_3) := XaA_7.out.2.2.2.2.1
    go_wp2_with fail
    go_region_held3 (fun w' => w'.cell? ⟨w4.heap.size, 0, none⟩ = some (.int .i64 d0.frm) ∧ w'.cell? ⟨w4.heap.size, 1, none⟩ = some (.int .i64 d0.too) ∧ w'.cell? ⟨w4.heap.size, 2, none⟩ = some (.int .i64 d0.wd) ∧ w'.cell? ⟨w4.heap.size, 3, none⟩ = some (.slice x0_0 d0.added.length x0_1) ∧ w'.cell? ⟨w4.heap.size, 4, none⟩ = some (.slice x0_2 d0.removed.length x0_3) ∧ w'.cell? ⟨W.heap.size, 0, none⟩ = some (.int .i64 d0.frm) ∧ w'.cell? ⟨W.heap.size, 1, none⟩ = some (.int .i64 d0.too) ∧ w'.cell? ⟨W.heap.size, 2, none⟩ = some (.int .i64 d0.wd) ∧ w'.cell? ⟨W.heap.size, 3, none⟩ = some (.slice u0_0 d0.added.length u0_1) ∧ w'.cell? ⟨W.heap.size, 4, none⟩ = some (.slice u0_2 d0.removed.length u0_3) ∧ Below w7.heap.size w7 w')
      (first | (exact ⟨c_x00, c_x01, c_x02, c_x03, c_x04, c_aA0, c_aA1, c_aA2, c_aA3, c_aA4, (Below.refl _ _).drew⟩) | (exact keep10 hb (by assumption)))
      (first | (go_at_call 20; refine (HT0.out _ ((((((hX2.out.trans (hX3.out.mono (by omega))).trans (hX4.out.mono (by omega))).trans (hX5.out.mono (by omega))).trans (hX6.out.mono (by omega))).trans (hX7.out.mono (by omega))).trans ((bel10 (by assumption)).mono (by omega)))).mono ?_; rintro e w' ⟨yy0_0, yy0_1, yy0_2, yy0_3, rfl, hown, hb⟩) | (go_at_call 22; refine (eqCalendar_x _ _ d0 _ (Ix0_7.out.at.below rfl (bel10 (by assumption))) hown.at HSm0.out).mono ?_; rintro e w' ⟨rfl, hb⟩))
    obtain ⟨_, _, _, _, _, _, _, _, _, _, hb⟩ := (by assumption : _ ∧ _)
    obtain ⟨w8, hww⟩ : ∃ q : World, q = w' := ⟨_, rfl⟩
    subst hww
    have hX8 : Hid (Below w7.heap.size w7 w8) := hb
    have hz8 : W.heap.size + 2 ≤ w8.heap.size ∧ w7.heap.size + 0 ≤ w8.heap.size := by have h1 := hb.size; (try simp at h1); omega
    have HB8 : Hid (Below W.heap.size W w8) := HB7.out.trans (hX8.out.mono (by omega))
    have A0_8 := Lib.hid (A0_7.out.below rfl hX8.out)
    clear A0_7
    have A1_8 := Lib.hid (A1_7.out.below rfl hX8.out)
    clear A1_7
    have XaA_8 := Lib.hid (XaA_7.out.keep hX8.out)
    clear XaA_7
    have XaB_8 := Lib.hid (XaB_7.out.keep hX8.out)
    clear XaB_7
    have Iw0_8 := Lib.hid (Iw0_7.out.later hX8.out)
    clear Iw0_7
    have Ix0_8 := Lib.hid (Ix0_7.out.later hX8.out)
    clear Ix0_7
    have Xx0_8 := Lib.hid (Xx0_7.out.keep hX8.out)
    clear Xx0_7
    have Ix1_8 := Lib.hid (Ix1_7.out.later hX8.out)
    clear Ix1_7
    have Xx1_8 := Lib.hid (Xx1_7.out.keep hX8.out)
    clear Xx1_7
    have Ig0_8 := Lib.hid (Ig0_7.out.later hX8.out)
    clear Ig0_7
    clear c_x00 c_x01 c_x02 c_x03 c_x04 c_aA0 c_aA1 c_aA2 c_aA3 c_aA4
    clear hb
    -- if !eqCalendar(x1, toCalendar(aB)) {
    have c_x10 : w8.cell? ⟨w5.heap.size, 0, none⟩ = some (.int .i64 d1.frm) := Xx1_8.out.1
    have c_x11 : w8.cell? ⟨w5.heap.size, 1, none⟩ = some (.int .i64 d1.too) := Xx1_8.out.2.1
    have c_x12 : w8.cell? ⟨w5.heap.size, 2, none⟩ = some (.int .i64 d1.wd) := Xx1_8.out.2.2.1
    have c_x13 : w8.cell? ⟨w5.heap.size, 3, none⟩ = some (.slice x1_0 d1.added.length x1_1) := Xx1_8.out.2.2.2.1
    have c_x14 : w8.cell? ⟨w5.heap.size, 4, none⟩ = some (.slice x1_2 d1.removed.length x1_3) := Xx1_8.out.2.2.2.2.1
    have c_aB0 : w8.cell? ⟨W.heap.size + 1, 0, none⟩ = some (.int .i64 d1.frm) := XaB_8.out.1
    have c_aB1 : w8.cell? ⟨W.heap.size + 1, 1, none⟩ = some (.int .i64 d1.too) := XaB_8.out.2.1
    have c_aB2 : w8.cell? ⟨W.heap.size + 1, 2, none⟩ = some (.int .i64 d1.wd) := XaB_8.out.2.2.1
    have c_aB3 : w8.cell? ⟨W.heap.size + 1, 3, none⟩ = some (.slice u1_0 d1.added.length u1_1) := XaB_8.out.2.2.2.1
    have c_aB4 : w8.cell? ⟨W.heap.size + 1, 4, none⟩ = some (.slice u1_2 d1.removed.length u1_3) := XaB_8.out.2.2.2.2.1
    go_wp2_with fail
    go_region_held3 (fun w' => w'.cell? ⟨w5.heap.size, 0, none⟩ = some (.int .i64 d1.frm) ∧ w'.cell? ⟨w5.heap.size, 1, none⟩ = some (.int .i64 d1.too) ∧ w'.cell? ⟨w5.heap.size, 2, none⟩ = some (.int .i64 d1.wd) ∧ w'.cell? ⟨w5.heap.size, 3, none⟩ = some (.slice x1_0 d1.added.length x1_1) ∧ w'.cell? ⟨w5.heap.size, 4, none⟩ = some (.slice x1_2 d1.removed.length x1_3) ∧ w'.cell? ⟨W.heap.size + 1, 0, none⟩ = some (.int .i64 d1.frm) ∧ w'.cell? ⟨W.heap.size + 1, 1, none⟩ = some (.int .i64 d1.too) ∧ w'.cell? ⟨W.heap.size + 1, 2, none⟩ = some (.int .i64 d1.wd) ∧ w'.cell? ⟨W.heap.size + 1, 3, none⟩ = some (.slice u1_0 d1.added.length u1_1) ∧ w'.cell? ⟨W.heap.size + 1, 4, none⟩ = some (.slice u1_2 d1.removed.length u1_3) ∧ Below w8.heap.size w8 w')
      (first | (exact ⟨c_x10, c_x11, c_x12, c_x13, c_x14, c_aB0, c_aB1, c_aB2, c_aB3, c_aB4, (Below.refl _ _).drew⟩) | (exact keep10 hb (by assumption)))
      (first | (go_at_call 20; refine (HT1.out _ ((((((hX3.out.trans (hX4.out.mono (by omega))).trans (hX5.out.mono (by omega))).trans (hX6.out.mono (by omega))).trans (hX7.out.mono (by omega))).trans (hX8.out.mono (by omega))).trans ((bel10 (by assumption)).mono (by omega)))).mono ?_; rintro e w' ⟨yy1_0, yy1_1, yy1_2, yy1_3, rfl, hown, hb⟩) | (go_at_call 22; refine (eqCalendar_x _ _ d1 _ (Ix1_8.out.at.below rfl (bel10 (by assumption))) hown.at HSm1.out).mono ?_; rintro e w' ⟨rfl, hb⟩))
    obtain ⟨_, _, _, _, _, _, _, _, _, _, hb⟩ := (by assumption : _ ∧ _)
    obtain ⟨w9, hww⟩ : ∃ q : World, q = w' := ⟨_, rfl⟩
    subst hww
    have hX9 : Hid (Below w8.heap.size w8 w9) := hb
    have hz9 : W.heap.size + 2 ≤ w9.heap.size ∧ w8.heap.size + 0 ≤ w9.heap.size := by have h1 := hb.size; (try simp at h1); omega
    have HB9 : Hid (Below W.heap.size W w9) := HB8.out.trans (hX9.out.mono (by omega))
    have A0_9 := Lib.hid (A0_8.out.below rfl hX9.out)
    clear A0_8
    have A1_9 := Lib.hid (A1_8.out.below rfl hX9.out)
    clear A1_8
    have XaA_9 := Lib.hid (XaA_8.out.keep hX9.out)
    clear XaA_8
    have XaB_9 := Lib.hid (XaB_8.out.keep hX9.out)
    clear XaB_8
    have Iw0_9 := Lib.hid (Iw0_8.out.later hX9.out)
    clear Iw0_8
    have Ix0_9 := Lib.hid (Ix0_8.out.later hX9.out)
    clear Ix0_8
    have Xx0_9 := Lib.hid (Xx0_8.out.keep hX9.out)
    clear Xx0_8
    have Ix1_9 := Lib.hid (Ix1_8.out.later hX9.out)
    clear Ix1_8
    have Xx1_9 := Lib.hid (Xx1_8.out.keep hX9.out)
    clear Xx1_8
    have Ig0_9 := Lib.hid (Ig0_8.out.later hX9.out)
    clear Ig0_8
    clear c_x10 c_x11 c_x12 c_x13 c_x14 c_aB0 c_aB1 c_aB2 c_aB3 c_aB4
    clear hb
    -- k = markCalendar(x0, k)
    have c_x00 : w9.cell? ⟨w4.heap.size, 0, none⟩ = some (.int .i64 d0.frm) := Xx0_9.out.1
    have c_x01 : w9.cell? ⟨w4.heap.size, 1, none⟩ = some (.int .i64 d0.too) := Xx0_9.out.2.1
    have c_x02 : w9.cell? ⟨w4.heap.size, 2, none⟩ = some (.int .i64 d0.wd) := Xx0_9.out.2.2.1
    have c_x03 : w9.cell? ⟨w4.heap.size, 3, none⟩ = some (.slice x0_0 d0.added.length x0_1) := Xx0_9.out.2.2.2.1
    have c_x04 : w9.cell? ⟨w4.heap.size, 4, none⟩ = some (.slice x0_2 d0.removed.length x0_3) := Xx0_9.out.2.2.2.2.1
    clear A0_9
    clear A1_9
    go_wp2_with fail
    have hsm0 := HSm0.out
    try unfold CalSmall at hsm0
    go_at_call 31
    refine (markCalendar_x _ d0 _ _ _ _ Ix0_9.out (by omega) (by omega) HSm0.out (by omega) (by omega)).mono ?_
    rintro e w10 ⟨rfl, hmk, ho⟩
    clear hmk
    have hX10 : Hid (Out (_) (_) w9 w10) := ho
    have hz10 : W.heap.size + 2 ≤ w10.heap.size ∧ w9.heap.size ≤ w10.heap.size := ⟨by have := hX10.out.below.size; omega, hX10.out.below.size⟩
    have HB10 : Hid (Below W.heap.size W w10) := HB9.out.trans (hX10.out.below.mono (by omega))
    have XaA_10 := Lib.hid (XaA_9.out.out hX10.out (by omega))
    clear XaA_9
    have XaB_10 := Lib.hid (XaB_9.out.out hX10.out (by omega))
    clear XaB_9
    have Iw0_10 := Lib.hid (Iw0_9.out.out hX10.out (by omega))
    clear Iw0_9
    clear Ix0_9
    have Xx0_10 := Lib.hid (Xx0_9.out.out hX10.out (by omega))
    clear Xx0_9
    have Ix1_10 := Lib.hid (Ix1_9.out.out hX10.out (by omega))
    clear Ix1_9
    have Xx1_10 := Lib.hid (Xx1_9.out.out hX10.out (by omega))
    clear Xx1_9
    have Ig0_10 := Lib.hid (Ig0_9.out.out hX10.out (by omega))
    clear Ig0_9
    clear c_x00 c_x01 c_x02 c_x03 c_x04
    clear ho
    -- k = markCalendar(x1, k)
    have c_x10 : w10.cell? ⟨w5.heap.size, 0, none⟩ = some (.int .i64 d1.frm) := Xx1_10.out.1
    have c_x11 : w10.cell? ⟨w5.heap.size, 1, none⟩ = some (.int .i64 d1.too) := Xx1_10.out.2.1
    have c_x12 : w10.cell? ⟨w5.heap.size, 2, none⟩ = some (.int .i64 d1.wd) := Xx1_10.out.2.2.1
    have c_x13 : w10.cell? ⟨w5.heap.size, 3, none⟩ = some (.slice x1_0 d1.added.length x1_1) := Xx1_10.out.2.2.2.1
    have c_x14 : w10.cell? ⟨w5.heap.size, 4, none⟩ = some (.slice x1_2 d1.removed.length x1_3) := Xx1_10.out.2.2.2.2.1
    go_wp2_with fail
    have hsm1 := HSm1.out
    try unfold CalSmall at hsm1
    go_at_call 31
    refine (markCalendar_x _ d1 _ _ _ _ Ix1_10.out (by omega) (by omega) HSm1.out (by omega) (by omega)).mono ?_
    rintro e w11 ⟨rfl, hmk, ho⟩
    clear hmk
    have hX11 : Hid (Out (_) (_) w10 w11) := ho
    have hz11 : W.heap.size + 2 ≤ w11.heap.size ∧ w10.heap.size ≤ w11.heap.size := ⟨by have := hX11.out.below.size; omega, hX11.out.below.size⟩
    have HB11 : Hid (Below W.heap.size W w11) := HB10.out.trans (hX11.out.below.mono (by omega))
    have XaA_11 := Lib.hid (XaA_10.out.out hX11.out (by omega))
    clear XaA_10
    have XaB_11 := Lib.hid (XaB_10.out.out hX11.out (by omega))
    clear XaB_10
    have Iw0_11 := Lib.hid (Iw0_10.out.out hX11.out (by omega))
    clear Iw0_10
    have Xx0_11 := Lib.hid (Xx0_10.out.out hX11.out (by omega))
    clear Xx0_10
    clear Ix1_10
    have Xx1_11 := Lib.hid (Xx1_10.out.out hX11.out (by omega))
    clear Xx1_10
    have Ig0_11 := Lib.hid (Ig0_10.out.out hX11.out (by omega))
    clear Ig0_10
    clear c_x10 c_x11 c_x12 c_x13 c_x14
    clear ho
    -- if k < 0 || !eqIntS(g0, w0) || g1 != w1 {
    go_wp2_with fail
    go_at_call 35
    refine (eqIntS_x _ _ r0 _ ((Ig0_11.out).at) ((Iw0_11.out).at) HQ0.out).mono ?_
    rintro e w12 ⟨rfl, hb⟩
    have hX12 : Hid (Below w11.heap.size w11 w12) := hb
    have hz12 : W.heap.size + 2 ≤ w12.heap.size ∧ w11.heap.size + 0 ≤ w12.heap.size := by have h1 := hb.size; (try simp at h1); omega
    have HB12 : Hid (Below W.heap.size W w12) := HB11.out.trans (hX12.out.mono (by omega))
    have XaA_12 := Lib.hid (XaA_11.out.keep hX12.out)
    clear XaA_11
    have XaB_12 := Lib.hid (XaB_11.out.keep hX12.out)
    clear XaB_11
    have Iw0_12 := Lib.hid (Iw0_11.out.later hX12.out)
    clear Iw0_11
    have Xx0_12 := Lib.hid (Xx0_11.out.keep hX12.out)
    clear Xx0_11
    have Xx1_12 := Lib.hid (Xx1_11.out.keep hX12.out)
    clear Xx1_11
    have Ig0_12 := Lib.hid (Ig0_11.out.later hX12.out)
    clear Ig0_11
    clear hb
    -- m = markIntS(g0, m)
    go_wp2_with fail
    have hsq0 := HQ0.out
    try unfold IntsSmall at hsq0
    go_at_call 36
    refine (markIntS_x _ r0 _ _ _ _ Ig0_12.out (by omega) HQ0.out (by omega) (by omega)).mono ?_
    rintro e w13 ⟨rfl, hmk, hgr, ho⟩
    have M0_new := Lib.hid hmk
    clear hmk hgr
    have hX13 : Hid (Out (_) (_) w12 w13) := ho
    have hz13 : W.heap.size + 2 ≤ w13.heap.size ∧ w12.heap.size ≤ w13.heap.size := ⟨by have := hX13.out.below.size; omega, hX13.out.below.size⟩
    have HB13 : Hid (Below W.heap.size W w13) := HB12.out.trans (hX13.out.below.mono (by omega))
    have XaA_13 := Lib.hid (XaA_12.out.out hX13.out (by omega))
    clear XaA_12
    have XaB_13 := Lib.hid (XaB_12.out.out hX13.out (by omega))
    clear XaB_12
    have Iw0_13 := Lib.hid (Iw0_12.out.out hX13.out (by omega))
    clear Iw0_12
    have Xx0_13 := Lib.hid (Xx0_12.out.out hX13.out (by omega))
    clear Xx0_12
    have Xx1_13 := Lib.hid (Xx1_12.out.out hX13.out (by omega))
    clear Xx1_12
    clear Ig0_12
    clear ho
    have M0_13 := M0_new
    clear M0_new
    -- q = heldIntS(g0, q)
    go_wp2_with fail
    go_at_call 37
    refine (heldIntS_x _ r0 _ _ (M0_13.out) HQ0.out (by omega) (by omega)).mono ?_
    rintro e w14 ⟨rfl, hb⟩
    have hX14 : Hid (Below w13.heap.size w13 w14) := hb
    have hz14 : W.heap.size + 2 ≤ w14.heap.size ∧ w13.heap.size + 0 ≤ w14.heap.size := by have h1 := hb.size; (try simp at h1); omega
    have HB14 : Hid (Below W.heap.size W w14) := HB13.out.trans (hX14.out.mono (by omega))
    have XaA_14 := Lib.hid (XaA_13.out.keep hX14.out)
    clear XaA_13
    have XaB_14 := Lib.hid (XaB_13.out.keep hX14.out)
    clear XaB_13
    have Iw0_14 := Lib.hid (Iw0_13.out.later hX14.out)
    clear Iw0_13
    have Xx0_14 := Lib.hid (Xx0_13.out.keep hX14.out)
    clear Xx0_13
    have Xx1_14 := Lib.hid (Xx1_13.out.keep hX14.out)
    clear Xx1_13
    have M0_14 := Lib.hid (M0_13.out.later hX14.out)
    clear M0_13
    clear hb
    have hqq : ((1 : Int) + (r0.length : Int) != 1 + (r0.length : Int)) = false := by simp
    -- h0, h1 := impl.CommonDays(toCalendar(aA), toCalendar(aB))
    have c_aA0 : w14.cell? ⟨W.heap.size, 0, none⟩ = some (.int .i64 d0.frm) := XaA_14.out.1
    have c_aA1 : w14.cell? ⟨W.heap.size, 1, none⟩ = some (.int .i64 d0.too) := XaA_14.out.2.1
    have c_aA2 : w14.cell? ⟨W.heap.size, 2, none⟩ = some (.int .i64 d0.wd) := XaA_14.out.2.2.1
    have c_aA3 : w14.cell? ⟨W.heap.size, 3, none⟩ = some (.slice u0_0 d0.added.length u0_1) := XaA_14.out.2.2.2.1
    have c_aA4 : w14.cell? ⟨W.heap.size, 4, none⟩ = some (.slice u0_2 d0.removed.length u0_3) := XaA_14.out.2.2.2.2.1
    have c_aB0 : w14.cell? ⟨W.heap.size + 1, 0, none⟩ = some (.int .i64 d1.frm) := XaB_14.out.1
    have c_aB1 : w14.cell? ⟨W.heap.size + 1, 1, none⟩ = some (.int .i64 d1.too) := XaB_14.out.2.1
    have c_aB2 : w14.cell? ⟨W.heap.size + 1, 2, none⟩ = some (.int .i64 d1.wd) := XaB_14.out.2.2.1
    have c_aB3 : w14.cell? ⟨W.heap.size + 1, 3, none⟩ = some (.slice u1_0 d1.added.length u1_1) := XaB_14.out.2.2.2.1
    have c_aB4 : w14.cell? ⟨W.heap.size + 1, 4, none⟩ = some (.slice u1_2 d1.removed.length u1_3) := XaB_14.out.2.2.2.2.1
    go_wp2_with fail
    go_region_held3 (fun w' => w'.cell? ⟨W.heap.size, 0, none⟩ = some (.int .i64 d0.frm) ∧ w'.cell? ⟨W.heap.size, 1, none⟩ = some (.int .i64 d0.too) ∧ w'.cell? ⟨W.heap.size, 2, none⟩ = some (.int .i64 d0.wd) ∧ w'.cell? ⟨W.heap.size, 3, none⟩ = some (.slice u0_0 d0.added.length u0_1) ∧ w'.cell? ⟨W.heap.size, 4, none⟩ = some (.slice u0_2 d0.removed.length u0_3) ∧ w'.cell? ⟨W.heap.size + 1, 0, none⟩ = some (.int .i64 d1.frm) ∧ w'.cell? ⟨W.heap.size + 1, 1, none⟩ = some (.int .i64 d1.too) ∧ w'.cell? ⟨W.heap.size + 1, 2, none⟩ = some (.int .i64 d1.wd) ∧ w'.cell? ⟨W.heap.size + 1, 3, none⟩ = some (.slice u1_0 d1.added.length u1_1) ∧ w'.cell? ⟨W.heap.size + 1, 4, none⟩ = some (.slice u1_2 d1.removed.length u1_3) ∧ Below w14.heap.size w14 w')
      (first | (exact ⟨c_aA0, c_aA1, c_aA2, c_aA3, c_aA4, c_aB0, c_aB1, c_aB2, c_aB3, c_aB4, (Below.refl _ _).drew⟩) | (exact keep10 hb (by assumption)) | (exact keep10 hb0 (by assumption)) | (exact keep10 hb1 (by assumption)))
      (first | (go_at_call_of 20 d0; refine (HT0.out _ (((((((((((((hX2.out.trans (hX3.out.mono (by omega))).trans (hX4.out.mono (by omega))).trans (hX5.out.mono (by omega))).trans (hX6.out.mono (by omega))).trans (hX7.out.mono (by omega))).trans (hX8.out.mono (by omega))).trans (hX9.out.mono (by omega))).trans (hX10.out.below.mono (by omega))).trans (hX11.out.below.mono (by omega))).trans (hX12.out.mono (by omega))).trans (hX13.out.below.mono (by omega))).trans (hX14.out.mono (by omega))).trans ((bel10 (by assumption)).mono (by omega)))).mono ?_; rintro e w' ⟨yh0_0, yh0_1, yh0_2, yh0_3, rfl, hown0, hb0⟩) | (go_at_call_of 20 d1; refine (HT1.out _ ((((((((((((hX3.out.trans (hX4.out.mono (by omega))).trans (hX5.out.mono (by omega))).trans (hX6.out.mono (by omega))).trans (hX7.out.mono (by omega))).trans (hX8.out.mono (by omega))).trans (hX9.out.mono (by omega))).trans (hX10.out.below.mono (by omega))).trans (hX11.out.below.mono (by omega))).trans (hX12.out.mono (by omega))).trans (hX13.out.below.mono (by omega))).trans (hX14.out.mono (by omega))).trans ((bel10 (by assumption)).mono (by omega)))).mono ?_; rintro e w' ⟨yh1_0, yh1_1, yh1_2, yh1_3, rfl, hown1, hb1⟩) | (go_at_call 34; refine (HImpl.out _ _ _ (by first | exact hown0.at | exact hown0.at.below rfl hb1) (by first | exact hown1.at | exact hown1.at.below rfl hb0)).mono ?_; rintro e w' ⟨zh0, rfl, hi0, hb⟩))
    all_goals
      have hS : w'.cell? ⟨W.heap.size, 0, none⟩ = some (.int .i64 d0.frm) ∧ w'.cell? ⟨W.heap.size, 1, none⟩ = some (.int .i64 d0.too) ∧ w'.cell? ⟨W.heap.size, 2, none⟩ = some (.int .i64 d0.wd) ∧ w'.cell? ⟨W.heap.size, 3, none⟩ = some (.slice u0_0 d0.added.length u0_1) ∧ w'.cell? ⟨W.heap.size, 4, none⟩ = some (.slice u0_2 d0.removed.length u0_3) ∧ w'.cell? ⟨W.heap.size + 1, 0, none⟩ = some (.int .i64 d1.frm) ∧ w'.cell? ⟨W.heap.size + 1, 1, none⟩ = some (.int .i64 d1.too) ∧ w'.cell? ⟨W.heap.size + 1, 2, none⟩ = some (.int .i64 d1.wd) ∧ w'.cell? ⟨W.heap.size + 1, 3, none⟩ = some (.slice u1_0 d1.added.length u1_1) ∧ w'.cell? ⟨W.heap.size + 1, 4, none⟩ = some (.slice u1_2 d1.removed.length u1_3) ∧ Below w14.heap.size w14 w' := by assumption
      obtain ⟨h0_0, h0_1, rfl⟩ := IntS_open hi0.at
      have Ih0_new := Lib.hid hi0
      clear hi0
      have Ih0_low := Lib.hid (Ih0_new.out.base (Nat.zero_le _) (Nat.le_refl _))
      clear Ih0_new
      clear hb hown0 hown1 hb0 hb1
      obtain ⟨_, _, _, _, _, _, _, _, _, _, hb⟩ := hS
      obtain ⟨w15, hww⟩ : ∃ q : World, q = w' := ⟨_, rfl⟩
      subst hww
      have hX15 : Hid (Below w14.heap.size w14 w15) := hb
      have hz15 : W.heap.size + 2 ≤ w15.heap.size ∧ w14.heap.size + 0 ≤ w15.heap.size := by have h1 := hb.size; (try simp at h1); omega
      have HB15 : Hid (Below W.heap.size W w15) := HB14.out.trans (hX15.out.mono (by omega))
      have XaA_15 := Lib.hid (XaA_14.out.keep hX15.out)
      clear XaA_14
      have XaB_15 := Lib.hid (XaB_14.out.keep hX15.out)
      clear XaB_14
      have Iw0_15 := Lib.hid (Iw0_14.out.later hX15.out)
      clear Iw0_14
      have Xx0_15 := Lib.hid (Xx0_14.out.keep hX15.out)
      clear Xx0_14
      have Xx1_15 := Lib.hid (Xx1_14.out.keep hX15.out)
      clear Xx1_14
      have M0_15 := Lib.hid (M0_14.out.later hX15.out)
      clear M0_14
      clear c_aA0 c_aA1 c_aA2 c_aA3 c_aA4 c_aB0 c_aB1 c_aB2 c_aB3 c_aB4
      clear hb
      have Ih0_15 := Ih0_low
      clear Ih0_low
      -- if !eqIntS(h0, w0) || h1 != w1 {
      go_wp2_with fail
      go_at_call 35
      refine (eqIntS_x _ _ r0 _ ((Ih0_15.out).at) ((Iw0_15.out).at) HQ0.out).mono ?_
      rintro e w16 ⟨rfl, hb⟩
      have hX16 : Hid (Below w15.heap.size w15 w16) := hb
      have hz16 : W.heap.size + 2 ≤ w16.heap.size ∧ w15.heap.size + 0 ≤ w16.heap.size := by have h1 := hb.size; (try simp at h1); omega
      have HB16 : Hid (Below W.heap.size W w16) := HB15.out.trans (hX16.out.mono (by omega))
      have XaA_16 := Lib.hid (XaA_15.out.keep hX16.out)
      clear XaA_15
      have XaB_16 := Lib.hid (XaB_15.out.keep hX16.out)
      clear XaB_15
      have Iw0_16 := Lib.hid (Iw0_15.out.later hX16.out)
      clear Iw0_15
      have Xx0_16 := Lib.hid (Xx0_15.out.keep hX16.out)
      clear Xx0_15
      have Xx1_16 := Lib.hid (Xx1_15.out.keep hX16.out)
      clear Xx1_15
      have M0_16 := Lib.hid (M0_15.out.later hX16.out)
      clear M0_15
      have Ih0_16 := Lib.hid (Ih0_15.out.later hX16.out)
      clear Ih0_15
      clear hb
      clear Ih0_16
      -- q = heldIntS(g0, q)
      go_wp2_with fail
      go_at_call 37
      refine (heldIntS_x _ r0 _ _ (M0_16.out) HQ0.out (by omega) (by omega)).mono ?_
      rintro e w17 ⟨rfl, hb⟩
      have hX17 : Hid (Below w16.heap.size w16 w17) := hb
      have hz17 : W.heap.size + 2 ≤ w17.heap.size ∧ w16.heap.size + 0 ≤ w17.heap.size := by have h1 := hb.size; (try simp at h1); omega
      have HB17 : Hid (Below W.heap.size W w17) := HB16.out.trans (hX17.out.mono (by omega))
      have XaA_17 := Lib.hid (XaA_16.out.keep hX17.out)
      clear XaA_16
      have XaB_17 := Lib.hid (XaB_16.out.keep hX17.out)
      clear XaB_16
      have Iw0_17 := Lib.hid (Iw0_16.out.later hX17.out)
      clear Iw0_16
      have Xx0_17 := Lib.hid (Xx0_16.out.keep hX17.out)
      clear Xx0_16
      have Xx1_17 := Lib.hid (Xx1_16.out.keep hX17.out)
      clear Xx1_16
      have M0_17 := Lib.hid (M0_16.out.later hX17.out)
      clear M0_16
      clear hb
      have hqq : ((1 : Int) + (r0.length : Int) != 1 + (r0.length : Int)) = false := by simp
      go_wp2_with fail
      go_ret
      exact ⟨rfl, HB17.out⟩
end Go.Proofs.Ytbbcjponeiphaaa.fnExactCommonDays
