/-
  THE WALK of laws.FnExactFitCalendar: for every argument the law returns true and nothing that was in memory turns.
-/
import Derived.Test.YtbbcjponeiphaaaFitCalendar
namespace Go.Proofs.Ytbbcjponeiphaaa.fnExactFitCalendar
open Go.RowKit
set_option linter.unusedVariables false
set_option linter.unusedSimpArgs false

set_option maxRecDepth 100000 in
set_option maxHeartbeats 8000000 in
theorem walk (a0 : Int) (a1 : Int) (v2 : Value) (W : World) (w0 : (Lit.int .i64 a0).wf = true) (w1 : (Lit.int .i64 a1).wf = true) (S2 : ∃ d, RowAt W v2 (ints d) ∧ ∀ z ∈ d, (Lit.int .i64 z).wf = true) (hL : laidMetH Try.prog Rows.fnExactFitCalendarRow.laid W) (hsh : W.ShapedOpen Try.prog) :
    Calls Try.prog 9 #[.int .i64 a0, .int .i64 a1, v2] W fun e w' => e = .returned (.bool true) ∧ Below W.heap.size W w' := by
  clear hL hsh
  obtain ⟨d2, hr2, hf2⟩ := S2
  obtain ⟨u2_0, u2_1, rfl⟩ := IntS_open hr2
  have A2_0 := Lib.hid hr2
  have HF2 := Lib.hid hf2
  clear hr2 hf2
  have Hw0 := Lib.hid w0
  clear w0
  have Hw1 := Lib.hid w1
  clear w1
  -- if len(aDays) > 1<<20 {
  by_cases hbig2 : 1048576 < d2.length
  · go_enter Try.func9, Try.ntmps9
    go_wp2_with fail
    go_ret
    exact ⟨rfl, (Below.refl _ _)⟩
  have hle2 : d2.length ≤ 1048576 := by omega
  have HSm2 : Hid (IntsSmall d2) := hle2
  have HT2 := Lib.hid (fun w (h : Below W.heap.size W w) => toIntS_x _ d2 w (A2_0.out.below rfl h) HSm2.out)
  go_enter Try.func9, Try.ntmps9
  obtain ⟨r0, r1, hq0, hboth⟩ := bothFitCalendar a0 Hw0.out a1 Hw1.out d2 HF2.out HSm2.out
  have HQ0 := Lib.hid hq0
  clear hq0
  have HSpec := Lib.hid (fun v2 w (h2 : RowAt w v2 (ints d2)) => (hboth v2 w h2).1)
  have HImpl := Lib.hid (fun v2 w (h2 : RowAt w v2 (ints d2)) => (hboth v2 w h2).2)
  clear hboth
  have hne1 : (r1 != r1) = false := by simp
  -- w0, w1 := spec.FitCalendar(aFrom, aTo, toIntS(aDays))
  go_wp2_with fail
  go_at_call 39
  refine (HT2.out _ (Below.refl _ _)).mono ?_
  rintro e w1 ⟨yw2_0, yw2_1, rfl, hown, hb⟩
  have Iwt2_new := Lib.hid hown
  clear hown
  have hX1 : Hid (Below W.heap.size W w1) := hb
  have hz1 : W.heap.size + 0 ≤ w1.heap.size ∧ W.heap.size + 0 ≤ w1.heap.size := by have h1 := hb.size; (try simp at h1); omega
  have HB1 : Hid (Below W.heap.size W w1) := hX1
  have A2_1 := Lib.hid (A2_0.out.below rfl hX1.out)
  clear A2_0
  clear hb
  have T2_1 := Iwt2_new
  clear Iwt2_new
  go_wp2_with fail
  go_at_call 38
  refine (HSpec.out _ _ ((T2_1.out).at)).mono ?_
  rintro e w2 ⟨zw0, rfl, hi0, hb⟩
  obtain ⟨w0_0, w0_1, w0_2, w0_3, rfl⟩ := Calendar_open hi0.at
  have Iw0_new := Lib.hid hi0
  clear hi0
  have hX2 : Hid (Below w1.heap.size w1 w2) := hb
  have hz2 : W.heap.size + 0 ≤ w2.heap.size ∧ w1.heap.size + 0 ≤ w2.heap.size := by have h1 := hb.size; (try simp at h1); omega
  have HB2 : Hid (Below W.heap.size W w2) := HB1.out.trans (hX2.out.mono (by omega))
  have A2_2 := Lib.hid (A2_1.out.below rfl hX2.out)
  clear A2_1
  have T2_2 := Lib.hid (T2_1.out.later hX2.out)
  clear T2_1
  clear hb
  clear T2_2
  have Iw0_2 := Iw0_new
  clear Iw0_new
  -- x2 := toIntS(aDays)
  go_wp2_with fail
  go_at_call 39
  refine (HT2.out _ ((hX1.out.trans (hX2.out.mono (by omega))).alloc (by first | omega | (simp; omega) | simp) _)).mono ?_
  rintro e w3 ⟨x2_0, x2_1, rfl, hown, hb⟩
  simp only [World.size_alloc] at hown
  have Ix2_new := Lib.hid hown
  clear hown
  have hX3 : Hid (Below w2.heap.size w2 w3) := ((Below.refl _ _).alloc (by first | omega | (simp; omega) | simp) _).trans (hb.mono (by first | omega | (simp; omega) | simp))
  have hz3 : W.heap.size + 0 ≤ w3.heap.size ∧ w2.heap.size + 1 ≤ w3.heap.size := by have h1 := hb.size; (try simp at h1); omega
  have HB3 : Hid (Below W.heap.size W w3) := HB2.out.trans (hX3.out.mono (by omega))
  have A2_3 := Lib.hid (A2_2.out.below rfl hX3.out)
  clear A2_2
  have Iw0_3 := Lib.hid (Iw0_2.out.later hX3.out)
  clear Iw0_2
  have n_0 : w3.cell? ⟨w2.heap.size, 0, none⟩ = some (.int .i64 r0.frm) := bkeep hb (by go_simp)
  have n_1 : w3.cell? ⟨w2.heap.size, 1, none⟩ = some (.int .i64 r0.too) := bkeep hb (by go_simp)
  have n_2 : w3.cell? ⟨w2.heap.size, 2, none⟩ = some (.int .i64 r0.wd) := bkeep hb (by go_simp)
  have n_3 : w3.cell? ⟨w2.heap.size, 3, none⟩ = some (.slice w0_0 r0.added.length w0_1) := bkeep hb (by go_simp)
  have n_4 : w3.cell? ⟨w2.heap.size, 4, none⟩ = some (.slice w0_2 r0.removed.length w0_3) := bkeep hb (by go_simp)
  have Xw0_3 : Hid (CellsF w3 (w2.heap.size) 0 [(.int .i64 r0.frm), (.int .i64 r0.too), (.int .i64 r0.wd), (.slice w0_0 r0.added.length w0_1), (.slice w0_2 r0.removed.length w0_3)]) := ⟨n_0, n_1, n_2, n_3, n_4, trivial⟩
  clear n_0 n_1 n_2 n_3 n_4
  clear hb
  have Ix2_3 := Ix2_new
  clear Ix2_new
  -- g0, g1 := impl.FitCalendar(aFrom, aTo, x2)
  go_wp2_with fail
  go_at_call 40
  refine (HImpl.out _ _ ((Ix2_3.out).at)).mono ?_
  rintro e w4 ⟨zg0, rfl, hi0, hb⟩
  obtain ⟨g0_0, g0_1, g0_2, g0_3, rfl⟩ := Calendar_open hi0.at
  have Ig0_new := Lib.hid hi0
  clear hi0
  have hX4 : Hid (Below w3.heap.size w3 w4) := hb
  have hz4 : W.heap.size + 0 ≤ w4.heap.size ∧ w3.heap.size + 0 ≤ w4.heap.size := by have h1 := hb.size; (try simp at h1); omega
  have HB4 : Hid (Below W.heap.size W w4) := HB3.out.trans (hX4.out.mono (by omega))
  have A2_4 := Lib.hid (A2_3.out.below rfl hX4.out)
  clear A2_3
  have Iw0_4 := Lib.hid (Iw0_3.out.later hX4.out)
  clear Iw0_3
  have Xw0_4 := Lib.hid (Xw0_3.out.keep hX4.out)
  clear Xw0_3
  have Ix2_4 := Lib.hid (Ix2_3.out.later hX4.out)
  clear Ix2_3
  clear hb
  have Ig0_4 := Ig0_new
  clear Ig0_new
  -- if !eqCalendar(g0, w0) || g1 != w1 {
  have c_w00 : w4.cell? ⟨w2.heap.size, 0, none⟩ = some (.int .i64 r0.frm) := Xw0_4.out.1
  have c_w01 : w4.cell? ⟨w2.heap.size, 1, none⟩ = some (.int .i64 r0.too) := Xw0_4.out.2.1
  have c_w02 : w4.cell? ⟨w2.heap.size, 2, none⟩ = some (.int .i64 r0.wd) := Xw0_4.out.2.2.1
  have c_w03 : w4.cell? ⟨w2.heap.size, 3, none⟩ = some (.slice w0_0 r0.added.length w0_1) := Xw0_4.out.2.2.2.1
  have c_w04 : w4.cell? ⟨w2.heap.size, 4, none⟩ = some (.slice w0_2 r0.removed.length w0_3) := Xw0_4.out.2.2.2.2.1
  have hlt_w0 : w2.heap.size < w4.heap.size := by omega
  go_wp2_with fail
  go_at_call 22
  refine (eqCalendar_x _ _ r0 _ (((Ig0_4.out).at).below rfl ((Below.refl _ _).alloc (by first | omega | (simp; omega) | simp) _)) (((Iw0_4.out).at).below rfl ((Below.refl _ _).alloc (by first | omega | (simp; omega) | simp) _)) HQ0.out).mono ?_
  rintro e w5 ⟨rfl, hb⟩
  have hX5 : Hid (Below w4.heap.size w4 w5) := ((Below.refl _ _).alloc (by first | omega | (simp; omega) | simp) _).trans (hb.mono (by first | omega | (simp; omega) | simp))
  have hz5 : W.heap.size + 0 ≤ w5.heap.size ∧ w4.heap.size + 1 ≤ w5.heap.size := by have h1 := hb.size; (try simp at h1); omega
  have HB5 : Hid (Below W.heap.size W w5) := HB4.out.trans (hX5.out.mono (by omega))
  have A2_5 := Lib.hid (A2_4.out.below rfl hX5.out)
  clear A2_4
  have Iw0_5 := Lib.hid (Iw0_4.out.later hX5.out)
  clear Iw0_4
  have Xw0_5 := Lib.hid (Xw0_4.out.keep hX5.out)
  clear Xw0_4
  have Ix2_5 := Lib.hid (Ix2_4.out.later hX5.out)
  clear Ix2_4
  have Ig0_5 := Lib.hid (Ig0_4.out.later hX5.out)
  clear Ig0_4
  have n_0 : w5.cell? ⟨w4.heap.size, 0, none⟩ = some (.int .i64 r0.frm) := bkeep hb (by go_simp)
  have n_1 : w5.cell? ⟨w4.heap.size, 1, none⟩ = some (.int .i64 r0.too) := bkeep hb (by go_simp)
  have n_2 : w5.cell? ⟨w4.heap.size, 2, none⟩ = some (.int .i64 r0.wd) := bkeep hb (by go_simp)
  have n_3 : w5.cell? ⟨w4.heap.size, 3, none⟩ = some (.slice g0_0 r0.added.length g0_1) := bkeep hb (by go_simp)
  have n_4 : w5.cell? ⟨w4.heap.size, 4, none⟩ = some (.slice g0_2 r0.removed.length g0_3) := bkeep hb (by go_simp)
  have Xg0_5 : Hid (CellsF w5 (w4.heap.size) 0 [(.int .i64 r0.frm), (.int .i64 r0.too), (.int .i64 r0.wd), (.slice g0_0 r0.added.length g0_1), (.slice g0_2 r0.removed.length g0_3)]) := ⟨n_0, n_1, n_2, n_3, n_4, trivial⟩
  clear n_0 n_1 n_2 n_3 n_4
  clear c_w00 c_w01 c_w02 c_w03 c_w04 hlt_w0
  clear hb
  -- if !eqIntS(x2, toIntS(aDays)) {
  go_wp2_with fail
  go_at_call 39
  refine (HT2.out _ ((((hX1.out.trans (hX2.out.mono (by omega))).trans (hX3.out.mono (by omega))).trans (hX4.out.mono (by omega))).trans (hX5.out.mono (by omega)))).mono ?_
  rintro e w6 ⟨yy2_0, yy2_1, rfl, hown, hb⟩
  have IT_new := Lib.hid hown
  clear hown
  have hX6 : Hid (Below w5.heap.size w5 w6) := hb
  have hz6 : W.heap.size + 0 ≤ w6.heap.size ∧ w5.heap.size + 0 ≤ w6.heap.size := by have h1 := hb.size; (try simp at h1); omega
  have HB6 : Hid (Below W.heap.size W w6) := HB5.out.trans (hX6.out.mono (by omega))
  have A2_6 := Lib.hid (A2_5.out.below rfl hX6.out)
  clear A2_5
  have Iw0_6 := Lib.hid (Iw0_5.out.later hX6.out)
  clear Iw0_5
  have Xw0_6 := Lib.hid (Xw0_5.out.keep hX6.out)
  clear Xw0_5
  have Ix2_6 := Lib.hid (Ix2_5.out.later hX6.out)
  clear Ix2_5
  have Ig0_6 := Lib.hid (Ig0_5.out.later hX6.out)
  clear Ig0_5
  have Xg0_6 := Lib.hid (Xg0_5.out.keep hX6.out)
  clear Xg0_5
  clear hb
  have T9_6 := IT_new
  clear IT_new
  go_wp2_with fail
  go_at_call 35
  refine (eqIntS_x _ _ d2 _ ((Ix2_6.out).at) ((T9_6.out).at) HSm2.out).mono ?_
  rintro e w7 ⟨rfl, hb⟩
  have hX7 : Hid (Below w6.heap.size w6 w7) := hb
  have hz7 : W.heap.size + 0 ≤ w7.heap.size ∧ w6.heap.size + 0 ≤ w7.heap.size := by have h1 := hb.size; (try simp at h1); omega
  have HB7 : Hid (Below W.heap.size W w7) := HB6.out.trans (hX7.out.mono (by omega))
  have A2_7 := Lib.hid (A2_6.out.below rfl hX7.out)
  clear A2_6
  have Iw0_7 := Lib.hid (Iw0_6.out.later hX7.out)
  clear Iw0_6
  have Xw0_7 := Lib.hid (Xw0_6.out.keep hX7.out)
  clear Xw0_6
  have Ix2_7 := Lib.hid (Ix2_6.out.later hX7.out)
  clear Ix2_6
  have Ig0_7 := Lib.hid (Ig0_6.out.later hX7.out)
  clear Ig0_6
  have Xg0_7 := Lib.hid (Xg0_6.out.keep hX7.out)
  clear Xg0_6
  have T9_7 := Lib.hid (T9_6.out.later hX7.out)
  clear T9_6
  clear hb
  clear T9_7
  -- k = markIntS(x2, k)
  clear A2_7
  go_wp2_with fail
  have hsm2 := HSm2.out
  try unfold IntsSmall at hsm2
  go_at_call 36
  refine (markIntS_x _ d2 _ _ _ _ Ix2_7.out (by omega) HSm2.out (by omega) (by omega)).mono ?_
  rintro e w8 ⟨rfl, hmk, hgr, ho⟩
  clear hmk hgr
  have hX8 : Hid (Out (_) (_) w7 w8) := ho
  have hz8 : W.heap.size + 0 ≤ w8.heap.size ∧ w7.heap.size ≤ w8.heap.size := ⟨by have := hX8.out.below.size; omega, hX8.out.below.size⟩
  have HB8 : Hid (Below W.heap.size W w8) := HB7.out.trans (hX8.out.below.mono (by omega))
  have Iw0_8 := Lib.hid (Iw0_7.out.out hX8.out (by omega))
  clear Iw0_7
  have Xw0_8 := Lib.hid (Xw0_7.out.out hX8.out (by omega))
  clear Xw0_7
  clear Ix2_7
  have Ig0_8 := Lib.hid (Ig0_7.out.out hX8.out (by omega))
  clear Ig0_7
  have Xg0_8 := Lib.hid (Xg0_7.out.out hX8.out (by omega))
  clear Xg0_7
  clear ho
  -- if k < 0 || !eqCalendar(g0, w0) || g1 != w1 {
  have c_g00 : w8.cell? ⟨w4.heap.size, 0, none⟩ = some (.int .i64 r0.frm) := Xg0_8.out.1
  have c_g01 : w8.cell? ⟨w4.heap.size, 1, none⟩ = some (.int .i64 r0.too) := Xg0_8.out.2.1
  have c_g02 : w8.cell? ⟨w4.heap.size, 2, none⟩ = some (.int .i64 r0.wd) := Xg0_8.out.2.2.1
  have c_g03 : w8.cell? ⟨w4.heap.size, 3, none⟩ = some (.slice g0_0 r0.added.length g0_1) := Xg0_8.out.2.2.2.1
  have c_g04 : w8.cell? ⟨w4.heap.size, 4, none⟩ = some (.slice g0_2 r0.removed.length g0_3) := Xg0_8.out.2.2.2.2.1
  have c_w00 : w8.cell? ⟨w2.heap.size, 0, none⟩ = some (.int .i64 r0.frm) := Xw0_8.out.1
  have c_w01 : w8.cell? ⟨w2.heap.size, 1, none⟩ = some (.int .i64 r0.too) := Xw0_8.out.2.1
  have c_w02 : w8.cell? ⟨w2.heap.size, 2, none⟩ = some (.int .i64 r0.wd) := Xw0_8.out.2.2.1
  have c_w03 : w8.cell? ⟨w2.heap.size, 3, none⟩ = some (.slice w0_0 r0.added.length w0_1) := Xw0_8.out.2.2.2.1
  have c_w04 : w8.cell? ⟨w2.heap.size, 4, none⟩ = some (.slice w0_2 r0.removed.length w0_3) := Xw0_8.out.2.2.2.2.1
  go_wp2_with fail
  go_at_call 22
  refine (eqCalendar_x _ _ r0 _ ((Ig0_8.out).at) ((Iw0_8.out).at) HQ0.out).mono ?_
  rintro e w9 ⟨rfl, hb⟩
  have hX9 : Hid (Below w8.heap.size w8 w9) := hb
  have hz9 : W.heap.size + 0 ≤ w9.heap.size ∧ w8.heap.size + 0 ≤ w9.heap.size := by have h1 := hb.size; (try simp at h1); omega
  have HB9 : Hid (Below W.heap.size W w9) := HB8.out.trans (hX9.out.mono (by omega))
  have Iw0_9 := Lib.hid (Iw0_8.out.later hX9.out)
  clear Iw0_8
  have Xw0_9 := Lib.hid (Xw0_8.out.keep hX9.out)
  clear Xw0_8
  have Ig0_9 := Lib.hid (Ig0_8.out.later hX9.out)
  clear Ig0_8
  have Xg0_9 := Lib.hid (Xg0_8.out.keep hX9.out)
  clear Xg0_8
  clear c_g00 c_g01 c_g02 c_g03 c_g04 c_w00 c_w01 c_w02 c_w03 c_w04
  clear hb
  -- m = markCalendar(g0, m)
  have c_g00 : w9.cell? ⟨w4.heap.size, 0, none⟩ = some (.int .i64 r0.frm) := Xg0_9.out.1
  have c_g01 : w9.cell? ⟨w4.heap.size, 1, none⟩ = some (.int .i64 r0.too) := Xg0_9.out.2.1
  have c_g02 : w9.cell? ⟨w4.heap.size, 2, none⟩ = some (.int .i64 r0.wd) := Xg0_9.out.2.2.1
  have c_g03 : w9.cell? ⟨w4.heap.size, 3, none⟩ = some (.slice g0_0 r0.added.length g0_1) := Xg0_9.out.2.2.2.1
  have c_g04 : w9.cell? ⟨w4.heap.size, 4, none⟩ = some (.slice g0_2 r0.removed.length g0_3) := Xg0_9.out.2.2.2.2.1
  go_wp2_with fail
  have hsq0 := HQ0.out
  try unfold CalSmall at hsq0
  go_at_call 31
  refine (markCalendar_x _ r0 _ _ _ _ Ig0_9.out (by omega) (by omega) HQ0.out (by omega) (by omega)).mono ?_
  rintro e w10 ⟨rfl, hmk, ho⟩
  have M0_new := Lib.hid hmk
  clear hmk
  have hX10 : Hid (Out (_) (_) w9 w10) := ho
  have hz10 : W.heap.size + 0 ≤ w10.heap.size ∧ w9.heap.size ≤ w10.heap.size := ⟨by have := hX10.out.below.size; omega, hX10.out.below.size⟩
  have HB10 : Hid (Below W.heap.size W w10) := HB9.out.trans (hX10.out.below.mono (by omega))
  have Iw0_10 := Lib.hid (Iw0_9.out.out hX10.out (by omega))
  clear Iw0_9
  have Xw0_10 := Lib.hid (Xw0_9.out.out hX10.out (by omega))
  clear Xw0_9
  clear Ig0_9
  have Xg0_10 := Lib.hid (Xg0_9.out.out hX10.out (by omega))
  clear Xg0_9
  clear c_g00 c_g01 c_g02 c_g03 c_g04
  clear ho
  have M0_10 := M0_new
  clear M0_new
  -- q = heldCalendar(g0, q)
  have c_g00 : w10.cell? ⟨w4.heap.size, 0, none⟩ = some (.int .i64 r0.frm) := Xg0_10.out.1
  have c_g01 : w10.cell? ⟨w4.heap.size, 1, none⟩ = some (.int .i64 r0.too) := Xg0_10.out.2.1
  have c_g02 : w10.cell? ⟨w4.heap.size, 2, none⟩ = some (.int .i64 r0.wd) := Xg0_10.out.2.2.1
  have c_g03 : w10.cell? ⟨w4.heap.size, 3, none⟩ = some (.slice g0_0 r0.added.length g0_1) := Xg0_10.out.2.2.2.1
  have c_g04 : w10.cell? ⟨w4.heap.size, 4, none⟩ = some (.slice g0_2 r0.removed.length g0_3) := Xg0_10.out.2.2.2.2.1
  go_wp2_with fail
  go_at_call 32
  refine (heldCalendar_x _ r0 _ _ (M0_10.out) HQ0.out (by omega) (by omega)).mono ?_
  rintro e w11 ⟨rfl, hb⟩
  have hX11 : Hid (Below w10.heap.size w10 w11) := hb
  have hz11 : W.heap.size + 0 ≤ w11.heap.size ∧ w10.heap.size + 0 ≤ w11.heap.size := by have h1 := hb.size; (try simp at h1); omega
  have HB11 : Hid (Below W.heap.size W w11) := HB10.out.trans (hX11.out.mono (by omega))
  have Iw0_11 := Lib.hid (Iw0_10.out.later hX11.out)
  clear Iw0_10
  have Xw0_11 := Lib.hid (Xw0_10.out.keep hX11.out)
  clear Xw0_10
  have Xg0_11 := Lib.hid (Xg0_10.out.keep hX11.out)
  clear Xg0_10
  have M0_11 := Lib.hid (M0_10.out.later hX11.out)
  clear M0_10
  clear c_g00 c_g01 c_g02 c_g03 c_g04
  clear hb
  have hqq : ((1 : Int) + (r0.added.length : Int) + (r0.removed.length : Int) != 1 + (r0.added.length : Int) + (r0.removed.length : Int)) = false := by simp
  -- h0, h1 := impl.FitCalendar(aFrom, aTo, toIntS(aDays))
  go_wp2_with fail
  go_at_call 39
  refine (HT2.out _ ((((((((((hX1.out.trans (hX2.out.mono (by omega))).trans (hX3.out.mono (by omega))).trans (hX4.out.mono (by omega))).trans (hX5.out.mono (by omega))).trans (hX6.out.mono (by omega))).trans (hX7.out.mono (by omega))).trans (hX8.out.below.mono (by omega))).trans (hX9.out.mono (by omega))).trans (hX10.out.below.mono (by omega))).trans (hX11.out.mono (by omega)))).mono ?_
  rintro e w12 ⟨yh2_0, yh2_1, rfl, hown, hb⟩
  have Iht2_new := Lib.hid hown
  clear hown
  have hX12 : Hid (Below w11.heap.size w11 w12) := hb
  have hz12 : W.heap.size + 0 ≤ w12.heap.size ∧ w11.heap.size + 0 ≤ w12.heap.size := by have h1 := hb.size; (try simp at h1); omega
  have HB12 : Hid (Below W.heap.size W w12) := HB11.out.trans (hX12.out.mono (by omega))
  have Iw0_12 := Lib.hid (Iw0_11.out.later hX12.out)
  clear Iw0_11
  have Xw0_12 := Lib.hid (Xw0_11.out.keep hX12.out)
  clear Xw0_11
  have Xg0_12 := Lib.hid (Xg0_11.out.keep hX12.out)
  clear Xg0_11
  have M0_12 := Lib.hid (M0_11.out.later hX12.out)
  clear M0_11
  clear hb
  have T2_12 := Iht2_new
  clear Iht2_new
  go_wp2_with fail
  go_at_call 40
  refine (HImpl.out _ _ ((T2_12.out).at)).mono ?_
  rintro e w13 ⟨zh0, rfl, hi0, hb⟩
  obtain ⟨h0_0, h0_1, h0_2, h0_3, rfl⟩ := Calendar_open hi0.at
  have Ih0_new := Lib.hid hi0
  clear hi0
  have hX13 : Hid (Below w12.heap.size w12 w13) := hb
  have hz13 : W.heap.size + 0 ≤ w13.heap.size ∧ w12.heap.size + 0 ≤ w13.heap.size := by have h1 := hb.size; (try simp at h1); omega
  have HB13 : Hid (Below W.heap.size W w13) := HB12.out.trans (hX13.out.mono (by omega))
  have Iw0_13 := Lib.hid (Iw0_12.out.later hX13.out)
  clear Iw0_12
  have Xw0_13 := Lib.hid (Xw0_12.out.keep hX13.out)
  clear Xw0_12
  have Xg0_13 := Lib.hid (Xg0_12.out.keep hX13.out)
  clear Xg0_12
  have M0_13 := Lib.hid (M0_12.out.later hX13.out)
  clear M0_12
  have T2_13 := Lib.hid (T2_12.out.later hX13.out)
  clear T2_12
  clear hb
  clear T2_13
  have Ih0_13 := Ih0_new
  clear Ih0_new
  -- if !eqCalendar(h0, w0) || h1 != w1 {
  have c_w00 : w13.cell? ⟨w2.heap.size, 0, none⟩ = some (.int .i64 r0.frm) := Xw0_13.out.1
  have c_w01 : w13.cell? ⟨w2.heap.size, 1, none⟩ = some (.int .i64 r0.too) := Xw0_13.out.2.1
  have c_w02 : w13.cell? ⟨w2.heap.size, 2, none⟩ = some (.int .i64 r0.wd) := Xw0_13.out.2.2.1
  have c_w03 : w13.cell? ⟨w2.heap.size, 3, none⟩ = some (.slice w0_0 r0.added.length w0_1) := Xw0_13.out.2.2.2.1
  have c_w04 : w13.cell? ⟨w2.heap.size, 4, none⟩ = some (.slice w0_2 r0.removed.length w0_3) := Xw0_13.out.2.2.2.2.1
  have hlt_w0 : w2.heap.size < w13.heap.size := by omega
  go_wp2_with fail
  go_at_call 22
  refine (eqCalendar_x _ _ r0 _ (((Ih0_13.out).at).below rfl ((Below.refl _ _).alloc (by first | omega | (simp; omega) | simp) _)) (((Iw0_13.out).at).below rfl ((Below.refl _ _).alloc (by first | omega | (simp; omega) | simp) _)) HQ0.out).mono ?_
  rintro e w14 ⟨rfl, hb⟩
  have hX14 : Hid (Below w13.heap.size w13 w14) := ((Below.refl _ _).alloc (by first | omega | (simp; omega) | simp) _).trans (hb.mono (by first | omega | (simp; omega) | simp))
  have hz14 : W.heap.size + 0 ≤ w14.heap.size ∧ w13.heap.size + 1 ≤ w14.heap.size := by have h1 := hb.size; (try simp at h1); omega
  have HB14 : Hid (Below W.heap.size W w14) := HB13.out.trans (hX14.out.mono (by omega))
  have Iw0_14 := Lib.hid (Iw0_13.out.later hX14.out)
  clear Iw0_13
  have Xw0_14 := Lib.hid (Xw0_13.out.keep hX14.out)
  clear Xw0_13
  have Xg0_14 := Lib.hid (Xg0_13.out.keep hX14.out)
  clear Xg0_13
  have M0_14 := Lib.hid (M0_13.out.later hX14.out)
  clear M0_13
  have Ih0_14 := Lib.hid (Ih0_13.out.later hX14.out)
  clear Ih0_13
  have n_0 : w14.cell? ⟨w13.heap.size, 0, none⟩ = some (.int .i64 r0.frm) := bkeep hb (by go_simp)
  have n_1 : w14.cell? ⟨w13.heap.size, 1, none⟩ = some (.int .i64 r0.too) := bkeep hb (by go_simp)
  have n_2 : w14.cell? ⟨w13.heap.size, 2, none⟩ = some (.int .i64 r0.wd) := bkeep hb (by go_simp)
  have n_3 : w14.cell? ⟨w13.heap.size, 3, none⟩ = some (.slice h0_0 r0.added.length h0_1) := bkeep hb (by go_simp)
  have n_4 : w14.cell? ⟨w13.heap.size, 4, none⟩ = some (.slice h0_2 r0.removed.length h0_3) := bkeep hb (by go_simp)
  have Xh0_14 : Hid (CellsF w14 (w13.heap.size) 0 [(.int .i64 r0.frm), (.int .i64 r0.too), (.int .i64 r0.wd), (.slice h0_0 r0.added.length h0_1), (.slice h0_2 r0.removed.length h0_3)]) := ⟨n_0, n_1, n_2, n_3, n_4, trivial⟩
  clear n_0 n_1 n_2 n_3 n_4
  clear c_w00 c_w01 c_w02 c_w03 c_w04 hlt_w0
  clear hb
  clear Ih0_14
  clear Xh0_14
  -- q = heldCalendar(g0, q)
  have c_g00 : w14.cell? ⟨w4.heap.size, 0, none⟩ = some (.int .i64 r0.frm) := Xg0_14.out.1
  have c_g01 : w14.cell? ⟨w4.heap.size, 1, none⟩ = some (.int .i64 r0.too) := Xg0_14.out.2.1
  have c_g02 : w14.cell? ⟨w4.heap.size, 2, none⟩ = some (.int .i64 r0.wd) := Xg0_14.out.2.2.1
  have c_g03 : w14.cell? ⟨w4.heap.size, 3, none⟩ = some (.slice g0_0 r0.added.length g0_1) := Xg0_14.out.2.2.2.1
  have c_g04 : w14.cell? ⟨w4.heap.size, 4, none⟩ = some (.slice g0_2 r0.removed.length g0_3) := Xg0_14.out.2.2.2.2.1
  go_wp2_with fail
  go_at_call 32
  refine (heldCalendar_x _ r0 _ _ (M0_14.out) HQ0.out (by omega) (by omega)).mono ?_
  rintro e w15 ⟨rfl, hb⟩
  have hX15 : Hid (Below w14.heap.size w14 w15) := hb
  have hz15 : W.heap.size + 0 ≤ w15.heap.size ∧ w14.heap.size + 0 ≤ w15.heap.size := by have h1 := hb.size; (try simp at h1); omega
  have HB15 : Hid (Below W.heap.size W w15) := HB14.out.trans (hX15.out.mono (by omega))
  have Iw0_15 := Lib.hid (Iw0_14.out.later hX15.out)
  clear Iw0_14
  have Xw0_15 := Lib.hid (Xw0_14.out.keep hX15.out)
  clear Xw0_14
  have Xg0_15 := Lib.hid (Xg0_14.out.keep hX15.out)
  clear Xg0_14
  have M0_15 := Lib.hid (M0_14.out.later hX15.out)
  clear M0_14
  clear c_g00 c_g01 c_g02 c_g03 c_g04
  clear hb
  have hqq : ((1 : Int) + (r0.added.length : Int) + (r0.removed.length : Int) != 1 + (r0.added.length : Int) + (r0.removed.length : Int)) = false := by simp
  go_wp2_with fail
  go_ret
  exact ⟨rfl, HB15.out⟩
end Go.Proofs.Ytbbcjponeiphaaa.fnExactFitCalendar
