/-
  THE WALK of laws.FnExactFormatCalendar: for every argument the law returns true and nothing that was in memory turns.
-/
import Derived.Test.YtffcgblionlhhaaDoorFormatCalendar
import Derived.Test.YtffcgblionlhhaaDoorLaid
import Derived.Test.YtffcgblionlhhaaDoorCalX
namespace Go.Proofs.YtffcgblionlhhaaDoor.fnExactFormatCalendar
open Go.RowKit
set_option linter.unusedVariables false
set_option linter.unusedSimpArgs false

theorem keep10 {W w w' : World} {p0 p1 p2 p3 p4 p5 p6 p7 p8 p9 : Addr} {x0 x1 x2 x3 x4 x5 x6 x7 x8 x9 : Value} (hb : Below w.heap.size w w') (h : w.cell? p0 = some x0 ∧ w.cell? p1 = some x1 ∧ w.cell? p2 = some x2 ∧ w.cell? p3 = some x3 ∧ w.cell? p4 = some x4 ∧ w.cell? p5 = some x5 ∧ w.cell? p6 = some x6 ∧ w.cell? p7 = some x7 ∧ w.cell? p8 = some x8 ∧ w.cell? p9 = some x9 ∧ Below W.heap.size W w) : w'.cell? p0 = some x0 ∧ w'.cell? p1 = some x1 ∧ w'.cell? p2 = some x2 ∧ w'.cell? p3 = some x3 ∧ w'.cell? p4 = some x4 ∧ w'.cell? p5 = some x5 ∧ w'.cell? p6 = some x6 ∧ w'.cell? p7 = some x7 ∧ w'.cell? p8 = some x8 ∧ w'.cell? p9 = some x9 ∧ Below W.heap.size W w' := by
  obtain ⟨h0, h1, h2, h3, h4, h5, h6, h7, h8, h9, hl⟩ := h
  exact ⟨bkeep hb h0, bkeep hb h1, bkeep hb h2, bkeep hb h3, bkeep hb h4, bkeep hb h5, bkeep hb h6, bkeep hb h7, bkeep hb h8, bkeep hb h9, hl.trans (hb.mono hl.size)⟩
theorem bel10 {W w : World} {p0 p1 p2 p3 p4 p5 p6 p7 p8 p9 : Addr} {x0 x1 x2 x3 x4 x5 x6 x7 x8 x9 : Value} (h : w.cell? p0 = some x0 ∧ w.cell? p1 = some x1 ∧ w.cell? p2 = some x2 ∧ w.cell? p3 = some x3 ∧ w.cell? p4 = some x4 ∧ w.cell? p5 = some x5 ∧ w.cell? p6 = some x6 ∧ w.cell? p7 = some x7 ∧ w.cell? p8 = some x8 ∧ w.cell? p9 = some x9 ∧ Below W.heap.size W w) : Below W.heap.size W w := h.2.2.2.2.2.2.2.2.2.2

set_option maxRecDepth 100000 in
set_option maxHeartbeats 8000000 in
theorem walk (v0 : Value) (W : World) (S0 : ∃ d, CalAt W v0 d ∧ CalFits d) (hL : laidMetH Tryd.prog Rows.fnExactFormatCalendarRow.laid W) (hsh : W.ShapedOpen Tryd.prog) :
    Calls Tryd.prog 3 #[v0] W fun e w' => e = .returned (.bool true) ∧ Below W.heap.size W w' := by
  have HPow := Lib.hid (show PowAt W from fun W' h => powTab (by rfl) hL W' h)
  clear hL hsh
  obtain ⟨d0, hr0, hf0⟩ := S0
  obtain ⟨u0_0, u0_1, u0_2, u0_3, rfl⟩ := Calendar_open hr0
  have A0_0 := Lib.hid hr0
  have HF0 := Lib.hid hf0
  clear hr0 hf0
  go_enter Tryd.func3, Tryd.ntmps3
  -- left = szCalendar(aC, left)
  go_wp2_with fail
  go_at_call 10
  refine (szCalendar_x _ d0 _ _ ((A0_0.out).below rfl ((Below.refl _ _).alloc (by first | omega | (simp; omega) | simp) _)) HF0.out (by omega) (by omega)).mono ?_
  rintro e w1 ⟨⟨z0, rfl, hz⟩, hb⟩
  have hX1 : Hid (Below W.heap.size W w1) := ((Below.refl _ _).alloc (by first | omega | (simp; omega) | simp) _).trans (hb.mono (by first | omega | (simp; omega) | simp))
  have hz1 : W.heap.size + 1 ≤ w1.heap.size ∧ W.heap.size + 1 ≤ w1.heap.size := by have h1 := hb.size; (try simp at h1); omega
  have HB1 : Hid (Below W.heap.size W w1) := hX1
  have A0_1 := Lib.hid (A0_0.out.below rfl hX1.out)
  clear A0_0
  have n_0 : w1.cell? ⟨W.heap.size, 0, none⟩ = some (.int .i64 d0.frm) := bkeep hb (by go_simp)
  have n_1 : w1.cell? ⟨W.heap.size, 1, none⟩ = some (.int .i64 d0.too) := bkeep hb (by go_simp)
  have n_2 : w1.cell? ⟨W.heap.size, 2, none⟩ = some (.int .i64 d0.wd) := bkeep hb (by go_simp)
  have n_3 : w1.cell? ⟨W.heap.size, 3, none⟩ = some (.slice u0_0 d0.added.length u0_1) := bkeep hb (by go_simp)
  have n_4 : w1.cell? ⟨W.heap.size, 4, none⟩ = some (.slice u0_2 d0.removed.length u0_3) := bkeep hb (by go_simp)
  have XaC_1 : Hid (CellsF w1 (W.heap.size) 0 [(.int .i64 d0.frm), (.int .i64 d0.too), (.int .i64 d0.wd), (.slice u0_0 d0.added.length u0_1), (.slice u0_2 d0.removed.length u0_3)]) := ⟨n_0, n_1, n_2, n_3, n_4, trivial⟩
  clear n_0 n_1 n_2 n_3 n_4
  clear hb
  rcases hz with rfl | ⟨hz0, hz1, hsm⟩
  · go_wp2_with fail
    go_ret
    exact ⟨rfl, HB1.out⟩
  have HSm0 := Lib.hid hsm
  clear hsm
  have HT0 := Lib.hid (fun w (h : Below w1.heap.size w1 w) => toCalendar_x _ d0 w (A0_1.out.below rfl h) HSm0.out)
  obtain ⟨r0, r1, hboth⟩ := bothFormatCalendar d0 HF0.out HSm0.out
  have HSpec := Lib.hid (fun v0 w (h0 : CalAt w v0 d0) => (hboth v0 w h0).1)
  have HImpl := Lib.hid (fun v0 w (h0 : CalAt w v0 d0) (hp : PowAt w) => (hboth v0 w h0).2 hp)
  clear hboth
  have hne0 : (r0.toList != r0.toList) = false := by simp
  have hne1 : (r1 != r1) = false := by simp
  -- w0, w1 := spec.FormatCalendar(toCalendar(aC))
  have c_aC0 : w1.cell? ⟨W.heap.size, 0, none⟩ = some (.int .i64 d0.frm) := XaC_1.out.1
  have c_aC1 : w1.cell? ⟨W.heap.size, 1, none⟩ = some (.int .i64 d0.too) := XaC_1.out.2.1
  have c_aC2 : w1.cell? ⟨W.heap.size, 2, none⟩ = some (.int .i64 d0.wd) := XaC_1.out.2.2.1
  have c_aC3 : w1.cell? ⟨W.heap.size, 3, none⟩ = some (.slice u0_0 d0.added.length u0_1) := XaC_1.out.2.2.2.1
  have c_aC4 : w1.cell? ⟨W.heap.size, 4, none⟩ = some (.slice u0_2 d0.removed.length u0_3) := XaC_1.out.2.2.2.2.1
  go_wp2_with fail
  go_at_call 12
  refine (HT0.out _ (Below.refl _ _)).mono ?_
  rintro e w2 ⟨yw0_0, yw0_1, yw0_2, yw0_3, rfl, hown, hb⟩
  have Iwt0_new := Lib.hid hown
  clear hown
  have hX2 : Hid (Below w1.heap.size w1 w2) := hb
  have hz2 : W.heap.size + 1 ≤ w2.heap.size ∧ w1.heap.size + 0 ≤ w2.heap.size := by have h1 := hb.size; (try simp at h1); omega
  have HB2 : Hid (Below W.heap.size W w2) := HB1.out.trans (hX2.out.mono (by omega))
  have A0_2 := Lib.hid (A0_1.out.below rfl hX2.out)
  clear A0_1
  have XaC_2 := Lib.hid (XaC_1.out.keep hX2.out)
  clear XaC_1
  clear c_aC0 c_aC1 c_aC2 c_aC3 c_aC4
  clear hb
  have T0_2 := Iwt0_new
  clear Iwt0_new
  go_wp2_with fail
  go_at_call 11
  refine (HSpec.out _ _ ((T0_2.out).at)).mono ?_
  rintro e w3 ⟨rfl, hb⟩
  have hX3 : Hid (Below w2.heap.size w2 w3) := hb
  have hz3 : W.heap.size + 1 ≤ w3.heap.size ∧ w2.heap.size + 0 ≤ w3.heap.size := by have h1 := hb.size; (try simp at h1); omega
  have HB3 : Hid (Below W.heap.size W w3) := HB2.out.trans (hX3.out.mono (by omega))
  have A0_3 := Lib.hid (A0_2.out.below rfl hX3.out)
  clear A0_2
  have XaC_3 := Lib.hid (XaC_2.out.keep hX3.out)
  clear XaC_2
  have T0_3 := Lib.hid (T0_2.out.later hX3.out)
  clear T0_2
  clear hb
  clear T0_3
  -- x0 := toCalendar(aC)
  have c_aC0 : w3.cell? ⟨W.heap.size, 0, none⟩ = some (.int .i64 d0.frm) := XaC_3.out.1
  have c_aC1 : w3.cell? ⟨W.heap.size, 1, none⟩ = some (.int .i64 d0.too) := XaC_3.out.2.1
  have c_aC2 : w3.cell? ⟨W.heap.size, 2, none⟩ = some (.int .i64 d0.wd) := XaC_3.out.2.2.1
  have c_aC3 : w3.cell? ⟨W.heap.size, 3, none⟩ = some (.slice u0_0 d0.added.length u0_1) := XaC_3.out.2.2.2.1
  have c_aC4 : w3.cell? ⟨W.heap.size, 4, none⟩ = some (.slice u0_2 d0.removed.length u0_3) := XaC_3.out.2.2.2.2.1
  go_wp2_with fail
  go_at_call 12
  refine (HT0.out _ (hX2.out.trans (hX3.out.mono (by omega)))).mono ?_
  rintro e w4 ⟨x0_0, x0_1, x0_2, x0_3, rfl, hown, hb⟩
  have Ix0_new := Lib.hid hown
  clear hown
  have hX4 : Hid (Below w3.heap.size w3 w4) := hb
  have hz4 : W.heap.size + 1 ≤ w4.heap.size ∧ w3.heap.size + 0 ≤ w4.heap.size := by have h1 := hb.size; (try simp at h1); omega
  have HB4 : Hid (Below W.heap.size W w4) := HB3.out.trans (hX4.out.mono (by omega))
  have A0_4 := Lib.hid (A0_3.out.below rfl hX4.out)
  clear A0_3
  have XaC_4 := Lib.hid (XaC_3.out.keep hX4.out)
  clear XaC_3
  clear c_aC0 c_aC1 c_aC2 c_aC3 c_aC4
  clear hb
  have Ix0_4 := Ix0_new
  clear Ix0_new
  -- g0, g1 := impl.FormatCalendar(x0)
  go_wp2_with fail
  go_at_call 13
  refine (HImpl.out _ _ (((Ix0_4.out).at).below rfl ((Below.refl _ _).alloc (by first | omega | (simp; omega) | simp) _)) (HPow.out.later (HB4.out.alloc (by have := hz4; simp <;> omega) _))).mono ?_
  rintro e w5 ⟨rfl, hb⟩
  have hX5 : Hid (Below w4.heap.size w4 w5) := ((Below.refl _ _).alloc (by first | omega | (simp; omega) | simp) _).trans (hb.mono (by first | omega | (simp; omega) | simp))
  have hz5 : W.heap.size + 1 ≤ w5.heap.size ∧ w4.heap.size + 1 ≤ w5.heap.size := by have h1 := hb.size; (try simp at h1); omega
  have HB5 : Hid (Below W.heap.size W w5) := HB4.out.trans (hX5.out.mono (by omega))
  have A0_5 := Lib.hid (A0_4.out.below rfl hX5.out)
  clear A0_4
  have XaC_5 := Lib.hid (XaC_4.out.keep hX5.out)
  clear XaC_4
  have Ix0_5 := Lib.hid (Ix0_4.out.later hX5.out)
  clear Ix0_4
  have n_0 : w5.cell? ⟨w4.heap.size, 0, none⟩ = some (.int .i64 d0.frm) := bkeep hb (by go_simp)
  have n_1 : w5.cell? ⟨w4.heap.size, 1, none⟩ = some (.int .i64 d0.too) := bkeep hb (by go_simp)
  have n_2 : w5.cell? ⟨w4.heap.size, 2, none⟩ = some (.int .i64 d0.wd) := bkeep hb (by go_simp)
  have n_3 : w5.cell? ⟨w4.heap.size, 3, none⟩ = some (.slice x0_0 d0.added.length x0_1) := bkeep hb (by go_simp)
  have n_4 : w5.cell? ⟨w4.heap.size, 4, none⟩ = some (.slice x0_2 d0.removed.length x0_3) := bkeep hb (by go_simp)
  have Xx0_5 : Hid (CellsF w5 (w4.heap.size) 0 [(.int .i64 d0.frm), (.int .i64 d0.too), (.int .i64 d0.wd), (.slice x0_0 d0.added.length x0_1), (.slice x0_2 d0.removed.length x0_3)]) := ⟨n_0, n_1, n_2, n_3, n_4, trivial⟩
  clear n_0 n_1 n_2 n_3 n_4
  clear hb
  -- if g0 != w0 || g1 != w1 {
  -- if !eqCalendar(x0, toCalendar(aC)) {
  have c_x00 : w5.cell? ⟨w4.heap.size, 0, none⟩ = some (.int .i64 d0.frm) := Xx0_5.out.1
  have c_x01 : w5.cell? ⟨w4.heap.size, 1, none⟩ = some (.int .i64 d0.too) := Xx0_5.out.2.1
  have c_x02 : w5.cell? ⟨w4.heap.size, 2, none⟩ = some (.int .i64 d0.wd) := Xx0_5.out.2.2.1
  have c_x03 : w5.cell? ⟨w4.heap.size, 3, none⟩ = some (.slice x0_0 d0.added.length x0_1) := Xx0_5.out.2.2.2.1
  have c_x04 : w5.cell? ⟨w4.heap.size, 4, none⟩ = some (.slice x0_2 d0.removed.length x0_3) := Xx0_5.out.2.2.2.2.1
  have c_aC0 : w5.cell? ⟨W.heap.size, 0, none⟩ = some (.int .i64 d0.frm) := XaC_5.out.1
  have c_aC1 : w5.cell? ⟨W.heap.size, 1, none⟩ = some (.int .i64 d0.too) := XaC_5.out.2.1
  have c_aC2 : w5.cell? ⟨W.heap.size, 2, none⟩ = some (.int .i64 d0.wd) := XaC_5.out.2.2.1
  have c_aC3 : w5.cell? ⟨W.heap.size, 3, none⟩ = some (.slice u0_0 d0.added.length u0_1) := XaC_5.out.2.2.2.1
  have c_aC4 : w5.cell? ⟨W.heap.size, 4, none⟩ = some (.slice u0_2 d0.removed.length u0_3) := XaC_5.out.2.2.2.2.1
  go_wp2_with fail
  go_region_held3 (fun w' => w'.cell? ⟨w4.heap.size, 0, none⟩ = some (.int .i64 d0.frm) ∧ w'.cell? ⟨w4.heap.size, 1, none⟩ = some (.int .i64 d0.too) ∧ w'.cell? ⟨w4.heap.size, 2, none⟩ = some (.int .i64 d0.wd) ∧ w'.cell? ⟨w4.heap.size, 3, none⟩ = some (.slice x0_0 d0.added.length x0_1) ∧ w'.cell? ⟨w4.heap.size, 4, none⟩ = some (.slice x0_2 d0.removed.length x0_3) ∧ w'.cell? ⟨W.heap.size, 0, none⟩ = some (.int .i64 d0.frm) ∧ w'.cell? ⟨W.heap.size, 1, none⟩ = some (.int .i64 d0.too) ∧ w'.cell? ⟨W.heap.size, 2, none⟩ = some (.int .i64 d0.wd) ∧ w'.cell? ⟨W.heap.size, 3, none⟩ = some (.slice u0_0 d0.added.length u0_1) ∧ w'.cell? ⟨W.heap.size, 4, none⟩ = some (.slice u0_2 d0.removed.length u0_3) ∧ Below w5.heap.size w5 w')
    (first | (exact ⟨c_x00, c_x01, c_x02, c_x03, c_x04, c_aC0, c_aC1, c_aC2, c_aC3, c_aC4, (Below.refl _ _).drew⟩) | (exact keep10 hb (by assumption)))
    (first | (go_at_call 12; refine (HT0.out _ ((((hX2.out.trans (hX3.out.mono (by omega))).trans (hX4.out.mono (by omega))).trans (hX5.out.mono (by omega))).trans ((bel10 (by assumption)).mono (by omega)))).mono ?_; rintro e w' ⟨yy0_0, yy0_1, yy0_2, yy0_3, rfl, hown, hb⟩) | (go_at_call 14; refine (eqCalendar_x _ _ d0 _ (Ix0_5.out.at.below rfl (bel10 (by assumption))) hown.at HSm0.out).mono ?_; rintro e w' ⟨rfl, hb⟩))
  obtain ⟨_, _, _, _, _, _, _, _, _, _, hb⟩ := (by assumption : _ ∧ _)
  obtain ⟨w6, hww⟩ : ∃ q : World, q = w' := ⟨_, rfl⟩
  subst hww
  have hX6 : Hid (Below w5.heap.size w5 w6) := hb
  have hz6 : W.heap.size + 1 ≤ w6.heap.size ∧ w5.heap.size + 0 ≤ w6.heap.size := by have h1 := hb.size; (try simp at h1); omega
  have HB6 : Hid (Below W.heap.size W w6) := HB5.out.trans (hX6.out.mono (by omega))
  have A0_6 := Lib.hid (A0_5.out.below rfl hX6.out)
  clear A0_5
  have XaC_6 := Lib.hid (XaC_5.out.keep hX6.out)
  clear XaC_5
  have Ix0_6 := Lib.hid (Ix0_5.out.later hX6.out)
  clear Ix0_5
  have Xx0_6 := Lib.hid (Xx0_5.out.keep hX6.out)
  clear Xx0_5
  clear c_x00 c_x01 c_x02 c_x03 c_x04 c_aC0 c_aC1 c_aC2 c_aC3 c_aC4
  clear hb
  go_wp2_with fail
  go_ret
  exact ⟨rfl, HB6.out⟩
end Go.Proofs.YtffcgblionlhhaaDoor.fnExactFormatCalendar
