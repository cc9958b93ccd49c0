/-
  THE WALK of laws.FnExactReverseLine: for every argument the law returns true and nothing that was in memory turns.
-/
import Derived.Test.YtffcgblionlhhaaReverseLine
import Derived.Test.YtffcgblionlhhaaReverseLineS
namespace Go.Proofs.Ytffcgblionlhhaa.fnExactReverseLine
open Go.RowKit
set_option linter.unusedVariables false
set_option linter.unusedSimpArgs false

theorem keep4 {W w w' : World} {p0 p1 p2 p3 : Addr} {x0 x1 x2 x3 : Value} (hb : Below w.heap.size w w') (h : w.cell? p0 = some x0 ∧ w.cell? p1 = some x1 ∧ w.cell? p2 = some x2 ∧ w.cell? p3 = some x3 ∧ Below W.heap.size W w) : w'.cell? p0 = some x0 ∧ w'.cell? p1 = some x1 ∧ w'.cell? p2 = some x2 ∧ w'.cell? p3 = some x3 ∧ Below W.heap.size W w' := by
  obtain ⟨h0, h1, h2, h3, hl⟩ := h
  exact ⟨bkeep hb h0, bkeep hb h1, bkeep hb h2, bkeep hb h3, hl.trans (hb.mono hl.size)⟩
theorem bel4 {W w : World} {p0 p1 p2 p3 : Addr} {x0 x1 x2 x3 : Value} (h : w.cell? p0 = some x0 ∧ w.cell? p1 = some x1 ∧ w.cell? p2 = some x2 ∧ w.cell? p3 = some x3 ∧ Below W.heap.size W w) : Below W.heap.size W w := h.2.2.2.2

set_option maxRecDepth 100000 in
set_option maxHeartbeats 8000000 in
theorem walk (v0 : Value) (a1 : Int) (a2 : ByteArray) (W : World) (S0 : ∃ d, NetAt W v0 d ∧ NetFits d) (w1 : (Lit.int .i64 a1).wf = true) (w2 : a2.size ≤ maxLen) (hL : laidMetH Try.prog Rows.fnExactReverseLineRow.laid W) (hsh : W.ShapedOpen Try.prog) :
    Calls Try.prog 6 #[v0, .int .i64 a1, .string a2] W fun e w' => e = .returned (.bool true) ∧ Below W.heap.size W w' := by
  clear hL hsh
  obtain ⟨d0, hr0, hf0⟩ := S0
  obtain ⟨u0_0, u0_1, u0_2, u0_3, rfl⟩ := Network_open hr0
  have A0_0 := Lib.hid hr0
  have HF0 := Lib.hid hf0
  clear hr0 hf0
  have Hw1 := Lib.hid w1
  clear w1
  have hs2 := w2
  unfold maxLen at hs2
  -- if len(aName) > 1<<20 {
  by_cases hbig2 : 1048576 < a2.size
  · go_enter Try.func6, Try.ntmps6
    go_wp2_with fail
    go_ret
    exact ⟨rfl, ((Below.refl _ _).alloc (by first | omega | (simp; omega) | simp) _)⟩
  go_enter Try.func6, Try.ntmps6
  -- left = szNetwork(aN, left)
  go_wp2_with fail
  go_at_call 40
  refine (szNetwork_x _ d0 _ _ ((A0_0.out).below rfl ((Below.refl _ _).alloc (by first | omega | (simp; omega) | simp) _)) HF0.out (by omega) (by omega)).mono ?_
  rintro e w1 ⟨⟨z0, rfl, hz⟩, hb⟩
  have hX1 : Hid (Below W.heap.size W w1) := ((Below.refl _ _).alloc (by first | omega | (simp; omega) | simp) _).trans (hb.mono (by first | omega | (simp; omega) | simp))
  have hz1 : W.heap.size + 1 ≤ w1.heap.size ∧ W.heap.size + 1 ≤ w1.heap.size := by have h1 := hb.size; (try simp at h1); omega
  have HB1 : Hid (Below W.heap.size W w1) := hX1
  have A0_1 := Lib.hid (A0_0.out.below rfl hX1.out)
  clear A0_0
  have n_0 : w1.cell? ⟨W.heap.size, 0, none⟩ = some (.slice u0_0 d0.stops.length u0_1) := bkeep hb (by go_simp)
  have n_1 : w1.cell? ⟨W.heap.size, 1, none⟩ = some (.slice u0_2 d0.lines.length u0_3) := bkeep hb (by go_simp)
  have XaN_1 : Hid (CellsF w1 (W.heap.size) 0 [(.slice u0_0 d0.stops.length u0_1), (.slice u0_2 d0.lines.length u0_3)]) := ⟨n_0, n_1, trivial⟩
  clear n_0 n_1
  clear hb
  rcases hz with rfl | ⟨hz0, hz1, hsm⟩
  · go_wp2_with fail
    go_ret
    exact ⟨rfl, HB1.out⟩
  have HSm0 := Lib.hid hsm
  clear hsm
  have HT0 := Lib.hid (fun w (h : Below w1.heap.size w1 w) => toNetwork_x _ d0 w (A0_1.out.below rfl h) HSm0.out)
  obtain ⟨r0, r1, hq0, hboth⟩ := bothReverseLine d0 HF0.out HSm0.out a1 Hw1.out a2 w2
  have HQ0 := Lib.hid hq0
  clear hq0
  have HSpec := Lib.hid (fun v0 w (h0 : NetAt w v0 d0) => (hboth v0 w h0).1)
  have HImpl := Lib.hid (fun v0 w (h0 : NetAt w v0 d0) => (hboth v0 w h0).2)
  clear hboth
  have hne1 : (r1 != r1) = false := by simp
  -- w0, w1 := spec.ReverseLine(toNetwork(aN), aLine, aName)
  have c_aN0 : w1.cell? ⟨W.heap.size, 0, none⟩ = some (.slice u0_0 d0.stops.length u0_1) := XaN_1.out.1
  have c_aN1 : w1.cell? ⟨W.heap.size, 1, none⟩ = some (.slice u0_2 d0.lines.length u0_3) := XaN_1.out.2.1
  go_wp2_with fail
  go_at_call 41
  refine (HT0.out _ (Below.refl _ _)).mono ?_
  rintro e w2 ⟨yw0_0, yw0_1, yw0_2, yw0_3, rfl, hown, hb⟩
  have Iwt0_new := Lib.hid hown
  clear hown
  have hX2 : Hid (Below w1.heap.size w1 w2) := hb
  have hz2 : W.heap.size + 1 ≤ w2.heap.size ∧ w1.heap.size + 0 ≤ w2.heap.size := by have h1 := hb.size; (try simp at h1); omega
  have HB2 : Hid (Below W.heap.size W w2) := HB1.out.trans (hX2.out.mono (by omega))
  have A0_2 := Lib.hid (A0_1.out.below rfl hX2.out)
  clear A0_1
  have XaN_2 := Lib.hid (XaN_1.out.keep hX2.out)
  clear XaN_1
  clear c_aN0 c_aN1
  clear hb
  have T0_2 := Iwt0_new
  clear Iwt0_new
  go_wp2_with fail
  go_at_call 27
  refine (HSpec.out _ _ ((T0_2.out).at)).mono ?_
  rintro e w3 ⟨zw0, rfl, hi0, hb⟩
  obtain ⟨w0_0, w0_1, w0_2, w0_3, rfl⟩ := Network_open hi0.at
  have Iw0_new := Lib.hid hi0
  clear hi0
  have hX3 : Hid (Below w2.heap.size w2 w3) := hb
  have hz3 : W.heap.size + 1 ≤ w3.heap.size ∧ w2.heap.size + 0 ≤ w3.heap.size := by have h1 := hb.size; (try simp at h1); omega
  have HB3 : Hid (Below W.heap.size W w3) := HB2.out.trans (hX3.out.mono (by omega))
  have A0_3 := Lib.hid (A0_2.out.below rfl hX3.out)
  clear A0_2
  have XaN_3 := Lib.hid (XaN_2.out.keep hX3.out)
  clear XaN_2
  have T0_3 := Lib.hid (T0_2.out.later hX3.out)
  clear T0_2
  clear hb
  clear T0_3
  have Iw0_3 := Iw0_new
  clear Iw0_new
  -- x0 := toNetwork(aN)
  have c_aN0 : w3.cell? ⟨W.heap.size, 0, none⟩ = some (.slice u0_0 d0.stops.length u0_1) := XaN_3.out.1
  have c_aN1 : w3.cell? ⟨W.heap.size, 1, none⟩ = some (.slice u0_2 d0.lines.length u0_3) := XaN_3.out.2.1
  have hlt_aN : W.heap.size < w3.heap.size := by omega
  go_wp2_with fail
  go_at_call 41
  refine (HT0.out _ ((hX2.out.trans (hX3.out.mono (by omega))).alloc (by first | omega | (simp; omega) | simp) _)).mono ?_
  rintro e w4 ⟨x0_0, x0_1, x0_2, x0_3, rfl, hown, hb⟩
  simp only [World.size_alloc] at hown
  have Ix0_new := Lib.hid hown
  clear hown
  have hX4 : Hid (Below w3.heap.size w3 w4) := ((Below.refl _ _).alloc (by first | omega | (simp; omega) | simp) _).trans (hb.mono (by first | omega | (simp; omega) | simp))
  have hz4 : W.heap.size + 1 ≤ w4.heap.size ∧ w3.heap.size + 1 ≤ w4.heap.size := by have h1 := hb.size; (try simp at h1); omega
  have HB4 : Hid (Below W.heap.size W w4) := HB3.out.trans (hX4.out.mono (by omega))
  have A0_4 := Lib.hid (A0_3.out.below rfl hX4.out)
  clear A0_3
  have XaN_4 := Lib.hid (XaN_3.out.keep hX4.out)
  clear XaN_3
  have Iw0_4 := Lib.hid (Iw0_3.out.later hX4.out)
  clear Iw0_3
  have n_0 : w4.cell? ⟨w3.heap.size, 0, none⟩ = some (.slice w0_0 r0.stops.length w0_1) := bkeep hb (by go_simp)
  have n_1 : w4.cell? ⟨w3.heap.size, 1, none⟩ = some (.slice w0_2 r0.lines.length w0_3) := bkeep hb (by go_simp)
  have Xw0_4 : Hid (CellsF w4 (w3.heap.size) 0 [(.slice w0_0 r0.stops.length w0_1), (.slice w0_2 r0.lines.length w0_3)]) := ⟨n_0, n_1, trivial⟩
  clear n_0 n_1
  clear c_aN0 c_aN1 hlt_aN
  clear hb
  have Ix0_4 := Ix0_new
  clear Ix0_new
  -- g0, g1 := impl.ReverseLine(x0, aLine, aName)
  go_wp2_with fail
  go_at_call 26
  refine (HImpl.out _ _ (((Ix0_4.out).at).below rfl ((Below.refl _ _).alloc (by first | omega | (simp; omega) | simp) _))).mono ?_
  rintro e w5 ⟨zg0, rfl, hi0, hb⟩
  simp only [World.size_alloc] at hi0
  obtain ⟨g0_0, g0_1, g0_2, g0_3, rfl⟩ := Network_open hi0.at
  have Ig0_new := Lib.hid hi0
  clear hi0
  have hX5 : Hid (Below w4.heap.size w4 w5) := ((Below.refl _ _).alloc (by first | omega | (simp; omega) | simp) _).trans (hb.mono (by first | omega | (simp; omega) | simp))
  have hz5 : W.heap.size + 1 ≤ w5.heap.size ∧ w4.heap.size + 1 ≤ w5.heap.size := by have h1 := hb.size; (try simp at h1); omega
  have HB5 : Hid (Below W.heap.size W w5) := HB4.out.trans (hX5.out.mono (by omega))
  have A0_5 := Lib.hid (A0_4.out.below rfl hX5.out)
  clear A0_4
  have XaN_5 := Lib.hid (XaN_4.out.keep hX5.out)
  clear XaN_4
  have Iw0_5 := Lib.hid (Iw0_4.out.later hX5.out)
  clear Iw0_4
  have Xw0_5 := Lib.hid (Xw0_4.out.keep hX5.out)
  clear Xw0_4
  have Ix0_5 := Lib.hid (Ix0_4.out.later hX5.out)
  clear Ix0_4
  have n_0 : w5.cell? ⟨w4.heap.size, 0, none⟩ = some (.slice x0_0 d0.stops.length x0_1) := bkeep hb (by go_simp)
  have n_1 : w5.cell? ⟨w4.heap.size, 1, none⟩ = some (.slice x0_2 d0.lines.length x0_3) := bkeep hb (by go_simp)
  have Xx0_5 : Hid (CellsF w5 (w4.heap.size) 0 [(.slice x0_0 d0.stops.length x0_1), (.slice x0_2 d0.lines.length x0_3)]) := ⟨n_0, n_1, trivial⟩
  clear n_0 n_1
  clear hb
  have Ig0_5 := Ig0_new
  clear Ig0_new
  -- if !eqNetwork(g0, w0) || g1 != w1 {
  have c_w00 : w5.cell? ⟨w3.heap.size, 0, none⟩ = some (.slice w0_0 r0.stops.length w0_1) := Xw0_5.out.1
  have c_w01 : w5.cell? ⟨w3.heap.size, 1, none⟩ = some (.slice w0_2 r0.lines.length w0_3) := Xw0_5.out.2.1
  have hlt_w0 : w3.heap.size < w5.heap.size := by omega
  go_wp2_with fail
  go_at_call 42
  refine (eqNetwork_x _ _ r0 _ (((Ig0_5.out).at).below rfl ((Below.refl _ _).alloc (by first | omega | (simp; omega) | simp) _)) (((Iw0_5.out).at).below rfl ((Below.refl _ _).alloc (by first | omega | (simp; omega) | simp) _)) HQ0.out).mono ?_
  rintro e w6 ⟨rfl, hb⟩
  have hX6 : Hid (Below w5.heap.size w5 w6) := ((Below.refl _ _).alloc (by first | omega | (simp; omega) | simp) _).trans (hb.mono (by first | omega | (simp; omega) | simp))
  have hz6 : W.heap.size + 1 ≤ w6.heap.size ∧ w5.heap.size + 1 ≤ w6.heap.size := by have h1 := hb.size; (try simp at h1); omega
  have HB6 : Hid (Below W.heap.size W w6) := HB5.out.trans (hX6.out.mono (by omega))
  have A0_6 := Lib.hid (A0_5.out.below rfl hX6.out)
  clear A0_5
  have XaN_6 := Lib.hid (XaN_5.out.keep hX6.out)
  clear XaN_5
  have Iw0_6 := Lib.hid (Iw0_5.out.later hX6.out)
  clear Iw0_5
  have Xw0_6 := Lib.hid (Xw0_5.out.keep hX6.out)
  clear Xw0_5
  have Ix0_6 := Lib.hid (Ix0_5.out.later hX6.out)
  clear Ix0_5
  have Xx0_6 := Lib.hid (Xx0_5.out.keep hX6.out)
  clear Xx0_5
  have Ig0_6 := Lib.hid (Ig0_5.out.later hX6.out)
  clear Ig0_5
  have n_0 : w6.cell? ⟨w5.heap.size, 0, none⟩ = some (.slice g0_0 r0.stops.length g0_1) := bkeep hb (by go_simp)
  have n_1 : w6.cell? ⟨w5.heap.size, 1, none⟩ = some (.slice g0_2 r0.lines.length g0_3) := bkeep hb (by go_simp)
  have Xg0_6 : Hid (CellsF w6 (w5.heap.size) 0 [(.slice g0_0 r0.stops.length g0_1), (.slice g0_2 r0.lines.length g0_3)]) := ⟨n_0, n_1, trivial⟩
  clear n_0 n_1
  clear c_w00 c_w01 hlt_w0
  clear hb
  -- if !eqNetwork(x0, toNetwork(aN)) {
  have c_x00 : w6.cell? ⟨w4.heap.size, 0, none⟩ = some (.slice x0_0 d0.stops.length x0_1) := Xx0_6.out.1
  have c_x01 : w6.cell? ⟨w4.heap.size, 1, none⟩ = some (.slice x0_2 d0.lines.length x0_3) := Xx0_6.out.2.1
  have c_aN0 : w6.cell? ⟨W.heap.size, 0, none⟩ = some (.slice u0_0 d0.stops.length u0_1) := XaN_6.out.1
  have c_aN1 : w6.cell? ⟨W.heap.size, 1, none⟩ = some (.slice u0_2 d0.lines.length u0_3) := XaN_6.out.2.1
  go_wp2_with fail
  go_region_held3 (fun w' => w'.cell? ⟨w4.heap.size, 0, none⟩ = some (.slice x0_0 d0.stops.length x0_1) ∧ w'.cell? ⟨w4.heap.size, 1, none⟩ = some (.slice x0_2 d0.lines.length x0_3) ∧ w'.cell? ⟨W.heap.size, 0, none⟩ = some (.slice u0_0 d0.stops.length u0_1) ∧ w'.cell? ⟨W.heap.size, 1, none⟩ = some (.slice u0_2 d0.lines.length u0_3) ∧ Below w6.heap.size w6 w')
    (first | (exact ⟨c_x00, c_x01, c_aN0, c_aN1, (Below.refl _ _).drew⟩) | (exact keep4 hb (by assumption)))
    (first | (go_at_call 41; refine (HT0.out _ (((((hX2.out.trans (hX3.out.mono (by omega))).trans (hX4.out.mono (by omega))).trans (hX5.out.mono (by omega))).trans (hX6.out.mono (by omega))).trans ((bel4 (by assumption)).mono (by omega)))).mono ?_; rintro e w' ⟨yy0_0, yy0_1, yy0_2, yy0_3, rfl, hown, hb⟩) | (go_at_call 42; refine (eqNetwork_x _ _ d0 _ (Ix0_6.out.at.below rfl (bel4 (by assumption))) hown.at HSm0.out).mono ?_; rintro e w' ⟨rfl, hb⟩))
  obtain ⟨_, _, _, _, hb⟩ := (by assumption : _ ∧ _)
  obtain ⟨w7, hww⟩ : ∃ q : World, q = w' := ⟨_, rfl⟩
  subst hww
  have hX7 : Hid (Below w6.heap.size w6 w7) := hb
  have hz7 : W.heap.size + 1 ≤ w7.heap.size ∧ w6.heap.size + 0 ≤ w7.heap.size := by have h1 := hb.size; (try simp at h1); omega
  have HB7 : Hid (Below W.heap.size W w7) := HB6.out.trans (hX7.out.mono (by omega))
  have A0_7 := Lib.hid (A0_6.out.below rfl hX7.out)
  clear A0_6
  have XaN_7 := Lib.hid (XaN_6.out.keep hX7.out)
  clear XaN_6
  have Iw0_7 := Lib.hid (Iw0_6.out.later hX7.out)
  clear Iw0_6
  have Xw0_7 := Lib.hid (Xw0_6.out.keep hX7.out)
  clear Xw0_6
  have Ix0_7 := Lib.hid (Ix0_6.out.later hX7.out)
  clear Ix0_6
  have Xx0_7 := Lib.hid (Xx0_6.out.keep hX7.out)
  clear Xx0_6
  have Ig0_7 := Lib.hid (Ig0_6.out.later hX7.out)
  clear Ig0_6
  have Xg0_7 := Lib.hid (Xg0_6.out.keep hX7.out)
  clear Xg0_6
  clear c_x00 c_x01 c_aN0 c_aN1
  clear hb
  -- k = markNetwork(x0, k)
  have c_x00 : w7.cell? ⟨w4.heap.size, 0, none⟩ = some (.slice x0_0 d0.stops.length x0_1) := Xx0_7.out.1
  have c_x01 : w7.cell? ⟨w4.heap.size, 1, none⟩ = some (.slice x0_2 d0.lines.length x0_3) := Xx0_7.out.2.1
  clear A0_7
  go_wp2_with fail
  have hsm0 := HSm0.out
  try unfold NetSmall at hsm0
  obtain ⟨hta0, htb0⟩ := netTot_le HSm0.out
  go_at_call 43
  refine (markNetwork_x _ d0 _ _ _ _ Ix0_7.out (by omega) (by omega) HSm0.out (by omega) (by omega)).mono ?_
  rintro e w8 ⟨rfl, hmk, ho⟩
  clear hmk
  have hX8 : Hid (Out (_) (_) w7 w8) := ho
  have hz8 : W.heap.size + 1 ≤ w8.heap.size ∧ w7.heap.size ≤ w8.heap.size := ⟨by have := hX8.out.below.size; omega, hX8.out.below.size⟩
  have HB8 : Hid (Below W.heap.size W w8) := HB7.out.trans (hX8.out.below.mono (by omega))
  have XaN_8 := Lib.hid (XaN_7.out.out hX8.out (by omega))
  clear XaN_7
  have Iw0_8 := Lib.hid (Iw0_7.out.out hX8.out (by omega))
  clear Iw0_7
  have Xw0_8 := Lib.hid (Xw0_7.out.out hX8.out (by omega))
  clear Xw0_7
  clear Ix0_7
  have Xx0_8 := Lib.hid (Xx0_7.out.out hX8.out (by omega))
  clear Xx0_7
  have Ig0_8 := Lib.hid (Ig0_7.out.out hX8.out (by omega))
  clear Ig0_7
  have Xg0_8 := Lib.hid (Xg0_7.out.out hX8.out (by omega))
  clear Xg0_7
  clear c_x00 c_x01
  clear ho
  -- if k < 0 || !eqNetwork(g0, w0) || g1 != w1 {
  have c_g00 : w8.cell? ⟨w5.heap.size, 0, none⟩ = some (.slice g0_0 r0.stops.length g0_1) := Xg0_8.out.1
  have c_g01 : w8.cell? ⟨w5.heap.size, 1, none⟩ = some (.slice g0_2 r0.lines.length g0_3) := Xg0_8.out.2.1
  have c_w00 : w8.cell? ⟨w3.heap.size, 0, none⟩ = some (.slice w0_0 r0.stops.length w0_1) := Xw0_8.out.1
  have c_w01 : w8.cell? ⟨w3.heap.size, 1, none⟩ = some (.slice w0_2 r0.lines.length w0_3) := Xw0_8.out.2.1
  go_wp2_with fail
  go_at_call 42
  refine (eqNetwork_x _ _ r0 _ ((Ig0_8.out).at) ((Iw0_8.out).at) HQ0.out).mono ?_
  rintro e w9 ⟨rfl, hb⟩
  have hX9 : Hid (Below w8.heap.size w8 w9) := hb
  have hz9 : W.heap.size + 1 ≤ w9.heap.size ∧ w8.heap.size + 0 ≤ w9.heap.size := by have h1 := hb.size; (try simp at h1); omega
  have HB9 : Hid (Below W.heap.size W w9) := HB8.out.trans (hX9.out.mono (by omega))
  have XaN_9 := Lib.hid (XaN_8.out.keep hX9.out)
  clear XaN_8
  have Iw0_9 := Lib.hid (Iw0_8.out.later hX9.out)
  clear Iw0_8
  have Xw0_9 := Lib.hid (Xw0_8.out.keep hX9.out)
  clear Xw0_8
  have Xx0_9 := Lib.hid (Xx0_8.out.keep hX9.out)
  clear Xx0_8
  have Ig0_9 := Lib.hid (Ig0_8.out.later hX9.out)
  clear Ig0_8
  have Xg0_9 := Lib.hid (Xg0_8.out.keep hX9.out)
  clear Xg0_8
  clear c_g00 c_g01 c_w00 c_w01
  clear hb
  -- m = markNetwork(g0, m)
  have c_g00 : w9.cell? ⟨w5.heap.size, 0, none⟩ = some (.slice g0_0 r0.stops.length g0_1) := Xg0_9.out.1
  have c_g01 : w9.cell? ⟨w5.heap.size, 1, none⟩ = some (.slice g0_2 r0.lines.length g0_3) := Xg0_9.out.2.1
  go_wp2_with fail
  have hsq0 := HQ0.out
  try unfold NetSmall at hsq0
  obtain ⟨hqa0, hqb0⟩ := netTot_le HQ0.out
  go_at_call 43
  refine (markNetwork_x _ r0 _ _ _ _ Ig0_9.out (by omega) (by omega) HQ0.out (by omega) (by omega)).mono ?_
  rintro e w10 ⟨rfl, hmk, ho⟩
  have M0_new := Lib.hid hmk
  clear hmk
  have hX10 : Hid (Out (_) (_) w9 w10) := ho
  have hz10 : W.heap.size + 1 ≤ w10.heap.size ∧ w9.heap.size ≤ w10.heap.size := ⟨by have := hX10.out.below.size; omega, hX10.out.below.size⟩
  have HB10 : Hid (Below W.heap.size W w10) := HB9.out.trans (hX10.out.below.mono (by omega))
  have XaN_10 := Lib.hid (XaN_9.out.out hX10.out (by omega))
  clear XaN_9
  have Iw0_10 := Lib.hid (Iw0_9.out.out hX10.out (by omega))
  clear Iw0_9
  have Xw0_10 := Lib.hid (Xw0_9.out.out hX10.out (by omega))
  clear Xw0_9
  have Xx0_10 := Lib.hid (Xx0_9.out.out hX10.out (by omega))
  clear Xx0_9
  clear Ig0_9
  have Xg0_10 := Lib.hid (Xg0_9.out.out hX10.out (by omega))
  clear Xg0_9
  clear c_g00 c_g01
  clear ho
  have M0_10 := M0_new
  clear M0_new
  -- q = heldNetwork(g0, q)
  have c_g00 : w10.cell? ⟨w5.heap.size, 0, none⟩ = some (.slice g0_0 r0.stops.length g0_1) := Xg0_10.out.1
  have c_g01 : w10.cell? ⟨w5.heap.size, 1, none⟩ = some (.slice g0_2 r0.lines.length g0_3) := Xg0_10.out.2.1
  go_wp2_with fail
  go_at_call 44
  refine (heldNetwork_x _ r0 _ _ (M0_10.out) HQ0.out (by omega) (by omega)).mono ?_
  rintro e w11 ⟨rfl, hb⟩
  have hX11 : Hid (Below w10.heap.size w10 w11) := hb
  have hz11 : W.heap.size + 1 ≤ w11.heap.size ∧ w10.heap.size + 0 ≤ w11.heap.size := by have h1 := hb.size; (try simp at h1); omega
  have HB11 : Hid (Below W.heap.size W w11) := HB10.out.trans (hX11.out.mono (by omega))
  have XaN_11 := Lib.hid (XaN_10.out.keep hX11.out)
  clear XaN_10
  have Iw0_11 := Lib.hid (Iw0_10.out.later hX11.out)
  clear Iw0_10
  have Xw0_11 := Lib.hid (Xw0_10.out.keep hX11.out)
  clear Xw0_10
  have Xx0_11 := Lib.hid (Xx0_10.out.keep hX11.out)
  clear Xx0_10
  have Xg0_11 := Lib.hid (Xg0_10.out.keep hX11.out)
  clear Xg0_10
  have M0_11 := Lib.hid (M0_10.out.later hX11.out)
  clear M0_10
  clear c_g00 c_g01
  clear hb
  have hqq : ((1 : Int) + netTot r0 != 1 + netTot r0) = false := by simp
  -- h0, h1 := impl.ReverseLine(toNetwork(aN), aLine, aName)
  have c_aN0 : w11.cell? ⟨W.heap.size, 0, none⟩ = some (.slice u0_0 d0.stops.length u0_1) := XaN_11.out.1
  have c_aN1 : w11.cell? ⟨W.heap.size, 1, none⟩ = some (.slice u0_2 d0.lines.length u0_3) := XaN_11.out.2.1
  go_wp2_with fail
  go_at_call 41
  refine (HT0.out _ (((((((((hX2.out.trans (hX3.out.mono (by omega))).trans (hX4.out.mono (by omega))).trans (hX5.out.mono (by omega))).trans (hX6.out.mono (by omega))).trans (hX7.out.mono (by omega))).trans (hX8.out.below.mono (by omega))).trans (hX9.out.mono (by omega))).trans (hX10.out.below.mono (by omega))).trans (hX11.out.mono (by omega)))).mono ?_
  rintro e w12 ⟨yh0_0, yh0_1, yh0_2, yh0_3, rfl, hown, hb⟩
  have Iht0_new := Lib.hid hown
  clear hown
  have hX12 : Hid (Below w11.heap.size w11 w12) := hb
  have hz12 : W.heap.size + 1 ≤ w12.heap.size ∧ w11.heap.size + 0 ≤ w12.heap.size := by have h1 := hb.size; (try simp at h1); omega
  have HB12 : Hid (Below W.heap.size W w12) := HB11.out.trans (hX12.out.mono (by omega))
  have XaN_12 := Lib.hid (XaN_11.out.keep hX12.out)
  clear XaN_11
  have Iw0_12 := Lib.hid (Iw0_11.out.later hX12.out)
  clear Iw0_11
  have Xw0_12 := Lib.hid (Xw0_11.out.keep hX12.out)
  clear Xw0_11
  have Xx0_12 := Lib.hid (Xx0_11.out.keep hX12.out)
  clear Xx0_11
  have Xg0_12 := Lib.hid (Xg0_11.out.keep hX12.out)
  clear Xg0_11
  have M0_12 := Lib.hid (M0_11.out.later hX12.out)
  clear M0_11
  clear c_aN0 c_aN1
  clear hb
  have T0_12 := Iht0_new
  clear Iht0_new
  go_wp2_with fail
  go_at_call 26
  refine (HImpl.out _ _ ((T0_12.out).at)).mono ?_
  rintro e w13 ⟨zh0, rfl, hi0, hb⟩
  obtain ⟨h0_0, h0_1, h0_2, h0_3, rfl⟩ := Network_open hi0.at
  have Ih0_new := Lib.hid hi0
  clear hi0
  have hX13 : Hid (Below w12.heap.size w12 w13) := hb
  have hz13 : W.heap.size + 1 ≤ w13.heap.size ∧ w12.heap.size + 0 ≤ w13.heap.size := by have h1 := hb.size; (try simp at h1); omega
  have HB13 : Hid (Below W.heap.size W w13) := HB12.out.trans (hX13.out.mono (by omega))
  have XaN_13 := Lib.hid (XaN_12.out.keep hX13.out)
  clear XaN_12
  have Iw0_13 := Lib.hid (Iw0_12.out.later hX13.out)
  clear Iw0_12
  have Xw0_13 := Lib.hid (Xw0_12.out.keep hX13.out)
  clear Xw0_12
  have Xx0_13 := Lib.hid (Xx0_12.out.keep hX13.out)
  clear Xx0_12
  have Xg0_13 := Lib.hid (Xg0_12.out.keep hX13.out)
  clear Xg0_12
  have M0_13 := Lib.hid (M0_12.out.later hX13.out)
  clear M0_12
  have T0_13 := Lib.hid (T0_12.out.later hX13.out)
  clear T0_12
  clear hb
  clear T0_13
  have Ih0_13 := Ih0_new
  clear Ih0_new
  -- if !eqNetwork(h0, w0) || h1 != w1 {
  have c_w00 : w13.cell? ⟨w3.heap.size, 0, none⟩ = some (.slice w0_0 r0.stops.length w0_1) := Xw0_13.out.1
  have c_w01 : w13.cell? ⟨w3.heap.size, 1, none⟩ = some (.slice w0_2 r0.lines.length w0_3) := Xw0_13.out.2.1
  have hlt_w0 : w3.heap.size < w13.heap.size := by omega
  go_wp2_with fail
  go_at_call 42
  refine (eqNetwork_x _ _ r0 _ (((Ih0_13.out).at).below rfl ((Below.refl _ _).alloc (by first | omega | (simp; omega) | simp) _)) (((Iw0_13.out).at).below rfl ((Below.refl _ _).alloc (by first | omega | (simp; omega) | simp) _)) HQ0.out).mono ?_
  rintro e w14 ⟨rfl, hb⟩
  have hX14 : Hid (Below w13.heap.size w13 w14) := ((Below.refl _ _).alloc (by first | omega | (simp; omega) | simp) _).trans (hb.mono (by first | omega | (simp; omega) | simp))
  have hz14 : W.heap.size + 1 ≤ w14.heap.size ∧ w13.heap.size + 1 ≤ w14.heap.size := by have h1 := hb.size; (try simp at h1); omega
  have HB14 : Hid (Below W.heap.size W w14) := HB13.out.trans (hX14.out.mono (by omega))
  have XaN_14 := Lib.hid (XaN_13.out.keep hX14.out)
  clear XaN_13
  have Iw0_14 := Lib.hid (Iw0_13.out.later hX14.out)
  clear Iw0_13
  have Xw0_14 := Lib.hid (Xw0_13.out.keep hX14.out)
  clear Xw0_13
  have Xx0_14 := Lib.hid (Xx0_13.out.keep hX14.out)
  clear Xx0_13
  have Xg0_14 := Lib.hid (Xg0_13.out.keep hX14.out)
  clear Xg0_13
  have M0_14 := Lib.hid (M0_13.out.later hX14.out)
  clear M0_13
  have Ih0_14 := Lib.hid (Ih0_13.out.later hX14.out)
  clear Ih0_13
  have n_0 : w14.cell? ⟨w13.heap.size, 0, none⟩ = some (.slice h0_0 r0.stops.length h0_1) := bkeep hb (by go_simp)
  have n_1 : w14.cell? ⟨w13.heap.size, 1, none⟩ = some (.slice h0_2 r0.lines.length h0_3) := bkeep hb (by go_simp)
  have Xh0_14 : Hid (CellsF w14 (w13.heap.size) 0 [(.slice h0_0 r0.stops.length h0_1), (.slice h0_2 r0.lines.length h0_3)]) := ⟨n_0, n_1, trivial⟩
  clear n_0 n_1
  clear c_w00 c_w01 hlt_w0
  clear hb
  clear Ih0_14
  clear Xh0_14
  -- q = heldNetwork(g0, q)
  have c_g00 : w14.cell? ⟨w5.heap.size, 0, none⟩ = some (.slice g0_0 r0.stops.length g0_1) := Xg0_14.out.1
  have c_g01 : w14.cell? ⟨w5.heap.size, 1, none⟩ = some (.slice g0_2 r0.lines.length g0_3) := Xg0_14.out.2.1
  go_wp2_with fail
  go_at_call 44
  refine (heldNetwork_x _ r0 _ _ (M0_14.out) HQ0.out (by omega) (by omega)).mono ?_
  rintro e w15 ⟨rfl, hb⟩
  have hX15 : Hid (Below w14.heap.size w14 w15) := hb
  have hz15 : W.heap.size + 1 ≤ w15.heap.size ∧ w14.heap.size + 0 ≤ w15.heap.size := by have h1 := hb.size; (try simp at h1); omega
  have HB15 : Hid (Below W.heap.size W w15) := HB14.out.trans (hX15.out.mono (by omega))
  have XaN_15 := Lib.hid (XaN_14.out.keep hX15.out)
  clear XaN_14
  have Iw0_15 := Lib.hid (Iw0_14.out.later hX15.out)
  clear Iw0_14
  have Xw0_15 := Lib.hid (Xw0_14.out.keep hX15.out)
  clear Xw0_14
  have Xx0_15 := Lib.hid (Xx0_14.out.keep hX15.out)
  clear Xx0_14
  have Xg0_15 := Lib.hid (Xg0_14.out.keep hX15.out)
  clear Xg0_14
  have M0_15 := Lib.hid (M0_14.out.later hX15.out)
  clear M0_14
  clear c_g00 c_g01
  clear hb
  have hqq : ((1 : Int) + netTot r0 != 1 + netTot r0) = false := by simp
  go_wp2_with fail
  go_ret
  exact ⟨rfl, HB15.out⟩
end Go.Proofs.Ytffcgblionlhhaa.fnExactReverseLine
