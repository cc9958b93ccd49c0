import Derived.Test.YtehpeifaknbcnaaFoll
namespace Go.Proofs.Ytehpeifaknbcnaa
open Go.RowKit
set_option linter.unusedVariables false
set_option linter.unusedSimpArgs false

theorem acell4 {w : World} {p : Addr} {x : Value} (h : w.cell? p = some x) (o1 o2 o3 o4 : Obj) : ((((w.alloc o1).alloc o2).alloc o3).alloc o4).cell? p = some x := acell (acell (acell (acell h o1) o2) o3) o4

set_option maxRecDepth 100000 in
set_option maxHeartbeats 1000000 in
theorem deadBetween_any (nv fv : Value) (n : NetD) (f : FleetD) (x y : TripD) (w : World) (hr : NetAt w nv n) (hg : FleetAt w fv f) (hF : FleetGood n f) (hx : 0 ≤ x.line ∧ x.line < (n.lines.length : Int)) (hy : 0 ≤ y.line ∧ y.line < (n.lines.length : Int)) :
    Calls Try.prog 100 #[nv, fv, tripV x, tripV y] w fun e w' => e = .returned (.int .i64 (deadF n f x y)) ∧ Below w.heap.size w w' := by
  obtain ⟨a, c, a', c', rfl, -, -⟩ := net_open hr
  obtain ⟨fa, fc, rfl, hga⟩ := fleet_open hg
  obtain ⟨lb, lo, i, j, m, sb, so, sc, tb, tof, tl, tc, fb, fo, p, q, rb, ro, rl, rc, rfl, rfl, ⟨hxi, hyj⟩, ⟨hi, hj⟩, -, ⟨hp, hq, htl⟩, ⟨hlb, hfb, hsb, htb, hrb⟩, x1, y1, c1, c2, z, c3, hm⟩ := dead_cells hr hga hF hx hy
  have hi1 : (i : Int) < (n.lines.length : Int) := by omega
  have hj1 : (j : Int) < (n.lines.length : Int) := by omega
  have hp1 : (p : Int) < (f.dead.length : Int) := by omega
  have hq1 : (q : Int) < (rl : Int) := by omega
  have hm1 : ((m + 1 : Nat) : Int) - 1 = (m : Int) := by omega
  have hwm : IntKind.i64.wrap (m : Int) = (m : Int) := IntWalk.i64_in _ (by omega)
  have hm2 : (m : Int) < ((m + 1 : Nat) : Int) := by omega
  have htl1 : (0 : Int) < (tl : Int) := by omega
  clear hr hg hga hF hx hy
  obtain ⟨xi, xl, xs⟩ := x
  obtain ⟨yi, yl, ys⟩ := y
  unfold tripV
  simp only at hxi hyj ⊢
  subst hxi hyj
  generalize deadF n f ⟨xi, (i : Int), xs⟩ ⟨yi, (j : Int), ys⟩ = D at *
  have X1 := acell4 x1
  have Y1 := acell4 y1
  have C1 := acell4 c1
  have C2 := acell4 c2
  have Z := acell4 z
  have C3 := acell4 c3
  clear x1 y1 c1 c2 z c3
  go_enter Try.func100, Try.ntmps100
  go_wp2_with fail
  go_region
  all_goals
    go_wp2_with fail
    go_ret
    exact ⟨rfl, (((((Below.refl _ _).alloc (Nat.le_refl _) _).alloc (by simp) _).alloc (by simp; omega) _).alloc (by simp; omega) _).drew⟩
theorem keepT {W w w' : World} {p0 p1 p2 p3 p4 p5 p6 p7 p8 p9 : Addr} {x0 x1 x2 x3 x4 x5 x6 x7 x8 x9 : Value} (hb : Below w.heap.size w w') (h : w.cell? p0 = some x0 ∧ w.cell? p1 = some x1 ∧ w.cell? p2 = some x2 ∧ w.cell? p3 = some x3 ∧ w.cell? p4 = some x4 ∧ w.cell? p5 = some x5 ∧ w.cell? p6 = some x6 ∧ w.cell? p7 = some x7 ∧ w.cell? p8 = some x8 ∧ w.cell? p9 = some x9 ∧ Below W.heap.size W w) : w'.cell? p0 = some x0 ∧ w'.cell? p1 = some x1 ∧ w'.cell? p2 = some x2 ∧ w'.cell? p3 = some x3 ∧ w'.cell? p4 = some x4 ∧ w'.cell? p5 = some x5 ∧ w'.cell? p6 = some x6 ∧ w'.cell? p7 = some x7 ∧ w'.cell? p8 = some x8 ∧ w'.cell? p9 = some x9 ∧ Below W.heap.size W w' := by
  obtain ⟨h0, h1, h2, h3, h4, h5, h6, h7, h8, h9, hl⟩ := h
  exact ⟨bkeep hb h0, bkeep hb h1, bkeep hb h2, bkeep hb h3, bkeep hb h4, bkeep hb h5, bkeep hb h6, bkeep hb h7, bkeep hb h8, bkeep hb h9, hl.trans (hb.mono hl.size)⟩
theorem belT {W w : World} {p0 p1 p2 p3 p4 p5 p6 p7 p8 p9 : Addr} {x0 x1 x2 x3 x4 x5 x6 x7 x8 x9 : Value} (h : w.cell? p0 = some x0 ∧ w.cell? p1 = some x1 ∧ w.cell? p2 = some x2 ∧ w.cell? p3 = some x3 ∧ w.cell? p4 = some x4 ∧ w.cell? p5 = some x5 ∧ w.cell? p6 = some x6 ∧ w.cell? p7 = some x7 ∧ w.cell? p8 = some x8 ∧ w.cell? p9 = some x9 ∧ Below W.heap.size W w) : Below W.heap.size W w := h.2.2.2.2.2.2.2.2.2.2
theorem arrF_any (v : Value) (n : NetD) (x : TripD) (w : World) (hr : NetAt w v n) (hg : NetGood n) (hc : CanRun n x) :
    Calls Try.prog 99 #[v, tripV x] w fun e w' => e = .returned (.int .i64 (arrF n x)) ∧ Below w.heap.size w w' := by
  obtain ⟨i, hi, hx, hl, hok, ha⟩ := line_of hg hc.1
  rw [ha]
  have h1 := line_facts hg i hi
  exact arrivalOf_any v n x w hr i hx hi h1.2.1 h1.2.2 hc.2.1.1 hc.2.1.2

set_option maxRecDepth 100000 in
set_option maxHeartbeats 2000000 in
theorem follows_any (nv fv : Value) (n : NetD) (f : FleetD) (x y : TripD) (w : World) (hr : NetAt w nv n) (hg : FleetAt w fv f) (hF : FleetGood n f) (hx : CanRun n x) (hy : CanRun n y) :
    Calls Try.prog 63 #[nv, fv, tripV x, tripV y] w fun e w' => e = .returned (.bool (follF n f x y)) ∧ Below w.heap.size w w' := by
  have HA := Lib.hid (fun W (h : Below w.heap.size w W) => arrF_any nv n x W (hr.below rfl h) hF.1 hx)
  have HD := Lib.hid (fun W (h : Below w.heap.size w W) => deadBetween_any nv fv n f x y W (hr.below rfl h) (hg.below rfl h) hF hx.1 hy.1)
  obtain ⟨a, c, a', c', rfl, -, -⟩ := net_open hr
  obtain ⟨fa, fc, rfl, -⟩ := fleet_open hg
  have hd := deadF_in hF hx.1 hy.1
  have ht := hF.2.1
  have hA := hx.2.2
  unfold TimeOk at hA
  have HFo : Hid (follF n f x y = decide (arrF n x + f.turn + deadF n f x y ≤ y.start)) := rfl
  clear hr hg hF hx hy
  obtain ⟨xi, xl, xs⟩ := x
  obtain ⟨yi, yl, ys⟩ := y
  rw [HFo.out]
  clear HFo
  generalize hAe : arrF n ⟨xi, xl, xs⟩ = A at *
  generalize hDe : deadF n f ⟨xi, xl, xs⟩ ⟨yi, yl, ys⟩ = D at *
  clear hAe hDe
  unfold tripV at *
  simp only at *
  have hw1 : IntKind.i64.wrap (A + f.turn) = A + f.turn := IntWalk.i64_in _ (by omega)
  have hw2 : IntKind.i64.wrap (A + f.turn + D) = A + f.turn + D := IntWalk.i64_in _ (by omega)
  clear hd ht hA
  generalize f.turn = T at *
  go_enter Try.func63, Try.ntmps63
  go_upto_region 1 with fail
  have HW : Hid (∀ W1 : World, Below w.heap.size w W1 → Below w.heap.size w W1) := fun _ h => h
  go_region_held3 (fun w' => w'.cell? ⟨w.heap.size, 0, none⟩ = some (.slice a n.stops.length c) ∧ w'.cell? ⟨w.heap.size, 1, none⟩ = some (.slice a' n.lines.length c') ∧ w'.cell? ⟨w.heap.size + 1, 0, none⟩ = some (.slice fa f.dead.length fc) ∧ w'.cell? ⟨w.heap.size + 1, 1, none⟩ = some (.int .i64 T) ∧
      w'.cell? ⟨w.heap.size + 1 + 1, 0, none⟩ = some (.int .i64 xi) ∧ w'.cell? ⟨w.heap.size + 1 + 1, 1, none⟩ = some (.int .i64 xl) ∧ w'.cell? ⟨w.heap.size + 1 + 1, 2, none⟩ = some (.int .i64 xs) ∧ w'.cell? ⟨w.heap.size + 1 + 1 + 1, 0, none⟩ = some (.int .i64 yi) ∧ w'.cell? ⟨w.heap.size + 1 + 1 + 1, 1, none⟩ = some (.int .i64 yl) ∧ w'.cell? ⟨w.heap.size + 1 + 1 + 1, 2, none⟩ = some (.int .i64 ys) ∧ Below w.heap.size w w')
    (first | (exact ⟨by go_simp, by go_simp, by go_simp, by go_simp, by go_simp, by go_simp, by go_simp, by go_simp, by go_simp, by go_simp, (((((Below.refl _ _).alloc (Nat.le_refl _) _).alloc (by simp) _).alloc (by simp; omega) _).alloc (by simp; omega) _).drew⟩) | (exact keepT hb (by assumption)))
    (first | (go_at_call 99; refine (HA.out _ (belT (by assumption))).mono ?_; rintro e w' ⟨rfl, hb⟩) | (go_at_call 100; refine (HD.out _ (belT (by assumption))).mono ?_; rintro e w' ⟨rfl, hb⟩))
  all_goals
    obtain ⟨_, _, _, _, _, _, _, _, _, _, qb⟩ := (by assumption : _ ∧ _)
    go_wp2_with fail
    go_ret
    exact ⟨ret_bool (by first | rfl | (simp only [hw1, hw2]; rfl)), qb⟩

end Go.Proofs.Ytehpeifaknbcnaa
