/-
  JOINED TEXTS, each under its own namespace line: FollC, CanFollow.
-/
import Derived.Test.YtehpeifaknbcnaaFollB
namespace Go.Proofs.Ytehpeifaknbcnaa
open Go.RowKit
set_option linter.unusedVariables false
set_option linter.unusedSimpArgs false

theorem keepF4 {W w w' : World} {p0 p1 p2 p3 : Addr} {x0 x1 x2 x3 : Value} (hb : Below w.heap.size w w') (h : w.cell? p0 = some x0 ∧ w.cell? p1 = some x1 ∧ w.cell? p2 = some x2 ∧ w.cell? p3 = some x3 ∧ Below W.heap.size W w) : w'.cell? p0 = some x0 ∧ w'.cell? p1 = some x1 ∧ w'.cell? p2 = some x2 ∧ w'.cell? p3 = some x3 ∧ Below W.heap.size W w' := by
  obtain ⟨h0, h1, h2, h3, hl⟩ := h
  exact ⟨bkeep hb h0, bkeep hb h1, bkeep hb h2, bkeep hb h3, hl.trans (hb.mono hl.size)⟩
theorem belF4 {W w : World} {p0 p1 p2 p3 : Addr} {x0 x1 x2 x3 : Value} (h : w.cell? p0 = some x0 ∧ w.cell? p1 = some x1 ∧ w.cell? p2 = some x2 ∧ w.cell? p3 = some x3 ∧ Below W.heap.size W w) : Below W.heap.size W w := h.2.2.2.2
theorem keepF6 {W w w' : World} {p0 p1 p2 p3 p4 p5 : Addr} {x0 x1 x2 x3 x4 x5 : Value} (hb : Below w.heap.size w w') (h : w.cell? p0 = some x0 ∧ w.cell? p1 = some x1 ∧ w.cell? p2 = some x2 ∧ w.cell? p3 = some x3 ∧ w.cell? p4 = some x4 ∧ w.cell? p5 = some x5 ∧ Below W.heap.size W w) : w'.cell? p0 = some x0 ∧ w'.cell? p1 = some x1 ∧ w'.cell? p2 = some x2 ∧ w'.cell? p3 = some x3 ∧ w'.cell? p4 = some x4 ∧ w'.cell? p5 = some x5 ∧ Below W.heap.size W w' := by
  obtain ⟨h0, h1, h2, h3, h4, h5, hl⟩ := h
  exact ⟨bkeep hb h0, bkeep hb h1, bkeep hb h2, bkeep hb h3, bkeep hb h4, bkeep hb h5, hl.trans (hb.mono hl.size)⟩
theorem belF6 {W w : World} {p0 p1 p2 p3 p4 p5 : Addr} {x0 x1 x2 x3 x4 x5 : Value} (h : w.cell? p0 = some x0 ∧ w.cell? p1 = some x1 ∧ w.cell? p2 = some x2 ∧ w.cell? p3 = some x3 ∧ w.cell? p4 = some x4 ∧ w.cell? p5 = some x5 ∧ Below W.heap.size W w) : Below W.heap.size W w := h.2.2.2.2.2.2

theorem dead_rows {w : World} {s0 t0 fa : Option Addr} {s1 t1 n1 n2 fc : Nat} {n : NetD} {f : FleetD} (hg : GrpsAt w (.slice fa f.dead.length fc) f.dead) (hF : FleetGood n f)
    {x y : TripD} (hx : 0 ≤ x.line ∧ x.line < (n.lines.length : Int)) (hy : 0 ≤ y.line ∧ y.line < (n.lines.length : Int)) (hrs : RowAt w (.slice s0 n1 s1) (ints (lineOf n x).stops)) (hrs' : RowAt w (.slice t0 n2 t1) (ints (lineOf n y).stops)) :
    ∃ (m sb so tb tof fb fo p q rb ro rl rc : Nat), (s0 = some ⟨sb, so, none⟩ ∧ n1 = m + 1) ∧ t0 = some ⟨tb, tof, none⟩ ∧ fa = some ⟨fb, fo, none⟩ ∧ (p < f.dead.length ∧ q < rl ∧ 0 < n2) ∧
      w.cell? ⟨sb, so + m, none⟩ = some (.int .i64 p) ∧ w.cell? ⟨tb, tof, none⟩ = some (.int .i64 q) ∧
      w.cell? ⟨fb, fo + p, none⟩ = some (.slice (some ⟨rb, ro, none⟩) rl rc) ∧ w.cell? ⟨rb, ro + q, none⟩ = some (.int .i64 (deadF n f x y)) ∧ m ≤ 6 := by
  obtain ⟨i, hi, hxi, hlx, hokx, _⟩ := line_of hF.1 hx
  obtain ⟨j, hj, hyj, hly, hoky, _⟩ := line_of hF.1 hy
  obtain ⟨p, q, hp, hq, hpa, hqb, hd, _, _⟩ := deadAt_of hF (stops_in hF.1 hx).2 (stops_in hF.1 hy).1
  obtain ⟨vs, g1, g2, g3⟩ := hg
  obtain ⟨fb, fo, rfl, hfb, z⟩ := rowAt_cell g1 p (by omega)
  have g4 := g3 p hp (by omega)
  obtain ⟨ra, rc, hv, _⟩ := ints_open g4
  rw [hv] at z g4
  have k1 := hokx.1
  have k2 := hoky.1
  rw [← hlx] at k1
  rw [← hly] at k2
  obtain ⟨_, _, e1, _, _, C1⟩ := ints_open hrs
  obtain ⟨_, _, e2, _, _, C2⟩ := ints_open hrs'
  obtain ⟨_, _, e3, _, _, C3⟩ := ints_open g4
  obtain ⟨sb, so, q1, b1, _⟩ := C1.out 0 (by omega)
  obtain ⟨tb, tof, q2, b2, _⟩ := C2.out 0 (by omega)
  obtain ⟨rb, ro, q3, b3, _⟩ := C3.out q (by omega)
  simp at e1 e2 e3
  obtain ⟨e1, e1b, e1c⟩ := e1
  obtain ⟨e2, e2b, e2c⟩ := e2
  rw [← e1] at q1
  rw [← e2] at q2
  rw [← e3.1] at q3
  subst q1 q2 q3
  have c1 := row_cells hrs ((lineOf n x).stops.length - 1) (by omega)
  have c2 := row_cells hrs' 0 (by omega)
  have c3 := row_cells g4 q hq
  have e5 : (lineOf n x).stops.getD ((lineOf n x).stops.length - 1) 0 = (p : Int) := hpa
  have e6 : (lineOf n y).stops.getD 0 0 = (q : Int) := hqb
  have e7 : (f.dead[p]'hp).getD q 0 = deadF n f x y := by unfold deadF; rw [hd]; simp [hq]
  rw [e5] at c1
  rw [e6] at c2
  rw [e7] at c3
  exact ⟨(lineOf n x).stops.length - 1, sb, so, tb, tof, fb, fo, p, q, rb, ro, _, rc, ⟨rfl, by omega⟩, rfl, rfl, ⟨hp, hq, by omega⟩, c1, by simpa using c2, z, c3, by omega⟩

set_option maxRecDepth 100000 in
set_option maxHeartbeats 2000000 in
theorem l11Dead_any (tv fv : Value) (t : TTD) (f : FleetD) (a b : Nat) (w : World) (hr : TTAt w tv t) (hg : FleetAt w fv f) (hA : AskedGood t f) (ha : a < t.trips.length) (hb : b < t.trips.length) :
    Calls Try.prog 97 #[tv, fv, .int .i64 a, .int .i64 b] w fun e w' => e = .returned (.int .i64 (deadF t.net f t.trips[a] t.trips[b])) ∧ Below w.heap.size w w' := by
  obtain ⟨i, hi, hxi, hlx, _⟩ := line_of hA.2.1 (hA.1.lineIn a ha)
  obtain ⟨j, hj, hyj, hly, _⟩ := line_of hA.2.1 (hA.1.lineIn b hb)
  obtain ⟨s0, s1, hrs, h1⟩ := l5Stops_any tv t a w hr ha i hxi hi
  obtain ⟨t0, t1, hrs', h2⟩ := l5Stops_any tv t b w hr hb j hyj hj
  rw [← hlx] at hrs h1
  rw [← hly] at hrs' h2
  have H1 := Lib.hid h1
  have H2 := Lib.hid h2
  obtain ⟨c0, d0, c1, d1, c2, d2, rfl, -, -⟩ := tt_open hr
  obtain ⟨fa, fc, rfl, hga⟩ := fleet_open hg
  obtain ⟨m, sb, so, tb, tof, fb, fo, p, q, rb, ro, rl, rc, ⟨rfl, hn1⟩, rfl, rfl, ⟨hp, hq, htl⟩, k1, k2, k3, k4, hm⟩ := dead_rows hga hA.2 (hA.1.lineIn a ha) (hA.1.lineIn b hb) hrs hrs'
  rw [hn1] at H1
  have hp1 : (p : Int) < (f.dead.length : Int) := by omega
  have hq1 : (q : Int) < (rl : Int) := by omega
  have hm1 : ((m + 1 : Nat) : Int) - 1 = (m : Int) := by omega
  have hwm : IntKind.i64.wrap (m : Int) = (m : Int) := IntWalk.i64_in _ (by omega)
  have hm2 : (m : Int) < ((m + 1 : Nat) : Int) := by omega
  generalize hn2 : (lineOf t.net t.trips[b]).stops.length = n2 at *
  have htl1 : (0 : Int) < (n2 : Int) := by omega
  have HK : Hid (∀ W, Below w.heap.size w W → W.cell? ⟨sb, so + m, none⟩ = some (.int .i64 p) ∧ W.cell? ⟨tb, tof, none⟩ = some (.int .i64 q) ∧ W.cell? ⟨fb, fo + p, none⟩ = some (.slice (some ⟨rb, ro, none⟩) rl rc) ∧ W.cell? ⟨rb, ro + q, none⟩ = some (.int .i64 (deadF t.net f t.trips[a] t.trips[b]))) :=
    fun W h => ⟨bkeep h k1, bkeep h k2, bkeep h k3, bkeep h k4⟩
  clear hr hg hga hA hrs hrs' h1 h2 hlx hly hxi hyj hn1 hn2 k1 k2 k3 k4 htl
  generalize deadF t.net f t.trips[a] t.trips[b] = D at *
  generalize (lineOf t.net t.trips[a]).stops.length = n1 at *
  go_enter Try.func97, Try.ntmps97
  go_upto_region 1 with fail
  go_region_held3 (fun w' => w'.cell? ⟨w.heap.size, 0, none⟩ = some (.slice c0 t.net.stops.length d0) ∧ w'.cell? ⟨w.heap.size, 1, none⟩ = some (.slice c1 t.net.lines.length d1) ∧ w'.cell? ⟨w.heap.size, 2, none⟩ = some (.slice c2 t.trips.length d2) ∧ w'.cell? ⟨w.heap.size + 1, 0, none⟩ = some (.slice (some ⟨fb, fo, none⟩) f.dead.length fc) ∧ Below w.heap.size w w')
    (first | (exact ⟨by go_simp, by go_simp, by go_simp, by go_simp, (((Below.refl _ _).alloc (Nat.le_refl _) _).alloc (by simp) _).drew⟩) | (exact keepF4 hb (by assumption)))
    (first | (go_at_call 109; refine (H1.out _ (belF4 (by assumption))).mono ?_; rintro e w' ⟨rfl, hb⟩) | (go_at_call 109; refine (H2.out _ (belF4 (by assumption))).mono ?_; rintro e w' ⟨rfl, hb⟩))
  all_goals
    obtain ⟨_, _, _, _, qb⟩ := (by assumption : _ ∧ _)
    obtain ⟨k1, k2, k3, k4⟩ := HK.out _ qb
    have QB := Lib.hid qb
    clear qb
    go_wp2_with fail
    go_region
    all_goals
      go_wp2_with fail
      go_ret
      exact ⟨rfl, QB.out.drew⟩

set_option maxRecDepth 100000 in
set_option maxHeartbeats 4000000 in
theorem l11Follows_any (tv fv : Value) (t : TTD) (f : FleetD) (a b : Nat) (hab : a ≠ b) (w : World) (hr : TTAt w tv t) (hg : FleetAt w fv f) (hA : AskedGood t f) (ha : a < t.trips.length) (hb : b < t.trips.length) :
    Calls Try.prog 59 #[tv, fv, .int .i64 a, .int .i64 b] w fun e w' => e = .returned (.bool (follF t.net f t.trips[a] t.trips[b])) ∧ Below w.heap.size w w' := by
  have HD := Lib.hid (fun W (h : Below w.heap.size w W) => l11Dead_any tv fv t f a b W (hr.below rfl h) (hg.below rfl h) hA ha hb)
  obtain ⟨i, hi, hxi, hlx, _, hea⟩ := line_of hA.2.1 (hA.1.lineIn a ha)
  have hlf := line_facts hA.2.1 i hi
  have hst := (hA.1.step a ha).2.2.1
  have HE := Lib.hid (l5End_any tv t a w hr ha i hxi hi hlf.1 hlf.2.1 hlf.2.2 hst.2.1.1 hst.2.1.2)
  rw [← hea] at HE
  obtain ⟨c0, d0, c1, d1, c2, d2, rfl, -, ht⟩ := tt_open hr
  obtain ⟨fa, fc, rfl, -⟩ := fleet_open hg
  obtain ⟨g, go, rfl, hgb, y0, y1, y2⟩ := trip_at ht b hb
  have hb1 : (b : Int) < (t.trips.length : Int) := by omega
  have hne : ((a : Int) != (b : Int)) = true := by simp; omega
  have hd := deadF_in hA.2 (hA.1.lineIn a ha) (hA.1.lineIn b hb)
  have htn := hA.2.2.1
  have hA2 := hst.2.2
  unfold TimeOk at hA2
  have HFo : Hid (follF t.net f t.trips[a] t.trips[b] = decide (arrF t.net t.trips[a] + f.turn + deadF t.net f t.trips[a] t.trips[b] ≤ (t.trips[b]).start)) := rfl
  rw [HFo.out]
  clear hr hg hA HFo hlf hst hea hxi ht y0 y1 hlx
  generalize arrF t.net t.trips[a] = A at *
  generalize deadF t.net f t.trips[a] t.trips[b] = D at *
  generalize (t.trips[b]).start = s at *
  have hw1 : IntKind.i64.wrap (A + f.turn) = A + f.turn := IntWalk.i64_in _ (by omega)
  have hw2 : IntKind.i64.wrap (A + f.turn + D) = A + f.turn + D := IntWalk.i64_in _ (by omega)
  clear hd htn hA2 hab
  generalize f.turn = T at *
  go_enter Try.func59, Try.ntmps59
  go_upto_region 1 with fail
  have Y := acell (acell y2 (.cells #[.slice c0 t.net.stops.length d0, .slice c1 t.net.lines.length d1, .slice (some ⟨g, go, none⟩) t.trips.length d2] 49)) (.cells #[.slice fa f.dead.length fc, .int .i64 T] 36)
  go_region_held3 (fun w' => w'.cell? ⟨w.heap.size, 0, none⟩ = some (.slice c0 t.net.stops.length d0) ∧ w'.cell? ⟨w.heap.size, 1, none⟩ = some (.slice c1 t.net.lines.length d1) ∧ w'.cell? ⟨w.heap.size, 2, none⟩ = some (.slice (some ⟨g, go, none⟩) t.trips.length d2) ∧ w'.cell? ⟨w.heap.size + 1, 0, none⟩ = some (.slice fa f.dead.length fc) ∧ w'.cell? ⟨w.heap.size + 1, 1, none⟩ = some (.int .i64 T) ∧ w'.cell? ⟨g, go + b * 3 + 2, none⟩ = some (.int .i64 s) ∧ Below w.heap.size w w')
    (first | (exact ⟨by go_simp, by go_simp, by go_simp, by go_simp, by go_simp, Y, (((Below.refl _ _).alloc (Nat.le_refl _) _).alloc (by simp) _).drew⟩) | (exact keepF6 hb (by assumption)))
    (first | (go_at_call 73; refine (HE.out _ (belF6 (by assumption))).mono ?_; rintro e w' ⟨rfl, hb⟩) | (go_at_call 97; refine (HD.out _ (belF6 (by assumption))).mono ?_; rintro e w' ⟨rfl, hb⟩))
  all_goals
    obtain ⟨_, _, _, _, _, _, qb⟩ := (by assumption : _ ∧ _)
    go_wp2_with fail
    go_ret
    exact ⟨ret_bool (by first | rfl | (simp only [hw1, hw2]; rfl)), qb⟩
end Go.Proofs.Ytehpeifaknbcnaa

namespace Go.Proofs.Ytehpeifaknbcnaa
open Go.RowKit
set_option linter.unusedVariables false
set_option linter.unusedSimpArgs false

theorem TTGood.can {t : TTD} (h : TTGood t) (k : Nat) (hk : k < t.trips.length) : CanRun t.net (t.trips[k]'hk) := (h.step k hk).2.2.1
theorem can_of {t : TTD} (h : TTGood t) {id : Int} (hf : foundT t id = true) : CanRun t.net (tripOf t id) := by rw [tripOf_at hf]; exact h.can _ _

theorem findI_yes {t : TTD} {id : Int} (hg : TTGood t) (h : foundT t id = true) : findI id t.trips = (pl t id : Nat) ∧ pl t id < t.trips.length := findI_found hg.asc' h
theorem findI_no {t : TTD} {id : Int} (hg : TTGood t) (h : foundT t id = false) : findI id t.trips = -1 := findI_none hg.asc' h
end Go.Proofs.Ytehpeifaknbcnaa
