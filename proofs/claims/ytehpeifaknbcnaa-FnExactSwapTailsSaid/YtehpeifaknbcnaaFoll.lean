import Derived.Test.YtehpeifaknbcnaaMk34
import Derived.Test.YtehpeifaknbcnaaFleetGood
import Derived.Test.YtehpeifaknbcnaaL5Good
namespace Go.Proofs.Ytehpeifaknbcnaa
open Go.RowKit
set_option linter.unusedVariables false
set_option linter.unusedSimpArgs false

def AskedGood (t : TTD) (f : FleetD) : Prop := TTGood t ∧ FleetGood t.net f
noncomputable def askedB (t : TTD) (f : FleetD) : Bool := ttB t && fleetB t.net f
theorem askedB_yes {t : TTD} {f : FleetD} (h : AskedGood t f) : askedB t f = true := by unfold askedB; rw [ttB_yes h.1, fleetB_yes h.2]; rfl
theorem askedB_iff {t : TTD} {f : FleetD} : askedB t f = true ↔ AskedGood t f := by
  unfold askedB ttB fleetB AskedGood; simp

theorem tt_net {w : World} {a a' b : Option Addr} {c c' d : Nat} {t : TTD} (h : TTAt w (.agg #[.slice a t.net.stops.length c, .slice a' t.net.lines.length c', .slice b t.trips.length d]) t) :
    NetAt w (.agg #[.slice a t.net.stops.length c, .slice a' t.net.lines.length c']) t.net ∧ TripsAt w (.slice b t.trips.length d) t.trips := by
  obtain ⟨a2, c2, a3, c3, b2, d2, he, hn, ht⟩ := tt_open h
  simp at he
  obtain ⟨⟨rfl, rfl⟩, ⟨rfl, rfl⟩, rfl, rfl⟩ := he
  exact ⟨hn, ht⟩

set_option maxRecDepth 100000 in
theorem hasFleet_any (tv fv : Value) (t : TTD) (f : FleetD) (w : World) (hr : TTAt w tv t) (hf : TTFits t) (hg : FleetAt w fv f) (hs : GrpsSmall f.dead) :
    Calls Try.prog 61 #[tv, fv] w fun e w' => e = .returned (.bool (askedB t f)) ∧ Below w.heap.size w w' := by
  have HT := Lib.hid (fun W (h : Below w.heap.size w W) => implTT_any tv t W (hr.below rfl h) hf)
  obtain ⟨a, c, a', c', b, d, rfl, hn, ht⟩ := tt_open hr
  have HV := Lib.hid (fun W (h : Below w.heap.size w W) => implFleet_any _ fv t.net f W (hn.below rfl h) hf.1 (hg.below rfl h) hs)
  obtain ⟨fa, fc, rfl, -⟩ := fleet_open hg
  clear hr hg hn ht hf hs
  unfold askedB
  generalize ttB t = b1 at *
  generalize fleetB t.net f = b2 at *
  cases b1
  all_goals
    go_enter Try.func61, Try.ntmps61
    go_wp2_with fail
    go_at_call 74
    refine (HT.out _ (((Below.refl _ _).alloc (Nat.le_refl _) _).alloc (by simp) _)).mono ?_
    rintro e w1 ⟨rfl, hb1⟩
    have HB1 : Hid (Below w.heap.size w w1) := (((Below.refl _ _).alloc (Nat.le_refl _) _).alloc (by simp) _).trans (hb1.mono (by simp; omega))
    have p0 : w1.cell? ⟨w.heap.size, 0, none⟩ = some (.slice a t.net.stops.length c) := bkeep hb1 (by go_simp)
    have p1 : w1.cell? ⟨w.heap.size, 1, none⟩ = some (.slice a' t.net.lines.length c') := bkeep hb1 (by go_simp)
    have q0 : w1.cell? ⟨w.heap.size + 1, 0, none⟩ = some (.slice fa f.dead.length fc) := bkeep hb1 (by go_simp)
    have q1 : w1.cell? ⟨w.heap.size + 1, 1, none⟩ = some (.int .i64 f.turn) := bkeep hb1 (by go_simp)
    clear hb1
    go_wp2_with fail
  · go_ret
    exact ⟨rfl, HB1.out⟩
  · go_at_call 16
    refine (HV.out _ HB1.out).mono ?_
    rintro e w2 ⟨rfl, hb2⟩
    go_wp2_with fail
    go_ret
    exact ⟨rfl, HB1.out.trans (hb2.mono HB1.out.size)⟩

set_option maxRecDepth 100000 in
theorem l11Asked_any (tv fv : Value) (t : TTD) (f : FleetD) (w : World) (hr : TTAt w tv t) (hf : TTFits t) (hg : FleetAt w fv f) (hs : GrpsSmall f.dead) :
    Calls Try.prog 58 #[tv, fv] w fun e w' => e = .returned (.bool (askedB t f)) ∧ Below w.heap.size w w' := by
  have HT := Lib.hid (fun W (h : Below w.heap.size w W) => l5Good_any tv t W (hr.below rfl h) hf)
  obtain ⟨a, c, a', c', b, d, rfl, hn, ht⟩ := tt_open hr
  have HV := Lib.hid (fun W (h : Below w.heap.size w W) => l11Fleet_any _ fv t.net f W (hn.below rfl h) hf.1 (hg.below rfl h) hs)
  obtain ⟨fa, fc, rfl, -⟩ := fleet_open hg
  clear hr hg hn ht hf hs
  unfold askedB
  generalize ttB t = b1 at *
  generalize fleetB t.net f = b2 at *
  cases b1
  all_goals
    go_enter Try.func58, Try.ntmps58
    go_wp2_with fail
    go_at_call 72
    refine (HT.out _ (((Below.refl _ _).alloc (Nat.le_refl _) _).alloc (by simp) _)).mono ?_
    rintro e w1 ⟨rfl, hb1⟩
    have HB1 : Hid (Below w.heap.size w w1) := (((Below.refl _ _).alloc (Nat.le_refl _) _).alloc (by simp) _).trans (hb1.mono (by simp; omega))
    have p0 : w1.cell? ⟨w.heap.size, 0, none⟩ = some (.slice a t.net.stops.length c) := bkeep hb1 (by go_simp)
    have p1 : w1.cell? ⟨w.heap.size, 1, none⟩ = some (.slice a' t.net.lines.length c') := bkeep hb1 (by go_simp)
    have q0 : w1.cell? ⟨w.heap.size + 1, 0, none⟩ = some (.slice fa f.dead.length fc) := bkeep hb1 (by go_simp)
    have q1 : w1.cell? ⟨w.heap.size + 1, 1, none⟩ = some (.int .i64 f.turn) := bkeep hb1 (by go_simp)
    clear hb1
    go_wp2_with fail
  · go_ret
    exact ⟨rfl, HB1.out⟩
  · go_at_call 48
    refine (HV.out _ HB1.out).mono ?_
    rintro e w2 ⟨rfl, hb2⟩
    go_wp2_with fail
    go_ret
    exact ⟨rfl, HB1.out.trans (hb2.mono HB1.out.size)⟩

def zeroTrip : TripD := ⟨0, 0, 0⟩
set_option maxRecDepth 100000 in
theorem tripWith_any (tv : Value) (t : TTD) (id : Int) (w : World) (hr : TTAt w tv t) (hg : TTGood t) :
    Calls Try.prog 62 #[tv, .int .i64 id] w fun e w' => e = .returned (.tuple #[tripV (if foundT t id = true then tripOf t id else zeroTrip), .bool (foundT t id)]) ∧ Below w.heap.size w w' := by
  obtain ⟨a, c, a', c', b, d, rfl, hn, ht⟩ := tt_open hr
  have HP := Lib.hid (fun W (h : Below w.heap.size w W) => tripPlace_any _ t.trips id W (ht.below rfl h) (by have := hg.2.1; omega) hg.asc')
  have HTr := Lib.hid ht
  have hlen := hg.2.1
  have HFd : Hid (foundT t id = true → ∃ h : placeOf id t.trips < t.trips.length, tripOf t id = t.trips[placeOf id t.trips]'h) := fun h => ⟨found_lt h, tripOf_at h⟩
  clear hr hn ht hg
  change Calls _ _ _ _ fun e w' => e = .returned (.tuple #[tripV (if foundT t id = true then tripOf t id else zeroTrip), .bool (foundT t id)]) ∧ Below w.heap.size w w'
  unfold foundT at *
  cases hf : foundB id t.trips
  · simp only [hf] at HP
    simp only [Bool.false_eq_true, if_false]
    unfold tripV zeroTrip
    clear HFd hf
    generalize placeOf id t.trips = p at *
    go_enter Try.func62, Try.ntmps62
    go_wp2_with fail
    go_at_call 69
    refine (HP.out _ (((Below.refl _ _).alloc (Nat.le_refl _) _).alloc (by simp) _)).mono ?_
    rintro e w1 ⟨rfl, hb1⟩
    have HB1 : Hid (Below w.heap.size w w1) := (((Below.refl _ _).alloc (Nat.le_refl _) _).alloc (by simp) _).trans (hb1.mono (by simp; omega))
    have z0 : w1.cell? ⟨w.heap.size + 1, 0, none⟩ = some (.int .i64 0) := bkeep hb1 (by go_simp)
    have z1 : w1.cell? ⟨w.heap.size + 1, 1, none⟩ = some (.int .i64 0) := bkeep hb1 (by go_simp)
    have z2 : w1.cell? ⟨w.heap.size + 1, 2, none⟩ = some (.int .i64 0) := bkeep hb1 (by go_simp)
    have fz : ∀ o, w1.frozen? ⟨w.heap.size + 1, o, none⟩ = false := fun o => fkeep hb1 (by simp) (by go_simp)
    clear hb1
    go_wp2_with fail
    refine bodyPost_ret (v := .tuple #[.agg #[.int .i64 0, .int .i64 0, .int .i64 0], .bool false]) (by simp only [results, Try.results62]; go_simp) rfl ⟨rfl, ?_⟩
    exact ((HB1.out.setCell (by simp) _).setCell (by simp) _).setCell (by simp) _
  · simp only [hf] at HP
    obtain ⟨hp, htr⟩ := HFd.out hf
    obtain ⟨g, go, rfl, hgb, y0, y1, y2⟩ := trip_at HTr.out (placeOf id t.trips) hp
    simp only [if_true]
    rw [htr]
    have hp1 : ((placeOf id t.trips : Nat) : Int) < (t.trips.length : Int) := by omega
    clear HFd hf htr
    generalize t.trips[placeOf id t.trips] = x at *
    generalize placeOf id t.trips = p at *
    obtain ⟨xi, xl, xs⟩ := x
    unfold tripV
    simp only at *
    go_enter Try.func62, Try.ntmps62
    go_wp2_with fail
    go_at_call 69
    refine (HP.out _ (((Below.refl _ _).alloc (Nat.le_refl _) _).alloc (by simp) _)).mono ?_
    rintro e w1 ⟨rfl, hb1⟩
    have hA : Below w.heap.size w w1 := (((Below.refl _ _).alloc (Nat.le_refl _) _).alloc (by simp) _).trans (hb1.mono (by simp; omega))
    have HB1 := Lib.hid hA
    have p2 : w1.cell? ⟨w.heap.size, 2, none⟩ = some (.slice (some ⟨g, go, none⟩) t.trips.length d) := bkeep hb1 (by go_simp)
    have z0 : w1.cell? ⟨w.heap.size + 1, 0, none⟩ = some (.int .i64 0) := bkeep hb1 (by go_simp)
    have z1 : w1.cell? ⟨w.heap.size + 1, 1, none⟩ = some (.int .i64 0) := bkeep hb1 (by go_simp)
    have z2 : w1.cell? ⟨w.heap.size + 1, 2, none⟩ = some (.int .i64 0) := bkeep hb1 (by go_simp)
    have fz : ∀ o, w1.frozen? ⟨w.heap.size + 1, o, none⟩ = false := fun o => fkeep hb1 (by simp) (by go_simp)
    have Y0 := bkeep hA y0
    have Y1 := bkeep hA y1
    have Y2 := bkeep hA y2
    clear hb1 hA y0 y1 y2
    go_wp2_with fail
    refine bodyPost_ret (v := .tuple #[.agg #[.int .i64 xi, .int .i64 xl, .int .i64 xs], .bool true]) (by simp only [results, Try.results62]; go_simp) rfl ⟨rfl, ?_⟩
    exact ((HB1.out.setCell (by simp) _).setCell (by simp) _).setCell (by simp) _

theorem dead_cells {w : World} {a a' fa : Option Addr} {c c' fc : Nat} {n : NetD} {f : FleetD} (hr : NetAt w (.agg #[.slice a n.stops.length c, .slice a' n.lines.length c']) n) (hg : GrpsAt w (.slice fa f.dead.length fc) f.dead) (hF : FleetGood n f)
    {x y : TripD} (hx : 0 ≤ x.line ∧ x.line < (n.lines.length : Int)) (hy : 0 ≤ y.line ∧ y.line < (n.lines.length : Int)) :
    ∃ (lb lo i j m sb so sc tb tof tl tc fb fo p q rb ro rl rc : Nat), a' = some ⟨lb, lo, none⟩ ∧ fa = some ⟨fb, fo, none⟩ ∧ (x.line = i ∧ y.line = j) ∧ (i < n.lines.length ∧ j < n.lines.length) ∧ (lastS n x = p ∧ firstS n y = q) ∧ (p < f.dead.length ∧ q < rl ∧ 0 < tl) ∧ (lb < w.heap.size ∧ fb < w.heap.size ∧ sb < w.heap.size ∧ tb < w.heap.size ∧ rb < w.heap.size) ∧
      w.cell? ⟨lb, lo + i * 3 + 1, none⟩ = some (.slice (some ⟨sb, so, none⟩) (m + 1) sc) ∧ w.cell? ⟨lb, lo + j * 3 + 1, none⟩ = some (.slice (some ⟨tb, tof, none⟩) tl tc) ∧ w.cell? ⟨sb, so + m, none⟩ = some (.int .i64 p) ∧ w.cell? ⟨tb, tof, none⟩ = some (.int .i64 q) ∧
      w.cell? ⟨fb, fo + p, none⟩ = some (.slice (some ⟨rb, ro, none⟩) rl rc) ∧ w.cell? ⟨rb, ro + q, none⟩ = some (.int .i64 (deadF n f x y)) ∧ m ≤ 6 := by
  obtain ⟨i, hi, hxi, hlx, hokx, _⟩ := line_of hF.1 hx
  obtain ⟨j, hj, hyj, hly, hoky, _⟩ := line_of hF.1 hy
  obtain ⟨p, q, hp, hq, hpa, hqb, hd, _, _⟩ := deadAt_of hF (stops_in hF.1 hx).2 (stops_in hF.1 hy).1
  obtain ⟨lb, lo, s0, s1, r0, r1, rfl, hlb, _, x1, _, hrs, _⟩ := net_line hr i hi
  obtain ⟨lb', lo', t0, t1, r0', r1', he, _, _, y1, _, hrs', _⟩ := net_line hr j hj
  simp at he
  obtain ⟨rfl, rfl⟩ := he
  obtain ⟨vs, g1, g2, g3⟩ := hg
  obtain ⟨fb, fo, rfl, hfb, z⟩ := rowAt_cell g1 p (by omega)
  have g4 := g3 p hp (by omega)
  obtain ⟨ra, rc, hv, _⟩ := ints_open g4
  rw [hv] at z g4
  have k1 := hokx.1
  have k2 := hoky.1
  obtain ⟨_, _, e1, _, _, C1⟩ := ints_open hrs
  obtain ⟨_, _, e2, _, _, C2⟩ := ints_open hrs'
  obtain ⟨_, _, e3, _, _, C3⟩ := ints_open g4
  obtain ⟨sb, so, q1, b1, _⟩ := C1.out 0 (by omega)
  obtain ⟨tb, tof, q2, b2, _⟩ := C2.out 0 (by omega)
  obtain ⟨rb, ro, q3, b3, _⟩ := C3.out q (by omega)
  simp at e1 e2 e3
  rw [← e1.1] at q1
  rw [← e2.1] at q2
  rw [← e3.1] at q3
  subst q1 q2 q3
  have c1 := row_cells hrs ((n.lines[i]'hi).stops.length - 1) (by omega)
  have c2 := row_cells hrs' 0 (by omega)
  have c3 := row_cells g4 q hq
  have e5 : (n.lines[i]'hi).stops.getD ((n.lines[i]'hi).stops.length - 1) 0 = (p : Int) := by rw [← hpa]; unfold lastS; rw [hlx]
  have e6 : (n.lines[j]'hj).stops.getD 0 0 = (q : Int) := by rw [← hqb]; unfold firstS; rw [hly]
  have e7 : (f.dead[p]'hp).getD q 0 = deadF n f x y := by unfold deadF; rw [hd]; simp [hq]
  rw [e5] at c1
  rw [e6] at c2
  rw [e7] at c3
  refine ⟨lb, lo, i, j, (n.lines[i]'hi).stops.length - 1, sb, so, s1, tb, tof, _, t1, fb, fo, p, q, rb, ro, _, rc, rfl, rfl, ⟨hxi, hyj⟩, ⟨hi, hj⟩, ⟨hpa, hqb⟩, ⟨hp, hq, by omega⟩, ⟨hlb, hfb, b1, b2, b3⟩, ?_, y1, c1, by simpa using c2, z, c3, by omega⟩
  rw [x1]
  congr 2
  omega
end Go.Proofs.Ytehpeifaknbcnaa
