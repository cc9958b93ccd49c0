import Derived.Test.YtehpeifaknbcnaaTTX
import Derived.Test.YtehpeifaknbcnaaMk29
import Derived.RegionTactic
import Derived.BigRegion
namespace Go.Proofs.Ytehpeifaknbcnaa
open Go.RowKit
set_option linter.unusedVariables false

theorem trip_at {w : World} {b : Option Addr} {d : Nat} {xs : List TripD} (h : TripsAt w (.slice b xs.length d) xs) (i : Nat) (hi : i < xs.length) :
    ∃ g off, b = some ⟨g, off, none⟩ ∧ g < w.heap.size ∧ w.cell? ⟨g, off + i * 3, none⟩ = some (.int .i64 xs[i].id) ∧ w.cell? ⟨g, off + i * 3 + 1, none⟩ = some (.int .i64 xs[i].line) ∧ w.cell? ⟨g, off + i * 3 + 2, none⟩ = some (.int .i64 xs[i].start) := by
  obtain ⟨a, c, he, _, _, HC⟩ := trips_open h
  simp at he
  obtain ⟨rfl, rfl⟩ := he
  exact HC.out i hi

set_option maxHeartbeats 1000000 in
theorem l5Line_any (v : Value) (t : TTD) (i : Nat) (w : World) (hr : TTAt w v t) (hi : i < t.trips.length) (k : Nat) (hk : t.trips[i].line = k) (hkl : k < t.net.lines.length) :
    ∃ s0 s1 r0 r1, (RowAt w (.slice s0 t.net.lines[k].stops.length s1) (ints t.net.lines[k].stops) ∧ RowAt w (.slice r0 t.net.lines[k].runs.length r1) (ints t.net.lines[k].runs)) ∧
      ∀ W : World, Below w.heap.size w W → Calls Try.prog 124 #[v, .int .i64 i] W fun e w' => e = .returned (.agg #[.string t.net.lines[k].name, .slice s0 t.net.lines[k].stops.length s1, .slice r0 t.net.lines[k].runs.length r1]) ∧ Below W.heap.size W w' := by
  obtain ⟨a, c, a', c', b, d, rfl, hn, ht⟩ := tt_open hr
  obtain ⟨lb, lo, s0, s1, r0, r1, rfl, hlb, x0, x1, x2, hrs, hrr⟩ := net_line hn k hkl
  obtain ⟨g, go, rfl, hgb, y0, y1, y2⟩ := trip_at ht i hi
  refine ⟨s0, s1, r0, r1, ⟨hrs, hrr⟩, fun W hW => ?_⟩
  have X0 := bkeep hW x0
  have X1 := bkeep hW x1
  have X2 := bkeep hW x2
  have Y1 := bkeep hW y1
  rw [hk] at Y1
  have hLb : lb < W.heap.size := Nat.lt_of_lt_of_le hlb hW.size
  have hGb : g < W.heap.size := Nat.lt_of_lt_of_le hgb hW.size
  have hi1 : (i : Int) < (t.trips.length : Int) := by omega
  have hk1 : (k : Int) < (t.net.lines.length : Int) := by omega
  clear x0 x1 x2 y0 y1 y2 hrs hrr hn ht hr hk hW
  generalize t.net.lines[k] = l at *
  go_enter Try.func124, Try.ntmps124
  go_wp2_with fail
  go_region
  all_goals
    go_wp2_with fail
    refine bodyPost_ret (v := .agg #[.string l.name, .slice s0 l.stops.length s1, .slice r0 l.runs.length r1]) (by simp only [results, Try.results124]; go_simp) rfl ⟨rfl, ?_⟩
    exact (((Below.refl _ _).alloc (Nat.le_refl _) _).alloc (by simp) _).drew

set_option maxRecDepth 100000 in
theorem l5Stops_any (v : Value) (t : TTD) (i : Nat) (w : World) (hr : TTAt w v t) (hi : i < t.trips.length) (k : Nat) (hk : t.trips[i].line = k) (hkl : k < t.net.lines.length) :
    ∃ s0 s1, RowAt w (.slice s0 t.net.lines[k].stops.length s1) (ints t.net.lines[k].stops) ∧
      ∀ W : World, Below w.heap.size w W → Calls Try.prog 109 #[v, .int .i64 i] W fun e w' => e = .returned (.slice s0 t.net.lines[k].stops.length s1) ∧ Below W.heap.size W w' := by
  obtain ⟨s0, s1, r0, r1, ⟨hrs, _⟩, hL⟩ := l5Line_any v t i w hr hi k hk hkl
  have HL := Lib.hid hL
  obtain ⟨a, c, a', c', b, d, rfl, -, -⟩ := tt_open hr
  refine ⟨s0, s1, hrs, fun W hW => ?_⟩
  have HW := Lib.hid hW
  clear hrs hr hk hW hL
  generalize t.net.lines[k] = l at *
  have hfd : ∀ w : World, (Instr.field 119 (.agg #[.string l.name, .slice s0 l.stops.length s1, .slice r0 l.runs.length r1]) 1).run Try.prog w = .ok (.slice s0 l.stops.length s1) w := fun _ => by kernel_rfl
  go_enter Try.func109, Try.ntmps109
  go_wp2_with fail
  go_at_call 124
  refine (HL.out _ (HW.out.trans (((Below.refl _ _).alloc (Nat.le_refl _) _).mono HW.out.size))).mono ?_
  rintro e w1 ⟨rfl, hb1⟩
  have HB1 : Hid (Below W.heap.size W w1) := ((Below.refl _ _).alloc (Nat.le_refl _) _).trans (hb1.mono (by simp))
  clear hb1
  go_wp2_with fail
  go_ret
  exact ⟨rfl, HB1.out⟩

set_option maxRecDepth 100000 in
set_option maxHeartbeats 1000000 in
theorem l5At_any (v : Value) (t : TTD) (i : Nat) (w : World) (hr : TTAt w v t) (hi : i < t.trips.length) (k : Nat) (hk : t.trips[i].line = k) (hkl : k < t.net.lines.length)
    (hl : t.net.lines[k].runs.length ≤ 6) (hb : ∀ r ∈ t.net.lines[k].runs, 1 ≤ r ∧ r ≤ 60) (hs0 : 0 ≤ t.trips[i].start) (hs1 : t.trips[i].start ≤ 1799) (p : Nat) (hp : p ≤ t.net.lines[k].runs.length) :
    ∀ W : World, Below w.heap.size w W → Calls Try.prog 108 #[v, .int .i64 i, .int .i64 p] W fun e w' => e = .returned (.int .i64 (t.trips[i].start + runSum t.net.lines[k] 0 p)) ∧ Below W.heap.size W w' := by
  obtain ⟨s0, s1, r0, r1, ⟨hrs, hrr⟩, hL⟩ := l5Line_any v t i w hr hi k hk hkl
  have HL := Lib.hid hL
  have HR := Lib.hid (fun W (hW : Below w.heap.size w W) => l2Run_any _ t.net.lines[k] 0 p W (show LineV W (.agg #[.string t.net.lines[k].name, .slice s0 t.net.lines[k].stops.length s1, .slice r0 t.net.lines[k].runs.length r1]) t.net.lines[k] from ⟨_, _, rfl, hrs.below rfl hW, hrr.below rfl hW⟩) (Nat.zero_le _) hp hl hb)
  have hsum := sum_bound ((t.net.lines[k].runs.drop 0).take (p - 0)) (fun x hx => hb x (List.mem_of_mem_drop (List.mem_of_mem_take hx)))
  have hlen : ((t.net.lines[k].runs.drop 0).take (p - 0)).length ≤ 6 := by simp; omega
  obtain ⟨a, c, a', c', b, d, rfl, hn, ht⟩ := tt_open hr
  obtain ⟨g, go, rfl, hgb, y0, y1, y2⟩ := trip_at ht i hi
  intro W hW
  have Y2 := bkeep hW y2
  have HW := Lib.hid hW
  have hi1 : (i : Int) < (t.trips.length : Int) := by omega
  have hgW : g < W.heap.size := Nat.lt_of_lt_of_le hgb hW.size
  clear y0 y1 y2 hrs hrr hn ht hr hk hW hL hb
  unfold runSum at *
  generalize ((t.net.lines[k].runs.drop 0).take (p - 0)).sum = rs at *
  have hr0 : 0 ≤ rs := hsum.1
  have hr1 : rs ≤ 360 := by omega
  clear hsum hlen
  have hwr : IntKind.i64.wrap (t.trips[i].start + rs) = t.trips[i].start + rs := IntWalk.i64_in _ (by omega)
  generalize t.net.lines[k] = l at *
  generalize t.trips[i] = x at *
  obtain ⟨xi, xl, xs⟩ := x
  simp only at *
  go_enter Try.func108, Try.ntmps108
  go_wp2_with fail
  have c0 : (W.alloc (.cells #[.slice a t.net.stops.length c, .slice a' t.net.lines.length c', .slice (some ⟨g, go, none⟩) t.trips.length d] 49)).cell? ⟨W.heap.size, 0, none⟩ = some (.slice a t.net.stops.length c) := by go_simp
  have c1 : (W.alloc (.cells #[.slice a t.net.stops.length c, .slice a' t.net.lines.length c', .slice (some ⟨g, go, none⟩) t.trips.length d] 49)).cell? ⟨W.heap.size, 1, none⟩ = some (.slice a' t.net.lines.length c') := by go_simp
  have c2 : (W.alloc (.cells #[.slice a t.net.stops.length c, .slice a' t.net.lines.length c', .slice (some ⟨g, go, none⟩) t.trips.length d] 49)).cell? ⟨W.heap.size, 2, none⟩ = some (.slice (some ⟨g, go, none⟩) t.trips.length d) := by go_simp
  have c3 := acell Y2 (.cells #[.slice a t.net.stops.length c, .slice a' t.net.lines.length c', .slice (some ⟨g, go, none⟩) t.trips.length d] 49)
  have hbel : Below W.heap.size W (W.alloc (.cells #[.slice a t.net.stops.length c, .slice a' t.net.lines.length c', .slice (some ⟨g, go, none⟩) t.trips.length d] 49)) := (Below.refl _ _).alloc (Nat.le_refl _) _
  go_region_held3 (fun w' => w'.cell? ⟨W.heap.size, 0, none⟩ = some (.slice a t.net.stops.length c) ∧ w'.cell? ⟨W.heap.size, 1, none⟩ = some (.slice a' t.net.lines.length c') ∧ w'.cell? ⟨W.heap.size, 2, none⟩ = some (.slice (some ⟨g, go, none⟩) t.trips.length d) ∧ w'.cell? ⟨g, go + i * 3 + 2, none⟩ = some (.int .i64 xs) ∧ Below W.heap.size W w')
    (first | (exact ⟨c0, c1, c2, c3, hbel.drew⟩) | (exact keepX hb (by assumption)))
    (first | (go_at_call 124; refine (HL.out _ (HW.out.trans ((belX (by assumption)).mono HW.out.size))).mono ?_; rintro e w' ⟨rfl, hb⟩) | (go_at_call 123; refine (HR.out _ (HW.out.trans ((belX (by assumption)).mono HW.out.size))).mono ?_; rintro e w' ⟨rfl, hb⟩))
  all_goals
    obtain ⟨_, _, _, _, qb⟩ := (by assumption : _ ∧ _)
    go_wp2_with fail
    go_ret
    exact ⟨ret_int (by first | rfl | exact hwr), qb⟩

theorem runSum_all (l : LineD) : runSum l 0 l.runs.length = l.runs.sum := by simp [runSum]
theorem keepE3 {W w w' : World} {p0 p1 p2 : Addr} {x0 x1 x2 : Value} (hb : Below w.heap.size w w') (h : w.cell? p0 = some x0 ∧ w.cell? p1 = some x1 ∧ w.cell? p2 = some x2 ∧ Below W.heap.size W w) : w'.cell? p0 = some x0 ∧ w'.cell? p1 = some x1 ∧ w'.cell? p2 = some x2 ∧ Below W.heap.size W w' := keepH3 hb h
theorem belE3 {W w : World} {p0 p1 p2 : Addr} {x0 x1 x2 : Value} (h : w.cell? p0 = some x0 ∧ w.cell? p1 = some x1 ∧ w.cell? p2 = some x2 ∧ Below W.heap.size W w) : Below W.heap.size W w := h.2.2.2
set_option maxRecDepth 100000 in
set_option maxHeartbeats 1000000 in
theorem l5End_any (v : Value) (t : TTD) (i : Nat) (w : World) (hr : TTAt w v t) (hi : i < t.trips.length) (k : Nat) (hk : t.trips[i].line = k) (hkl : k < t.net.lines.length)
    (hlr : t.net.lines[k].runs.length + 1 = t.net.lines[k].stops.length) (hl : t.net.lines[k].runs.length ≤ 6) (hb : ∀ r ∈ t.net.lines[k].runs, 1 ≤ r ∧ r ≤ 60) (hs0 : 0 ≤ t.trips[i].start) (hs1 : t.trips[i].start ≤ 1799) :
    ∀ W : World, Below w.heap.size w W → Calls Try.prog 73 #[v, .int .i64 i] W fun e w' => e = .returned (.int .i64 (t.trips[i].start + t.net.lines[k].runs.sum)) ∧ Below W.heap.size W w' := by
  obtain ⟨s0, s1, hrs, hS⟩ := l5Stops_any v t i w hr hi k hk hkl
  have HS := Lib.hid hS
  have HA := Lib.hid (l5At_any v t i w hr hi k hk hkl hl hb hs0 hs1 t.net.lines[k].runs.length (Nat.le_refl _))
  rw [runSum_all] at HA
  have hsub2 : (t.net.lines[k].stops.length : Int) - 1 = (t.net.lines[k].runs.length : Int) := by omega
  have hwl : IntKind.i64.wrap (t.net.lines[k].runs.length : Int) = (t.net.lines[k].runs.length : Int) := IntWalk.i64_in _ (by omega)
  obtain ⟨a, c, a', c', b, d, rfl, hn, ht⟩ := tt_open hr
  intro W hW
  have HW := Lib.hid hW
  clear hrs hn ht hr hk hW hS hb
  generalize t.net.lines[k] = l at *
  go_enter Try.func73, Try.ntmps73
  go_wp2_with fail
  have c0 : (W.alloc (.cells #[.slice a t.net.stops.length c, .slice a' t.net.lines.length c', .slice b t.trips.length d] 49)).cell? ⟨W.heap.size, 0, none⟩ = some (.slice a t.net.stops.length c) := by go_simp
  have c1 : (W.alloc (.cells #[.slice a t.net.stops.length c, .slice a' t.net.lines.length c', .slice b t.trips.length d] 49)).cell? ⟨W.heap.size, 1, none⟩ = some (.slice a' t.net.lines.length c') := by go_simp
  have c2 : (W.alloc (.cells #[.slice a t.net.stops.length c, .slice a' t.net.lines.length c', .slice b t.trips.length d] 49)).cell? ⟨W.heap.size, 2, none⟩ = some (.slice b t.trips.length d) := by go_simp
  have hbel : Below W.heap.size W (W.alloc (.cells #[.slice a t.net.stops.length c, .slice a' t.net.lines.length c', .slice b t.trips.length d] 49)) := (Below.refl _ _).alloc (Nat.le_refl _) _
  go_region_held3 (fun w' => w'.cell? ⟨W.heap.size, 0, none⟩ = some (.slice a t.net.stops.length c) ∧ w'.cell? ⟨W.heap.size, 1, none⟩ = some (.slice a' t.net.lines.length c') ∧ w'.cell? ⟨W.heap.size, 2, none⟩ = some (.slice b t.trips.length d) ∧ Below W.heap.size W w')
    (first | (exact ⟨c0, c1, c2, hbel.drew⟩) | (exact keepE3 hb (by assumption)))
    (first | (go_at_call 109; refine (HS.out _ (HW.out.trans ((belE3 (by assumption)).mono HW.out.size))).mono ?_; rintro e w' ⟨rfl, hb⟩) | (go_at_call 108; (try rw [hwl]); refine (HA.out _ (HW.out.trans ((belE3 (by assumption)).mono HW.out.size))).mono ?_; rintro e w' ⟨rfl, hb⟩))
  all_goals
    obtain ⟨_, _, _, qb⟩ := (by assumption : _ ∧ _)
    go_wp2_with fail
    go_ret
    exact ⟨rfl, qb⟩

theorem arrivalOf_any (v : Value) (n : NetD) (x : TripD) (w : World) (hr : NetAt w v n) (k : Nat) (hk : x.line = k) (hkl : k < n.lines.length)
    (hl : n.lines[k].runs.length ≤ 6) (hb : ∀ r ∈ n.lines[k].runs, 1 ≤ r ∧ r ≤ 60) (hs0 : 0 ≤ x.start) (hs1 : x.start ≤ 1799) :
    Calls Try.prog 99 #[v, tripV x] w fun e w' => e = .returned (.int .i64 (x.start + n.lines[k].runs.sum)) ∧ Below w.heap.size w w' := by
  obtain ⟨a, c, a', c', rfl, -, -⟩ := net_open hr
  obtain ⟨lb, lo, s0, s1, r0, r1, rfl, hlb, x0, x1, x2, hrs, hrr⟩ := net_line hr k hkl
  have HS := Lib.hid (fun W (hW : Below w.heap.size w W) => sumOf_any _ n.lines[k].runs W (hrr.below rfl hW) hl hb)
  have hsum := sum_bound n.lines[k].runs hb
  have hk1 : (k : Int) < (n.lines.length : Int) := by omega
  clear hr hrs hrr hb
  obtain ⟨xi, xl, xs⟩ := x
  simp only at hk hs0 hs1
  subst hk
  unfold tripV
  generalize n.lines[k] = l at *
  obtain ⟨hr0, hr1⟩ := hsum
  generalize l.runs.sum = rs at *
  have hr2 : rs ≤ 360 := by omega
  have hwr : IntKind.i64.wrap (xs + rs) = xs + rs := IntWalk.i64_in _ (by omega)
  clear hr1
  go_enter Try.func99, Try.ntmps99
  go_wp2_with fail
  have hbel : Below w.heap.size w ((w.alloc (.cells #[.slice a n.stops.length c, .slice (some ⟨lb, lo, none⟩) n.lines.length c'] 34)).alloc (.cells #[.int .i64 xi, .int .i64 (k : Int), .int .i64 xs] 89)) := ((Below.refl _ _).alloc (Nat.le_refl _) _).alloc (by simp) _
  go_quiet ((go_at_call 121; exact quietL (HS.out _ (hbel.trans ((Dr.below ⟨_, rfl⟩).mono (by simp; omega))))))
  go_wp2_with fail
  go_ret
  exact ⟨ret_int (by first | rfl | exact hwr), hbel.trans ((Dr.below ⟨_, rfl⟩).mono (by simp; omega))⟩
end Go.Proofs.Ytehpeifaknbcnaa
