/-
  JOINED TEXTS, each under its own namespace line: TT, TripHeld, TTX, RunBase, TimeB, NetLine, TTLine, TTGood, Tk.
-/
import Derived.Test.YtfgkfdkdjegaiaaMk09
import Derived.Test.YtfgkfdkdjegaiaaMk20
import Derived.Test.YtfgkfdkdjegaiaaMk17
import Derived.Test.YtfgkfdkdjegaiaaMk12
import Derived.Test.YtfgkfdkdjegaiaaSpanP
import Derived.Test.YtfgkfdkdjegaiaaMk01
import Derived.RegionTactic
import Derived.BigRegion
namespace Go.Proofs.Ytfgkfdkdjegaiaa
open Go.RowKit Go.ChangeShapes Go.WideShapes Go.ChangeAt Go.Deep Go.Joins
set_option linter.unusedVariables false

def TTAt (w : World) (v : Value) (t : TTD) : Prop := ∃ s l tr, v = .agg #[s, l, tr] ∧ RowAt w s (strs t.net.stops) ∧ LinesAt w l t.net.lines ∧ TripsAt w tr t.trips
def TTFits (t : TTD) : Prop := NetFits t.net ∧ TripsFit t.trips
def TTSmall (t : TTD) : Prop := NetSmall t.net ∧ TripsSmall t.trips
theorem TTAt.below {w w' : World} {v : Value} {t : TTD} (h : TTAt w v t) {B : Nat} (hB : B = w.heap.size) (hb : Below B w w') : TTAt w' v t := by
  obtain ⟨s, l, tr, hv, h1, h2, h3⟩ := h
  exact ⟨s, l, tr, hv, h1.below hB hb, h2.below hB hb, h3.below hB hb⟩
theorem tt_open {w : World} {v : Value} {t : TTD} (h : TTAt w v t) : ∃ a c a' c' b d, v = .agg #[.slice a t.net.stops.length c, .slice a' t.net.lines.length c', .slice b t.trips.length d] ∧
    NetAt w (.agg #[.slice a t.net.stops.length c, .slice a' t.net.lines.length c']) t.net ∧ TripsAt w (.slice b t.trips.length d) t.trips := by
  obtain ⟨s, l, tr, rfl, h1, h2, h3⟩ := h
  obtain ⟨a, c, rfl, _⟩ := strs_open h1
  obtain ⟨a', c', rfl, _⟩ := lines_open h2
  obtain ⟨b, d, rfl⟩ := TripS_open h3
  exact ⟨a, c, a', c', b, d, rfl, ⟨_, _, rfl, h1, h2⟩, h3⟩
theorem Timetable_open {w : World} {v : Value} {t : TTD} (h : TTAt w v t) : ∃ a c a' c' b d, v = .agg #[.slice a t.net.stops.length c, .slice a' t.net.lines.length c', .slice b t.trips.length d] := by
  obtain ⟨a, c, a', c', b, d, hv, _⟩ := tt_open h
  exact ⟨a, c, a', c', b, d, hv⟩
theorem TTAt.mk {w : World} {a : Option Addr} {c : Nat} {a' : Option Addr} {c' : Nat} {tr : Value} {t : TTD} (h : NetAt w (.agg #[.slice a t.net.stops.length c, .slice a' t.net.lines.length c']) t.net) (h2 : TripsAt w tr t.trips) :
    TTAt w (.agg #[.slice a t.net.stops.length c, .slice a' t.net.lines.length c', tr]) t := by
  obtain ⟨s, l, hv, h3, h4⟩ := h
  simp at hv
  obtain ⟨rfl, rfl⟩ := hv
  exact ⟨_, _, _, rfl, h3, h4, h2⟩

section
variable {H : Type} {enc : TypeId × Value → H} {P : Program} {w : World} {base : Nat} {spare : Nat → Bool} {held : Bool}
theorem tt_trod {r : Reach} {b0 : Nat} {t e le si te : TypeId} {F0 F1 G0 G1 f0 f1 f2 g0 g1 g2 : Field} {v : Value} {d : DataW H} {p : List MemPlace} (hs : P.underlying t = some (.struct #[F0, F1])) (hC : P.cellsOf t = 3)
    (o0 : F0.offset = 0) (k0 : P.cellsOf F0.type = 2) (o1 : F1.offset = 2) (k1 : P.cellsOf F1.type = 1) (hn : P.underlying F0.type = some (.struct #[G0, G1])) (hone0 : oneCellFields P #[G0, G1] = true)
    (hG0 : P.underlying G0.type = some (.slice e)) (hes : P.underlying e = some .string) (hec : P.cellsOf e = 1) (hG1 : P.underlying G1.type = some (.slice le)) (he : P.underlying le = some (.struct #[f0, f1, f2]))
    (hone : oneCellFields P #[f0, f1, f2] = true) (hc : P.cellsOf le = 3) (h0 : P.underlying f0.type = some .string) (h1 : P.underlying f1.type = some (.slice si)) (h2 : P.underlying f2.type = some (.slice si)) (hi : P.underlying si = some (.int .i64)) (hic : P.cellsOf si = 1)
    (hF1 : P.underlying F1.type = some (.slice te)) (hte : P.underlying te = some (.struct #[g0, g1, g2])) (hone2 : oneCellFields P #[g0, g1, g2] = true) (hc2 : P.cellsOf te = 3) (y0 : P.underlying g0.type = some (.int .i64)) (y1 : P.underlying g1.type = some (.int .i64)) (y2 : P.underlying g2.type = some (.int .i64))
    (hv : Value.okWide P w r b0 t v) (h : DataW.Trod enc P w base spare held t v d p) : ∃ n : TTD, TTAt w v n ∧ TTFits n := by
  obtain ⟨cs, rfl, hsz⟩ := okWide_struct hs hv
  obtain ⟨c0, c1, c2, rfl⟩ := array3 (hsz.trans hC)
  obtain ⟨fuel, hf⟩ := h
  obtain ⟨z0, z1, n, _, _, t0, t1⟩ := trod_struct2 hs hf
  rw [o0, k0] at t0
  rw [o1, k1] at t1
  simp only [Value.cells, List.drop_zero, List.drop_succ_cons, List.take_succ_cons, List.take_zero] at t0 t1
  obtain ⟨x0, x1, m, _, _, q0, q1⟩ := trod_struct2 hn t0
  obtain ⟨a0, b0'⟩ := hone_of hone0 0 G0 rfl
  obtain ⟨a1, b1'⟩ := hone_of hone0 1 G1 rfl
  rw [a0, b0'] at q0
  rw [a1, b1'] at q1
  simp only [List.drop_zero, List.drop_succ_cons, List.take_succ_cons, List.take_zero] at q0 q1
  obtain ⟨ss, hss, hsf⟩ := strings_trod hG0 hes hec q0
  obtain ⟨ls, hls, hlf⟩ := lines_trod hG1 he hone hc h0 h1 h2 hi hic q1
  obtain ⟨ts, hts, htf⟩ := trips_trod hF1 hte hone2 hc2 y0 y1 y2 t1
  exact ⟨⟨⟨ss, ls⟩, ts⟩, ⟨_, _, _, rfl, hss, hls, hts⟩, ⟨hsf, hlf⟩, htf⟩
end

end Go.Proofs.Ytfgkfdkdjegaiaa

namespace Go.Proofs.Ytfgkfdkdjegaiaa
open Go.RowKit
set_option linter.unusedVariables false

end Go.Proofs.Ytfgkfdkdjegaiaa

namespace Go.Proofs.Ytfgkfdkdjegaiaa
open Go.RowKit
set_option linter.unusedVariables false

/-- a timetable that holds marks from k on -/
def TTMk (k : Int) (w : World) (v : Value) (t : TTD) : Prop := ∃ s l tr, v = .agg #[s, l, tr] ∧ NetMk k w (.agg #[s, l]) t.net ∧ TripsMk (k + netTot t.net) w tr t.trips
theorem TTMk.later {k : Int} {w w' : World} {v : Value} {t : TTD} (h : TTMk k w v t) (hb : Below w.heap.size w w') : TTMk k w' v t := by
  obtain ⟨s, l, tr, hv, h1, h2⟩ := h
  exact ⟨s, l, tr, hv, h1.later hb, h2.later hb⟩

end Go.Proofs.Ytfgkfdkdjegaiaa

namespace Go.Proofs.Ytfgkfdkdjegaiaa
open Go.RowKit
set_option linter.unusedVariables false

/-- the minutes from one place of a line to a later one -/
def runSum (l : LineD) (a b : Nat) : Int := ((l.runs.drop a).take (b - a)).sum
theorem sum_bound : ∀ (xs : List Int), (∀ x ∈ xs, 1 ≤ x ∧ x ≤ 60) → 0 ≤ xs.sum ∧ xs.sum ≤ 60 * xs.length
  | [], _ => by simp
  | x :: xs, h => by
    have h1 := h x (by simp)
    have h2 := sum_bound xs (fun y hy => h y (by simp [hy]))
    simp only [List.sum_cons, List.length_cons]
    omega
theorem sum_take_succ (xs : List Int) (k : Nat) (h : k < xs.length) : (xs.take (k + 1)).sum = (xs.take k).sum + xs[k] := by
  rw [List.take_succ_eq_append_getElem h, List.sum_append, List.sum_cons, List.sum_nil]; omega
theorem good_line {n : NetD} (hg : NetGood n) (i : Nat) (hi : i < n.lines.length) : LineGood n.lines[i] n.stops.length := hg.2.2.2.1 _ (List.getElem_mem hi)

/-- a part of a row of numbers -/
theorem row_part {w : World} {a : Option Addr} {xs : List Int} {c lo hi : Nat} (h : RowAt w (.slice a xs.length c) (ints xs)) (h1 : lo < hi) (h2 : hi ≤ xs.length) :
    ∃ b off, a = some ⟨b, off, none⟩ ∧ RowAt w (.slice (some ⟨b, off + lo, none⟩) (hi - lo) (c - lo)) (ints ((xs.drop lo).take (hi - lo))) := by
  obtain ⟨a', c', hv, hc, hm, hcell⟩ := h
  simp at hv
  obtain ⟨rfl, _, rfl⟩ := hv
  rw [ints_len] at hc
  obtain ⟨b, off, ha, hb, _⟩ := hcell lo _ (by rw [List.getElem?_eq_getElem (by rw [ints_len]; omega)])
  refine ⟨b, off, ha, some ⟨b, off + lo, none⟩, c - lo, ?_, ?_, by omega, fun k u hu => ⟨b, off + lo, rfl, hb, ?_⟩⟩
  · rw [ints_len]; simp; omega
  · rw [ints_len]; simp; omega
  · have hk : k < hi - lo := by
      have := (List.getElem?_eq_some_iff.1 hu).1; rw [ints_len] at this; simp at this; omega
    have hu' : (ints xs)[lo + k]? = some u := by
      rw [ints, List.getElem?_map] at hu ⊢
      rw [List.getElem?_take, if_pos hk, List.getElem?_drop] at hu
      exact hu
    obtain ⟨b', off', ha', _, hx⟩ := hcell (lo + k) u hu'
    rw [ha] at ha'
    simp at ha'
    obtain ⟨rfl, rfl⟩ := ha'
    rw [Nat.add_assoc]; exact hx

set_option maxHeartbeats 1000000 in
theorem l2Run_any (v : Value) (l : LineD) (i j : Nat) (w : World) (hr : LineV w v l) (hij : i ≤ j) (hj : j ≤ l.runs.length) (hl : l.runs.length ≤ 6) (hb : ∀ r ∈ l.runs, 1 ≤ r ∧ r ≤ 60) :
    Calls Try.prog 106 #[v, .int .i64 i, .int .i64 j] w fun e w' => e = .returned (.int .i64 (runSum l i j)) ∧ Below w.heap.size w w' := by
  obtain ⟨sv, rv, rfl, hs, hrr⟩ := hr
  obtain ⟨a, c, rfl, _⟩ := ints_open hs
  obtain ⟨a', c', rfl, hc', hm', HC⟩ := ints_open hrr
  have HBd := Lib.hid hb
  clear hs hrr hb
  go_enter Try.func106, Try.ntmps106
  go_wp2_with fail
  go_loop [7, 8] (fun s q => ∃ k : Nat, k ≤ j - i ∧ q = .int .i64 ((i + k : Nat) : Int) ∧ s = .int .i64 ((l.runs.drop i).take k).sum) (fun _ q => j - (RowKit.intOf q).toNat)
  case atStart => exact ⟨0, Nat.zero_le _, rfl, by simp⟩
  case round =>
    obtain ⟨k, hk, rfl, rfl⟩ := hrel
    have hbd := sum_bound ((l.runs.drop i).take k) (fun x hx => HBd.out x (List.mem_of_mem_drop (List.mem_of_mem_take hx)))
    have hlen : ((l.runs.drop i).take k).length ≤ 6 := by simp; omega
    by_cases hlt : k < j - i
    · obtain ⟨b, off, rfl, hbl, hcx⟩ := HC.out (i + k) (by omega)
      have hx := HBd.out _ (List.getElem_mem (show i + k < l.runs.length by omega))
      have HS : Hid (((l.runs.drop i).take (k + 1)).sum = ((l.runs.drop i).take k).sum + l.runs[i + k]'(by omega)) := by
        show _ = _
        rw [sum_take_succ _ _ (by simp; omega)]; simp
      generalize ((l.runs.drop i).take k).sum = s0 at *
      generalize l.runs[i + k] = x at *
      have hb1 : 0 ≤ s0 ∧ s0 ≤ 360 := by omega
      obtain ⟨hb1, hb2⟩ := hb1
      obtain ⟨hx1, hx2⟩ := hx
      have h3 : ((i + k : Nat) : Int) < (j : Int) := by omega
      clear hbd hlen
      go_wp2_with fail
      go_round
      case rel => exact ⟨k + 1, by omega, by go_num, by rw [HS.out]⟩
      case measure => simp [RowKit.intOf]; omega
    · have he : k = j - i := by omega
      subst he
      have h3 : ¬ ((i + (j - i) : Nat) : Int) < (j : Int) := by omega
      go_wp2_with fail
      go_ret
      exact ⟨rfl, (Below.refl _ _).alloc (Nat.le_refl _) _⟩

set_option maxHeartbeats 1000000 in
theorem sumOf_any (v : Value) (xs : List Int) (w : World) (hr : RowAt w v (ints xs)) (hl : xs.length ≤ 6) (hb : ∀ r ∈ xs, 1 ≤ r ∧ r ≤ 60) :
    Calls Try.prog 105 #[v] w fun e w' => e = .returned (.int .i64 xs.sum) ∧ w = w' := by
  obtain ⟨a, c, rfl, hc, hm, HC⟩ := ints_open hr
  have HBd := Lib.hid hb
  clear hr hb
  go_enter Try.func105, Try.ntmps105
  go_wp2_with fail
  go_loop [3, 8] (fun s q => ∃ k : Nat, k ≤ xs.length ∧ q = .int .i64 k ∧ s = .int .i64 (xs.take k).sum) (fun _ q => xs.length - (RowKit.intOf q).toNat)
  case atStart => exact ⟨0, Nat.zero_le _, rfl, by simp⟩
  case round =>
    obtain ⟨k, hk, rfl, rfl⟩ := hrel
    have hbd := sum_bound (xs.take k) (fun x hx => HBd.out x (List.mem_of_mem_take hx))
    have hlen : (xs.take k).length ≤ 6 := by simp; omega
    by_cases hlt : k < xs.length
    · obtain ⟨b, off, rfl, hbl, hcx⟩ := HC.out k hlt
      have hx := HBd.out _ (List.getElem_mem hlt)
      have HS := Lib.hid (sum_take_succ xs k hlt)
      generalize (xs.take k).sum = s0 at *
      generalize xs[k] = x at *
      have hb1 : 0 ≤ s0 ∧ s0 ≤ 360 := by omega
      obtain ⟨hb1, hb2⟩ := hb1
      obtain ⟨hx1, hx2⟩ := hx
      clear hbd hlen
      go_wp2_with fail
      go_round
      case rel => exact ⟨k + 1, by omega, by go_num, by rw [HS.out]⟩
      case measure => simp [RowKit.intOf]; omega
    · have HS : Hid ((xs.take k).sum = xs.sum) := by show _ = _; rw [List.take_of_length_le (by omega)]
      go_wp2_with fail
      go_ret
      exact ⟨ret_int HS.out, rfl⟩
end Go.Proofs.Ytfgkfdkdjegaiaa

namespace Go.Proofs.Ytfgkfdkdjegaiaa
open Go.RowKit
set_option linter.unusedVariables false

end Go.Proofs.Ytfgkfdkdjegaiaa

namespace Go.Proofs.Ytfgkfdkdjegaiaa
open Go.RowKit
set_option linter.unusedVariables false

theorem net_line {w : World} {a : Option Addr} {c : Nat} {a' : Option Addr} {c' : Nat} {n : NetD} (h : NetAt w (.agg #[.slice a n.stops.length c, .slice a' n.lines.length c']) n) (k : Nat) (hk : k < n.lines.length) :
    ∃ b off s0 s1 r0 r1, a' = some ⟨b, off, none⟩ ∧ b < w.heap.size ∧ w.cell? ⟨b, off + k * 3, none⟩ = some (.string n.lines[k].name) ∧ w.cell? ⟨b, off + k * 3 + 1, none⟩ = some (.slice s0 n.lines[k].stops.length s1) ∧ w.cell? ⟨b, off + k * 3 + 2, none⟩ = some (.slice r0 n.lines[k].runs.length r1) ∧
      RowAt w (.slice s0 n.lines[k].stops.length s1) (ints n.lines[k].stops) ∧ RowAt w (.slice r0 n.lines[k].runs.length r1) (ints n.lines[k].runs) := by
  obtain ⟨s, l, he, h1, h2⟩ := h
  simp at he
  obtain ⟨rfl, rfl⟩ := he
  obtain ⟨a2, c2, he, _, _, HC⟩ := lines_open h2
  simp at he
  obtain ⟨rfl, rfl⟩ := he
  obtain ⟨b, off, ha, hlt, hla⟩ := HC.out k hk
  obtain ⟨sv, rv, c0, c1, c2', r1, r2⟩ := hla
  obtain ⟨s0, s1, rfl⟩ := IntS_open r1
  obtain ⟨q0, q1, rfl⟩ := IntS_open r2
  exact ⟨b, off, s0, s1, q0, q1, ha, hlt, c0, c1, c2', r1, r2⟩
end Go.Proofs.Ytfgkfdkdjegaiaa

namespace Go.Proofs.Ytfgkfdkdjegaiaa
open Go.RowKit
set_option linter.unusedVariables false

theorem trip_at {w : World} {b : Option Addr} {d : Nat} {xs : List TripD} (h : TripsAt w (.slice b xs.length d) xs) (i : Nat) (hi : i < xs.length) :
    ∃ g off, b = some ⟨g, off, none⟩ ∧ g < w.heap.size ∧ w.cell? ⟨g, off + i * 3, none⟩ = some (.int .i64 xs[i].id) ∧ w.cell? ⟨g, off + i * 3 + 1, none⟩ = some (.int .i64 xs[i].line) ∧ w.cell? ⟨g, off + i * 3 + 2, none⟩ = some (.int .i64 xs[i].start) := by
  obtain ⟨a, c, he, _, _, HC⟩ := trips_open h
  simp at he
  obtain ⟨rfl, rfl⟩ := he
  exact HC.out i hi

theorem runSum_all (l : LineD) : runSum l 0 l.runs.length = l.runs.sum := by simp [runSum]
theorem keepE3 {W w w' : World} {p0 p1 p2 : Addr} {x0 x1 x2 : Value} (hb : Below w.heap.size w w') (h : w.cell? p0 = some x0 ∧ w.cell? p1 = some x1 ∧ w.cell? p2 = some x2 ∧ Below W.heap.size W w) : w'.cell? p0 = some x0 ∧ w'.cell? p1 = some x1 ∧ w'.cell? p2 = some x2 ∧ Below W.heap.size W w' := keepH3 hb h
theorem belE3 {W w : World} {p0 p1 p2 : Addr} {x0 x1 x2 : Value} (h : w.cell? p0 = some x0 ∧ w.cell? p1 = some x1 ∧ w.cell? p2 = some x2 ∧ Below W.heap.size W w) : Below W.heap.size W w := h.2.2.2
end Go.Proofs.Ytfgkfdkdjegaiaa

namespace Go.Proofs.Ytfgkfdkdjegaiaa
open Go.RowKit
set_option linter.unusedVariables false

noncomputable def canB (n : NetD) (x : TripD) : Bool := @decide (CanRun n x) (Classical.propDecidable _)
theorem canB_yes {n : NetD} {x : TripD} (h : CanRun n x) : canB n x = true := @decide_eq_true _ (Classical.propDecidable _) h
theorem canB_no {n : NetD} {x : TripD} (h : ¬ CanRun n x) : canB n x = false := @decide_eq_false _ (Classical.propDecidable _) h
theorem line_facts {n : NetD} (hg : NetGood n) (k : Nat) (hk : k < n.lines.length) : n.lines[k].runs.length + 1 = n.lines[k].stops.length ∧ n.lines[k].runs.length ≤ 6 ∧ ∀ r ∈ n.lines[k].runs, 1 ≤ r ∧ r ≤ 60 := by
  have h := (good_line hg k hk).2
  exact ⟨h.1.2.2, by have := h.1.2.1; have := h.1.2.2; omega, h.2.2.2⟩

end Go.Proofs.Ytfgkfdkdjegaiaa

namespace Go.Proofs.Ytfgkfdkdjegaiaa
open Go.RowKit
set_option linter.unusedVariables false

/-- the first k stop times -/
def tk (s : Int) (rs : List Int) (k : Nat) : List Int := (List.range k).map (fun p => s + (rs.take p).sum)
theorem tk_len (s : Int) (rs : List Int) (k : Nat) : (tk s rs k).length = k := by simp [tk]
theorem tk_succ (s : Int) (rs : List Int) (k : Nat) : tk s rs (k + 1) = tk s rs k ++ [s + (rs.take k).sum] := by simp [tk, List.range_succ]
theorem tk_get (s : Int) (rs : List Int) (k p : Nat) (h : p < k) : (tk s rs k)[p]? = some (s + (rs.take p).sum) := by simp [tk, h]
theorem runSum_zero (l : LineD) (p : Nat) : runSum l 0 p = (l.runs.take p).sum := by simp [runSum]

end Go.Proofs.Ytfgkfdkdjegaiaa
