/-
  A TIMETABLE IN MEMORY: an aggregate of three cells reads as a timetable; what came in as one reads so.
-/
import Derived.Test.YtfgkfdkdjegaiaaTTP
import Derived.Test.YtfgkfdkdjegaiaaNetX
import Derived.Test.YtfgkfdkdjegaiaaTripX
namespace Go.Proofs.Ytfgkfdkdjegaiaa
open Go.RowKit Go.ChangeShapes Go.WideShapes Go.ChangeAt Go.Deep Go.Joins
set_option linter.unusedVariables false

def TTAt (w : World) (v : Value) (t : TTD) : Prop := ∃ s l tr, v = .agg #[s, l, tr] ∧ RowAt w s (strs t.net.stops) ∧ LinesAt w l t.net.lines ∧ TripsAt w tr t.trips
def TTFits (t : TTD) : Prop := NetFits t.net ∧ TripsFit t.trips
def TTSmall (t : TTD) : Prop := NetSmall t.net ∧ TripsSmall t.trips
theorem TTAt.below {w w' : World} {v : Value} {t : TTD} (h : TTAt w v t) {B : Nat} (hB : B = w.heap.size) (hb : Below B w w') : TTAt w' v t := by
  obtain ⟨s, l, tr, hv, h1, h2, h3⟩ := h
  exact ⟨s, l, tr, hv, h1.below hB hb, h2.below hB hb, h3.below hB hb⟩
theorem tt_open {w : World} {v : Value} {t : TTD} (h : TTAt w v t) : ∃ a c a' c' b d, v = .agg #[.slice a t.net.stops.length c, .slice a' t.net.lines.length c', .slice b t.trips.length d] ∧
    NetAt w (.agg #[.slice a t.net.stops.length c, .slice a' t.net.lines.length c']) t.net ∧ TripsAt w (.slice b t.trips.length d) t.trips := by
  obtain ⟨s, l, tr, rfl, h1, h2, h3⟩ := h
  obtain ⟨a, c, rfl, _⟩ := strs_open h1
  obtain ⟨a', c', rfl, _⟩ := lines_open h2
  obtain ⟨b, d, rfl⟩ := TripS_open h3
  exact ⟨a, c, a', c', b, d, rfl, ⟨_, _, rfl, h1, h2⟩, h3⟩
theorem Timetable_open {w : World} {v : Value} {t : TTD} (h : TTAt w v t) : ∃ a c a' c' b d, v = .agg #[.slice a t.net.stops.length c, .slice a' t.net.lines.length c', .slice b t.trips.length d] := by
  obtain ⟨a, c, a', c', b, d, hv, _⟩ := tt_open h
  exact ⟨a, c, a', c', b, d, hv⟩
theorem TTAt.mk {w : World} {a : Option Addr} {c : Nat} {a' : Option Addr} {c' : Nat} {tr : Value} {t : TTD} (h : NetAt w (.agg #[.slice a t.net.stops.length c, .slice a' t.net.lines.length c']) t.net) (h2 : TripsAt w tr t.trips) :
    TTAt w (.agg #[.slice a t.net.stops.length c, .slice a' t.net.lines.length c', tr]) t := by
  obtain ⟨s, l, hv, h3, h4⟩ := h
  simp at hv
  obtain ⟨rfl, rfl⟩ := hv
  exact ⟨_, _, _, rfl, h3, h4, h2⟩

section
variable {H : Type} {enc : TypeId × Value → H} {P : Program} {w : World} {base : Nat} {spare : Nat → Bool} {held : Bool}
theorem tt_trod {r : Reach} {b0 : Nat} {t e le si te : TypeId} {F0 F1 G0 G1 f0 f1 f2 g0 g1 g2 : Field} {v : Value} {d : DataW H} {p : List MemPlace} (hs : P.underlying t = some (.struct #[F0, F1])) (hC : P.cellsOf t = 3)
    (o0 : F0.offset = 0) (k0 : P.cellsOf F0.type = 2) (o1 : F1.offset = 2) (k1 : P.cellsOf F1.type = 1) (hn : P.underlying F0.type = some (.struct #[G0, G1])) (hone0 : oneCellFields P #[G0, G1] = true)
    (hG0 : P.underlying G0.type = some (.slice e)) (hes : P.underlying e = some .string) (hec : P.cellsOf e = 1) (hG1 : P.underlying G1.type = some (.slice le)) (he : P.underlying le = some (.struct #[f0, f1, f2]))
    (hone : oneCellFields P #[f0, f1, f2] = true) (hc : P.cellsOf le = 3) (h0 : P.underlying f0.type = some .string) (h1 : P.underlying f1.type = some (.slice si)) (h2 : P.underlying f2.type = some (.slice si)) (hi : P.underlying si = some (.int .i64)) (hic : P.cellsOf si = 1)
    (hF1 : P.underlying F1.type = some (.slice te)) (hte : P.underlying te = some (.struct #[g0, g1, g2])) (hone2 : oneCellFields P #[g0, g1, g2] = true) (hc2 : P.cellsOf te = 3) (y0 : P.underlying g0.type = some (.int .i64)) (y1 : P.underlying g1.type = some (.int .i64)) (y2 : P.underlying g2.type = some (.int .i64))
    (hv : Value.okWide P w r b0 t v) (h : DataW.Trod enc P w base spare held t v d p) : ∃ n : TTD, TTAt w v n ∧ TTFits n := by
  obtain ⟨cs, rfl, hsz⟩ := okWide_struct hs hv
  obtain ⟨c0, c1, c2, rfl⟩ := array3 (hsz.trans hC)
  obtain ⟨fuel, hf⟩ := h
  obtain ⟨z0, z1, n, _, _, t0, t1⟩ := trod_struct2 hs hf
  rw [o0, k0] at t0
  rw [o1, k1] at t1
  simp only [Value.cells, List.drop_zero, List.drop_succ_cons, List.take_succ_cons, List.take_zero] at t0 t1
  obtain ⟨x0, x1, m, _, _, q0, q1⟩ := trod_struct2 hn t0
  obtain ⟨a0, b0'⟩ := hone_of hone0 0 G0 rfl
  obtain ⟨a1, b1'⟩ := hone_of hone0 1 G1 rfl
  rw [a0, b0'] at q0
  rw [a1, b1'] at q1
  simp only [List.drop_zero, List.drop_succ_cons, List.take_succ_cons, List.take_zero] at q0 q1
  obtain ⟨ss, hss, hsf⟩ := strings_trod hG0 hes hec q0
  obtain ⟨ls, hls, hlf⟩ := lines_trod hG1 he hone hc h0 h1 h2 hi hic q1
  obtain ⟨ts, hts, htf⟩ := trips_trod hF1 hte hone2 hc2 y0 y1 y2 t1
  exact ⟨⟨⟨ss, ls⟩, ts⟩, ⟨_, _, _, rfl, hss, hls, hts⟩, ⟨hsf, hlf⟩, htf⟩
end

end Go.Proofs.Ytfgkfdkdjegaiaa
