import Derived.Test.YtehpeifaknbcnaaMk04
import Derived.Test.YtehpeifaknbcnaaNetX
import Derived.Test.YtehpeifaknbcnaaTripX
namespace Go.Proofs.Ytehpeifaknbcnaa
open Go.RowKit Go.ChangeShapes Go.WideShapes Go.ChangeAt Go.Deep Go.Joins
set_option linter.unusedVariables false

def TTAt (w : World) (v : Value) (t : TTD) : Prop := ∃ s l tr, v = .agg #[s, l, tr] ∧ RowAt w s (strs t.net.stops) ∧ LinesAt w l t.net.lines ∧ TripsAt w tr t.trips
def TTFits (t : TTD) : Prop := NetFits t.net ∧ TripsFit t.trips
def TTSmall (t : TTD) : Prop := NetSmall t.net ∧ TripsSmall t.trips
theorem TTAt.below {w w' : World} {v : Value} {t : TTD} (h : TTAt w v t) {B : Nat} (hB : B = w.heap.size) (hb : Below B w w') : TTAt w' v t := by
  obtain ⟨s, l, tr, hv, h1, h2, h3⟩ := h
  exact ⟨s, l, tr, hv, h1.below hB hb, h2.below hB hb, h3.below hB hb⟩
theorem tt_open {w : World} {v : Value} {t : TTD} (h : TTAt w v t) : ∃ a c a' c' b d, v = .agg #[.slice a t.net.stops.length c, .slice a' t.net.lines.length c', .slice b t.trips.length d] ∧
    NetAt w (.agg #[.slice a t.net.stops.length c, .slice a' t.net.lines.length c']) t.net ∧ TripsAt w (.slice b t.trips.length d) t.trips := by
  obtain ⟨s, l, tr, rfl, h1, h2, h3⟩ := h
  obtain ⟨a, c, rfl, _⟩ := strs_open h1
  obtain ⟨a', c', rfl, _⟩ := lines_open h2
  obtain ⟨b, d, rfl⟩ := TripS_open h3
  exact ⟨a, c, a', c', b, d, rfl, ⟨_, _, rfl, h1, h2⟩, h3⟩
theorem Timetable_open {w : World} {v : Value} {t : TTD} (h : TTAt w v t) : ∃ a c a' c' b d, v = .agg #[.slice a t.net.stops.length c, .slice a' t.net.lines.length c', .slice b t.trips.length d] := by
  obtain ⟨a, c, a', c', b, d, hv, _⟩ := tt_open h
  exact ⟨a, c, a', c', b, d, hv⟩
theorem TTAt.mk {w : World} {a : Option Addr} {c : Nat} {a' : Option Addr} {c' : Nat} {tr : Value} {t : TTD} (h : NetAt w (.agg #[.slice a t.net.stops.length c, .slice a' t.net.lines.length c']) t.net) (h2 : TripsAt w tr t.trips) :
    TTAt w (.agg #[.slice a t.net.stops.length c, .slice a' t.net.lines.length c', tr]) t := by
  obtain ⟨s, l, hv, h3, h4⟩ := h
  simp at hv
  obtain ⟨rfl, rfl⟩ := hv
  exact ⟨_, _, _, rfl, h3, h4, h2⟩

def TTIn (l u : Nat) (w : World) (v : Value) (t : TTD) : Prop := ∃ s l' tr m m', v = .agg #[s, l', tr] ∧ NetIn m m' w (.agg #[s, l']) t.net ∧ TripsIn l u w tr t.trips ∧ (l ≤ m ∧ m ≤ m') ∧ m' ≤ u ∧ (∀ g, tr.ownBlock = some g → g < m ∨ m' ≤ g)
theorem TTIn.at {l u : Nat} {w : World} {v : Value} {t : TTD} (h : TTIn l u w v t) : TTAt w v t := by
  obtain ⟨s, l', tr, m, m', hv, h1, h2, _⟩ := h
  obtain ⟨s', l'', he, h3, h4⟩ := h1.at
  simp at he
  obtain ⟨rfl, rfl⟩ := he
  exact ⟨_, _, _, hv, h3, h4, h2.at⟩
theorem TTIn.later {l u : Nat} {w w' : World} {v : Value} {t : TTD} (h : TTIn l u w v t) (hb : Below w.heap.size w w') : TTIn l u w' v t := by
  obtain ⟨s, l', tr, m, m', hv, h1, h2, h3⟩ := h
  exact ⟨s, l', tr, m, m', hv, h1.later hb, h2.later hb, h3⟩
theorem TTIn.out {l u lo hi : Nat} {w w' : World} {v : Value} {t : TTD} (h : TTIn l u w v t) (ho : Out lo hi w w') (hs : u ≤ lo ∨ hi ≤ l) : TTIn l u w' v t := by
  obtain ⟨s, l', tr, m, m', hv, h1, h2, h3, h4, h5⟩ := h
  exact ⟨s, l', tr, m, m', hv, h1.out ho (by omega), h2.out ho (by omega), h3, h4, h5⟩
theorem TTIn.base {l l' u u' : Nat} {w : World} {v : Value} {t : TTD} (h : TTIn l u w v t) (hl : l' ≤ l) (hu : u ≤ u') : TTIn l' u' w v t := by
  obtain ⟨s, l'', tr, m, m', hv, h1, h2, h3, h4, h5⟩ := h
  exact ⟨s, l'', tr, m, m', hv, h1, h2.base hl hu, ⟨by omega, h3.2⟩, by omega, h5⟩
theorem TTIn.zero (l u : Nat) (w : World) (h : l ≤ u) : TTIn l u w (.agg #[.slice none 0 0, .slice none 0 0, .slice none 0 0]) ⟨⟨[], []⟩, []⟩ :=
  ⟨_, _, _, l, u, rfl, NetIn.zero l u w, TripsIn.nil l u w, ⟨Nat.le_refl _, h⟩, Nat.le_refl _, fun g hg => by simp [Value.ownBlock] at hg⟩

section
variable {H : Type} {enc : TypeId × Value → H} {P : Program} {w : World} {base : Nat} {spare : Nat → Bool} {held : Bool}
theorem tt_trod {r : Reach} {b0 : Nat} {t e le si te : TypeId} {F0 F1 G0 G1 f0 f1 f2 g0 g1 g2 : Field} {v : Value} {d : DataW H} {p : List MemPlace} (hs : P.underlying t = some (.struct #[F0, F1])) (hC : P.cellsOf t = 3)
    (o0 : F0.offset = 0) (k0 : P.cellsOf F0.type = 2) (o1 : F1.offset = 2) (k1 : P.cellsOf F1.type = 1) (hn : P.underlying F0.type = some (.struct #[G0, G1])) (hone0 : oneCellFields P #[G0, G1] = true)
    (hG0 : P.underlying G0.type = some (.slice e)) (hes : P.underlying e = some .string) (hec : P.cellsOf e = 1) (hG1 : P.underlying G1.type = some (.slice le)) (he : P.underlying le = some (.struct #[f0, f1, f2]))
    (hone : oneCellFields P #[f0, f1, f2] = true) (hc : P.cellsOf le = 3) (h0 : P.underlying f0.type = some .string) (h1 : P.underlying f1.type = some (.slice si)) (h2 : P.underlying f2.type = some (.slice si)) (hi : P.underlying si = some (.int .i64)) (hic : P.cellsOf si = 1)
    (hF1 : P.underlying F1.type = some (.slice te)) (hte : P.underlying te = some (.struct #[g0, g1, g2])) (hone2 : oneCellFields P #[g0, g1, g2] = true) (hc2 : P.cellsOf te = 3) (y0 : P.underlying g0.type = some (.int .i64)) (y1 : P.underlying g1.type = some (.int .i64)) (y2 : P.underlying g2.type = some (.int .i64))
    (hv : Value.okWide P w r b0 t v) (h : DataW.Trod enc P w base spare held t v d p) : ∃ n : TTD, TTAt w v n ∧ TTFits n := by
  obtain ⟨cs, rfl, hsz⟩ := okWide_struct hs hv
  obtain ⟨c0, c1, c2, rfl⟩ := array3 (hsz.trans hC)
  obtain ⟨fuel, hf⟩ := h
  obtain ⟨z0, z1, n, _, _, t0, t1⟩ := trod_struct2 hs hf
  rw [o0, k0] at t0
  rw [o1, k1] at t1
  simp only [Value.cells, List.drop_zero, List.drop_succ_cons, List.take_succ_cons, List.take_zero] at t0 t1
  obtain ⟨x0, x1, m, _, _, q0, q1⟩ := trod_struct2 hn t0
  obtain ⟨a0, b0'⟩ := hone_of hone0 0 G0 rfl
  obtain ⟨a1, b1'⟩ := hone_of hone0 1 G1 rfl
  rw [a0, b0'] at q0
  rw [a1, b1'] at q1
  simp only [List.drop_zero, List.drop_succ_cons, List.take_succ_cons, List.take_zero] at q0 q1
  obtain ⟨ss, hss, hsf⟩ := strings_trod hG0 hes hec q0
  obtain ⟨ls, hls, hlf⟩ := lines_trod hG1 he hone hc h0 h1 h2 hi hic q1
  obtain ⟨ts, hts, htf⟩ := trips_trod hF1 hte hone2 hc2 y0 y1 y2 t1
  exact ⟨⟨⟨ss, ls⟩, ts⟩, ⟨_, _, _, rfl, hss, hls, hts⟩, ⟨hsf, hlf⟩, htf⟩
end

set_option maxRecDepth 100000 in
theorem tt_of {H : Type} {enc : TypeId × Value → H} {W : World} {base base' : Nat} {spare : Nat → Bool} {held : Bool} {v : Value} {d : DataW H} {p : List MemPlace}
    (hv : Value.okWide Try.prog W .any base 43 v) (h : DataW.Trod enc Try.prog W base' spare held 43 v d p) : ∃ n, TTAt W v n ∧ TTFits n :=
  tt_trod Try.underlying43 (by kernel_rfl) rfl (by kernel_rfl) rfl (by kernel_rfl) Try.underlying25 (by kernel_rfl) Try.underlying22 Try.underlying9 (by kernel_rfl)
    Try.underlying23 Try.underlying117 (by kernel_rfl) (by kernel_rfl) Try.underlying9 Try.underlying80 Try.underlying80 Try.underlying3 (by kernel_rfl)
    Try.underlying41 Try.underlying127 (by kernel_rfl) (by kernel_rfl) Try.underlying3 Try.underlying3 Try.underlying3 hv h
end Go.Proofs.Ytehpeifaknbcnaa
