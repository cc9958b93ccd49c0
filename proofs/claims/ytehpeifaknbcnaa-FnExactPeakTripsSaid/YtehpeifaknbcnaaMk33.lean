/-
  JOINED TEXTS, each under its own namespace line: Foll, FollB, Span.
-/
import Derived.Test.YtehpeifaknbcnaaMk31
import Derived.Shelf.Slices.Turned
import Derived.Ground.Names2Prog
import Derived.Shelf.Slices.Clone
import Derived.Test.YtehpeifaknbcnaaProg
import Derived.Test.YtehpeifaknbcnaaMk14
import Derived.RegionTactic
import Derived.BigRegion
import Derived.Test.YtehpeifaknbcnaaL5Good
import Derived.Test.YtehpeifaknbcnaaMk03
import Derived.Test.YtehpeifaknbcnaaSpanP
import Derived.Test.YtehpeifaknbcnaaInts
namespace Go.Proofs.Ytehpeifaknbcnaa
open Go.RowKit
set_option linter.unusedVariables false
set_option linter.unusedSimpArgs false

theorem tt_net {w : World} {a a' b : Option Addr} {c c' d : Nat} {t : TTD} (h : TTAt w (.agg #[.slice a t.net.stops.length c, .slice a' t.net.lines.length c', .slice b t.trips.length d]) t) :
    NetAt w (.agg #[.slice a t.net.stops.length c, .slice a' t.net.lines.length c']) t.net ∧ TripsAt w (.slice b t.trips.length d) t.trips := by
  obtain ⟨a2, c2, a3, c3, b2, d2, he, hn, ht⟩ := tt_open h
  simp at he
  obtain ⟨⟨rfl, rfl⟩, ⟨rfl, rfl⟩, rfl, rfl⟩ := he
  exact ⟨hn, ht⟩

end Go.Proofs.Ytehpeifaknbcnaa

namespace Go.Proofs.Ytehpeifaknbcnaa
open Go.RowKit
set_option linter.unusedVariables false
set_option linter.unusedSimpArgs false

theorem arrF_any (v : Value) (n : NetD) (x : TripD) (w : World) (hr : NetAt w v n) (hg : NetGood n) (hc : CanRun n x) :
    Calls Try.prog 99 #[v, tripV x] w fun e w' => e = .returned (.int .i64 (arrF n x)) ∧ Below w.heap.size w w' := by
  obtain ⟨i, hi, hx, hl, hok, ha⟩ := line_of hg hc.1
  rw [ha]
  have h1 := line_facts hg i hi
  exact arrivalOf_any v n x w hr i hx hi h1.2.1 h1.2.2 hc.2.1.1 hc.2.1.2

end Go.Proofs.Ytehpeifaknbcnaa

namespace Go.Proofs.Ytehpeifaknbcnaa
open Go.RowKit Go.ChangeShapes Go.WideShapes Go.ChangeAt Go.Deep Go.Joins
set_option linter.unusedVariables false

def SpansAt (w : World) (v : Value) (xs : List SpanD) : Prop :=
  ∃ a c, v = .slice a xs.length c ∧ xs.length ≤ c ∧ c ≤ maxLen ∧ ∀ k (hk : k < xs.length), ∃ b off, a = some ⟨b, off, none⟩ ∧ b < w.heap.size ∧ w.cell? ⟨b, off + k * 2, none⟩ = some (.int .i64 xs[k].1) ∧ w.cell? ⟨b, off + k * 2 + 1, none⟩ = some (.int .i64 xs[k].2)
theorem SpansAt.below {w w' : World} {v : Value} {xs : List SpanD} (h : SpansAt w v xs) {B : Nat} (hB : B = w.heap.size) (hb : Below B w w') : SpansAt w' v xs := by
  subst hB
  obtain ⟨a, c, hv, h1, h2, h3⟩ := h
  refine ⟨a, c, hv, h1, h2, fun k hk => ?_⟩
  obtain ⟨b, off, ha, hlt, c0, c1⟩ := h3 k hk
  exact ⟨b, off, ha, Nat.lt_of_lt_of_le hlt hb.size, bkeep hb c0, bkeep hb c1⟩
theorem spans_open {w : World} {v : Value} {xs : List SpanD} (h : SpansAt w v xs) : ∃ a c, v = .slice a xs.length c ∧ xs.length ≤ c ∧ c ≤ 9223372036854775807 ∧
    Hid (∀ k (hk : k < xs.length), ∃ b off, a = some ⟨b, off, none⟩ ∧ b < w.heap.size ∧ w.cell? ⟨b, off + k * 2, none⟩ = some (.int .i64 xs[k].1) ∧ w.cell? ⟨b, off + k * 2 + 1, none⟩ = some (.int .i64 xs[k].2)) := by
  obtain ⟨a, c, rfl, h1, h2, h3⟩ := h
  exact ⟨a, c, rfl, h1, h2, h3⟩
def spanC : List SpanD → List Value
  | [] => []
  | s :: xs => .int .i64 s.1 :: .int .i64 s.2 :: spanC xs
theorem spanC_append : ∀ xs ys : List SpanD, spanC (xs ++ ys) = spanC xs ++ spanC ys
  | [], ys => rfl
  | s :: xs, ys => by simp only [spanC, List.cons_append]; rw [spanC_append xs ys]
theorem spanC_get0 : ∀ (xs : List SpanD) (k : Nat) (hk : k < xs.length), (spanC xs)[k * 2]? = some (.int .i64 xs[k].1)
  | s :: xs, 0, _ => rfl
  | s :: xs, k + 1, hk => by
    have := spanC_get0 xs k (by simpa using hk)
    rw [show (k + 1) * 2 = k * 2 + 1 + 1 by omega]
    simpa [spanC] using this
theorem spanC_get1 : ∀ (xs : List SpanD) (k : Nat) (hk : k < xs.length), (spanC xs)[k * 2 + 1]? = some (.int .i64 xs[k].2)
  | s :: xs, 0, _ => rfl
  | s :: xs, k + 1, hk => by
    have := spanC_get1 xs k (by simpa using hk)
    rw [show (k + 1) * 2 + 1 = k * 2 + 1 + 1 + 1 by omega]
    simpa [spanC] using this
theorem spanC_one : ∀ (w : World) (s : SpanD) (t : TypeId), ∀ j x, (spanC [s])[j]? = some x → (w.alloc (.cells #[.int .i64 s.1, .int .i64 s.2] t)).cell? ((⟨w.heap.size, 0, none⟩ : Addr).add j) = some x := by
  intro w s t j x hx
  rw [addr_add, Nat.zero_add]
  match j, hx with
  | 0, hx => simp [spanC] at hx; subst hx; simp
  | 1, hx => simp [spanC] at hx; subst hx; simp
  | j + 2, hx => simp [spanC] at hx
theorem spanC_cells (xs : List SpanD) : ∀ u ∈ spanC xs, u.oneCell' = true := by
  induction xs with
  | nil => simp [spanC]
  | cons s xs ih =>
    intro u hu
    simp only [spanC, List.mem_cons] at hu
    rcases hu with rfl | rfl | hu
    · rfl
    · rfl
    · exact ih u hu

theorem spansAt_own {w : World} {B : Nat} {e : TypeId} {v : Value} {xs : List SpanD} (h : w.ownsRow B e 2 v xs.length (spanC xs)) : SpansAt w v xs := by
  have hc := fun g hg => h.cells (g := g) hg
  have hl := h.lt
  obtain ⟨hn, h2⟩ := h
  rcases h2 with ⟨hv, h0⟩ | ⟨g, cap, cur, hv, hg, hh, h1, h3, h4, h5⟩
  · have : xs = [] := List.eq_nil_of_length_eq_zero h0
    subst this
    exact ⟨none, 0, hv, Nat.le_refl _, by decide, fun k hk => by simp at hk⟩
  · refine ⟨_, cap, hv, h1, h3, fun k hk => ⟨g, 0, rfl, (hl g (by rw [hv]; rfl)).2, ?_, ?_⟩⟩
    · have := hc g (by rw [hv]; rfl) (k * 2) _ (spanC_get0 xs k hk)
      rw [addr_add] at this; exact this
    · have := hc g (by rw [hv]; rfl) (k * 2 + 1) _ (spanC_get1 xs k hk)
      rw [addr_add] at this; exact this
structure SpanBox (w : World) (b : Nat) (s : SpanD) : Prop where
  c0 : w.cell? ⟨b, 0, none⟩ = some (.int .i64 s.1)
  c1 : w.cell? ⟨b, 1, none⟩ = some (.int .i64 s.2)
  fz : ∀ o, w.frozen? ⟨b, o, none⟩ = false
theorem SpanBox.lt {w : World} {b : Nat} {s : SpanD} (h : SpanBox w b s) : b < w.heap.size := World.block_lt_of_cell? w _ h.c0
theorem SpanBox.keep {w w' : World} {b : Nat} {s : SpanD} (h : SpanBox w b s) (hb : Below w.heap.size w w') : SpanBox w' b s := ⟨bkeep hb h.c0, bkeep hb h.c1, fun o => fkeep hb (show b < _ from h.lt) (h.fz o)⟩
theorem SpanBox.new (w : World) (s : SpanD) (t : TypeId) : SpanBox (w.alloc (.cells #[.int .i64 s.1, .int .i64 s.2] t)) w.heap.size s := ⟨by go_simp, by go_simp, fun o => by go_simp⟩
theorem SpanBox.set {w : World} {b : Nat} {s : SpanD} (h : SpanBox w b s) (u v : Int) : SpanBox ((w.setCell ⟨b, 0, none⟩ (.int .i64 u)).setCell ⟨b, 1, none⟩ (.int .i64 v)) b (u, v) :=
  ⟨(set_other (by omega)).trans (set_same h.c0), set_same (z := .int .i64 s.2) ((set_other (by omega)).trans h.c1), fun o => by rw [World.frozen?_setCell, World.frozen?_setCell]; exact h.fz o⟩

section
variable {H : Type} {enc : TypeId × Value → H} {P : Program} {w : World} {base : Nat} {spare : Nat → Bool} {held : Bool}

end

end Go.Proofs.Ytehpeifaknbcnaa
