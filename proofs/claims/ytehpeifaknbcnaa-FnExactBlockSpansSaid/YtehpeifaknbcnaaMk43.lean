/-
  JOINED TEXTS, each under its own namespace line: DeadP, DeadOf, DeadMinutes, Span.
-/
import Derived.Test.YtehpeifaknbcnaaMk33
import Derived.Test.YtehpeifaknbcnaaValidBlocksS
import Derived.Test.YtehpeifaknbcnaaMk01
import Derived.Test.YtehpeifaknbcnaaInts
namespace Go.Proofs.Ytehpeifaknbcnaa
set_option linter.unusedVariables false

def AllFnd (t : TTD) (bs : List (List Int)) : Prop := ∀ i (h : i < bs.length), 0 < bs[i].length ∧ ∀ k (hk : k < bs[i].length), foundT t bs[i][k] = true
theorem BlksGood.fnd {t : TTD} {f : FleetD} {bs : List (List Int)} (h : BlksGood t f bs) : AllFnd t bs := fun i hi =>
  ⟨List.length_pos_iff.2 (h.1 i hi hi).1.1, fun k hk => ((h.1 i hi hi).1.2 k hk hk).1⟩
end Go.Proofs.Ytehpeifaknbcnaa

namespace Go.Proofs.Ytehpeifaknbcnaa
open Go.RowKit
set_option linter.unusedVariables false
set_option linter.unusedSimpArgs false

theorem tripFnd_any (tv : Value) (t : TTD) (id : Int) (w : World) (hr : TTAt w tv t) (hg : TTGood t) (hf : foundT t id = true) :
    Calls Try.prog 62 #[tv, .int .i64 id] w fun e w' => e = .returned (.tuple #[tripV (tripOf t id), .bool true]) ∧ Below w.heap.size w w' := by
  have h := tripWith_any tv t id w hr hg
  rw [hf] at h
  simpa using h

end Go.Proofs.Ytehpeifaknbcnaa

namespace Go.Proofs.Ytehpeifaknbcnaa
open Go.RowKit
set_option linter.unusedVariables false
set_option linter.unusedSimpArgs false

noncomputable def dmOk (t : TTD) (f : FleetD) (bs : List (List Int)) : Bool := askedB t f && blksB t f bs
theorem blksB_iff {t : TTD} {f : FleetD} {bs : List (List Int)} : blksB t f bs = true ↔ BlksGood t f bs := by unfold blksB; simp

end Go.Proofs.Ytehpeifaknbcnaa

namespace Go.Proofs.Ytehpeifaknbcnaa
open Go.RowKit Go.ChangeShapes Go.WideShapes Go.ChangeAt Go.Deep Go.Joins
set_option linter.unusedVariables false

def SpansAt (w : World) (v : Value) (xs : List SpanD) : Prop :=
  ∃ a c, v = .slice a xs.length c ∧ xs.length ≤ c ∧ c ≤ maxLen ∧ ∀ k (hk : k < xs.length), ∃ b off, a = some ⟨b, off, none⟩ ∧ b < w.heap.size ∧ w.cell? ⟨b, off + k * 2, none⟩ = some (.int .i64 xs[k].1) ∧ w.cell? ⟨b, off + k * 2 + 1, none⟩ = some (.int .i64 xs[k].2)
theorem SpansAt.below {w w' : World} {v : Value} {xs : List SpanD} (h : SpansAt w v xs) {B : Nat} (hB : B = w.heap.size) (hb : Below B w w') : SpansAt w' v xs := by
  subst hB
  obtain ⟨a, c, hv, h1, h2, h3⟩ := h
  refine ⟨a, c, hv, h1, h2, fun k hk => ?_⟩
  obtain ⟨b, off, ha, hlt, c0, c1⟩ := h3 k hk
  exact ⟨b, off, ha, Nat.lt_of_lt_of_le hlt hb.size, bkeep hb c0, bkeep hb c1⟩
theorem spans_open {w : World} {v : Value} {xs : List SpanD} (h : SpansAt w v xs) : ∃ a c, v = .slice a xs.length c ∧ xs.length ≤ c ∧ c ≤ 9223372036854775807 ∧
    Hid (∀ k (hk : k < xs.length), ∃ b off, a = some ⟨b, off, none⟩ ∧ b < w.heap.size ∧ w.cell? ⟨b, off + k * 2, none⟩ = some (.int .i64 xs[k].1) ∧ w.cell? ⟨b, off + k * 2 + 1, none⟩ = some (.int .i64 xs[k].2)) := by
  obtain ⟨a, c, rfl, h1, h2, h3⟩ := h
  exact ⟨a, c, rfl, h1, h2, h3⟩
theorem SpanS_open {w : World} {v : Value} {xs : List SpanD} (h : SpansAt w v xs) : ∃ a c, v = .slice a xs.length c := by
  obtain ⟨a, c, rfl, _⟩ := h; exact ⟨a, c, rfl⟩

def spanC : List SpanD → List Value
  | [] => []
  | s :: xs => .int .i64 s.1 :: .int .i64 s.2 :: spanC xs
theorem spanC_append : ∀ xs ys : List SpanD, spanC (xs ++ ys) = spanC xs ++ spanC ys
  | [], ys => rfl
  | s :: xs, ys => by simp only [spanC, List.cons_append]; rw [spanC_append xs ys]
theorem spanC_get0 : ∀ (xs : List SpanD) (k : Nat) (hk : k < xs.length), (spanC xs)[k * 2]? = some (.int .i64 xs[k].1)
  | s :: xs, 0, _ => rfl
  | s :: xs, k + 1, hk => by
    have := spanC_get0 xs k (by simpa using hk)
    rw [show (k + 1) * 2 = k * 2 + 1 + 1 by omega]
    simpa [spanC] using this
theorem spanC_get1 : ∀ (xs : List SpanD) (k : Nat) (hk : k < xs.length), (spanC xs)[k * 2 + 1]? = some (.int .i64 xs[k].2)
  | s :: xs, 0, _ => rfl
  | s :: xs, k + 1, hk => by
    have := spanC_get1 xs k (by simpa using hk)
    rw [show (k + 1) * 2 + 1 = k * 2 + 1 + 1 + 1 by omega]
    simpa [spanC] using this
theorem spanC_set0 : ∀ (xs : List SpanD) (k : Nat) (a : Int) (hk : k < xs.length), (spanC xs).set (k * 2) (.int .i64 a) = spanC (xs.set k (a, xs[k].2))
  | s :: xs, 0, a, _ => rfl
  | s :: xs, k + 1, a, hk => by
    have := spanC_set0 xs k a (by simpa using hk)
    rw [show (k + 1) * 2 = k * 2 + 1 + 1 by omega]
    simpa [spanC] using this
theorem spanC_set1 : ∀ (xs : List SpanD) (k : Nat) (a : Int) (hk : k < xs.length), (spanC xs).set (k * 2 + 1) (.int .i64 a) = spanC (xs.set k (xs[k].1, a))
  | s :: xs, 0, a, _ => rfl
  | s :: xs, k + 1, a, hk => by
    have := spanC_set1 xs k a (by simpa using hk)
    rw [show (k + 1) * 2 + 1 = k * 2 + 1 + 1 + 1 by omega]
    simpa [spanC] using this
theorem spanC_set (xs : List SpanD) (k : Nat) (s : SpanD) (hk : k < xs.length) : ((spanC xs).set (k * 2) (.int .i64 s.1)).set (k * 2 + 1) (.int .i64 s.2) = spanC (xs.set k s) := by
  rw [spanC_set0 _ _ _ hk, spanC_set1 _ _ _ (by simpa using hk)]
  simp
theorem spanC_one : ∀ (w : World) (s : SpanD) (t : TypeId), ∀ j x, (spanC [s])[j]? = some x → (w.alloc (.cells #[.int .i64 s.1, .int .i64 s.2] t)).cell? ((⟨w.heap.size, 0, none⟩ : Addr).add j) = some x := by
  intro w s t j x hx
  rw [addr_add, Nat.zero_add]
  match j, hx with
  | 0, hx => simp [spanC] at hx; subst hx; simp
  | 1, hx => simp [spanC] at hx; subst hx; simp
  | j + 2, hx => simp [spanC] at hx
theorem spanC_cells (xs : List SpanD) : ∀ u ∈ spanC xs, u.oneCell' = true := by
  induction xs with
  | nil => simp [spanC]
  | cons s xs ih =>
    intro u hu
    simp only [spanC, List.mem_cons] at hu
    rcases hu with rfl | rfl | hu
    · rfl
    · rfl
    · exact ih u hu

def SpansIn (l u : Nat) (w : World) (v : Value) (xs : List SpanD) : Prop := w.ownsRow l 104 2 v xs.length (spanC xs) ∧ ∀ g, v.ownBlock = some g → g < u
theorem spansAt_own {w : World} {B : Nat} {e : TypeId} {v : Value} {xs : List SpanD} (h : w.ownsRow B e 2 v xs.length (spanC xs)) : SpansAt w v xs := by
  have hc := fun g hg => h.cells (g := g) hg
  have hl := h.lt
  obtain ⟨hn, h2⟩ := h
  rcases h2 with ⟨hv, h0⟩ | ⟨g, cap, cur, hv, hg, hh, h1, h3, h4, h5⟩
  · have : xs = [] := List.eq_nil_of_length_eq_zero h0
    subst this
    exact ⟨none, 0, hv, Nat.le_refl _, by decide, fun k hk => by simp at hk⟩
  · refine ⟨_, cap, hv, h1, h3, fun k hk => ⟨g, 0, rfl, (hl g (by rw [hv]; rfl)).2, ?_, ?_⟩⟩
    · have := hc g (by rw [hv]; rfl) (k * 2) _ (spanC_get0 xs k hk)
      rw [addr_add] at this; exact this
    · have := hc g (by rw [hv]; rfl) (k * 2 + 1) _ (spanC_get1 xs k hk)
      rw [addr_add] at this; exact this
theorem SpansIn.at {l u : Nat} {w : World} {v : Value} {xs : List SpanD} (h : SpansIn l u w v xs) : SpansAt w v xs := spansAt_own h.1
theorem SpansIn.lo {l u : Nat} {w : World} {v : Value} {xs : List SpanD} (h : SpansIn l u w v xs) (g : Nat) (hg : v.ownBlock = some g) : l ≤ g := (h.1.lt g hg).1
theorem SpansIn.later {l u : Nat} {w w' : World} {v : Value} {xs : List SpanD} (h : SpansIn l u w v xs) (hb : Below w.heap.size w w') : SpansIn l u w' v xs := ⟨own_later h.1 hb, h.2⟩
theorem SpansIn.out {l u lo hi : Nat} {w w' : World} {v : Value} {xs : List SpanD} (h : SpansIn l u w v xs) (ho : Out lo hi w w') (hs : u ≤ lo ∨ hi ≤ l) : SpansIn l u w' v xs :=
  ⟨own_out h.1 ho (fun g hg => by have := h.2 g hg; have := h.lo g hg; omega), h.2⟩
theorem SpansIn.mk {l : Nat} {w : World} {v : Value} {xs : List SpanD} (h : w.ownsRow l 104 2 v xs.length (spanC xs)) : SpansIn l w.heap.size w v xs := ⟨h, fun g hg => (h.lt g hg).2⟩
theorem SpansIn.base {l l' u u' : Nat} {w : World} {v : Value} {xs : List SpanD} (h : SpansIn l u w v xs) (hl : l' ≤ l) (hu : u ≤ u') : SpansIn l' u' w v xs := ⟨own_base h.1 hl, fun g hg => Nat.lt_of_lt_of_le (h.2 g hg) hu⟩
theorem SpansIn.nil (l u : Nat) (w : World) : SpansIn l u w (.slice none 0 0) [] := ⟨World.ownsRow_nil _ _ _ _, fun g hg => by simp [Value.ownBlock] at hg⟩

structure SpanBox (w : World) (b : Nat) (s : SpanD) : Prop where
  c0 : w.cell? ⟨b, 0, none⟩ = some (.int .i64 s.1)
  c1 : w.cell? ⟨b, 1, none⟩ = some (.int .i64 s.2)
  fz : ∀ o, w.frozen? ⟨b, o, none⟩ = false
theorem SpanBox.lt {w : World} {b : Nat} {s : SpanD} (h : SpanBox w b s) : b < w.heap.size := World.block_lt_of_cell? w _ h.c0
theorem SpanBox.keep {w w' : World} {b : Nat} {s : SpanD} (h : SpanBox w b s) (hb : Below w.heap.size w w') : SpanBox w' b s := ⟨bkeep hb h.c0, bkeep hb h.c1, fun o => fkeep hb (show b < _ from h.lt) (h.fz o)⟩
theorem SpanBox.set {w : World} {b : Nat} {s : SpanD} (h : SpanBox w b s) (u v : Int) : SpanBox ((w.setCell ⟨b, 0, none⟩ (.int .i64 u)).setCell ⟨b, 1, none⟩ (.int .i64 v)) b (u, v) :=
  ⟨(set_other (by omega)).trans (set_same h.c0), set_same (z := .int .i64 s.2) ((set_other (by omega)).trans h.c1), fun o => by rw [World.frozen?_setCell, World.frozen?_setCell]; exact h.fz o⟩

section
variable {H : Type} {enc : TypeId × Value → H} {P : Program} {w : World} {base : Nat} {spare : Nat → Bool} {held : Bool}

end

end Go.Proofs.Ytehpeifaknbcnaa
