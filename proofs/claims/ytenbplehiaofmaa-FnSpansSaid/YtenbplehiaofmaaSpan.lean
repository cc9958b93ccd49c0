/-
  SPANS IN MEMORY, of no program: a slice value reads as spans, two cells each; rows of spans of the call's own; what came in as spans reads so.
-/
import Derived.Test.YtenbplehiaofmaaSlices
import Derived.Test.YtenbplehiaofmaaSpanP
import Derived.Test.YtenbplehiaofmaaInts
namespace Go.Proofs.Ytenbplehiaofmaa
open Go.RowKit Go.ChangeShapes Go.WideShapes Go.ChangeAt Go.Deep Go.Joins
set_option linter.unusedVariables false

def spanV (s : SpanD) : Value := .agg #[.int .i64 s.1, .int .i64 s.2]
def SpanWf (s : SpanD) : Prop := (Lit.int .i64 s.1).wf = true ∧ (Lit.int .i64 s.2).wf = true
/-- a slice value of as many spans as xs -/
def SpansAt (w : World) (v : Value) (xs : List SpanD) : Prop :=
  ∃ a c, v = .slice a xs.length c ∧ xs.length ≤ c ∧ c ≤ maxLen ∧ ∀ k (hk : k < xs.length), ∃ b off, a = some ⟨b, off, none⟩ ∧ b < w.heap.size ∧ w.cell? ⟨b, off + k * 2, none⟩ = some (.int .i64 xs[k].1) ∧ w.cell? ⟨b, off + k * 2 + 1, none⟩ = some (.int .i64 xs[k].2)
theorem SpansAt.below {w w' : World} {v : Value} {xs : List SpanD} (h : SpansAt w v xs) {B : Nat} (hB : B = w.heap.size) (hb : Below B w w') : SpansAt w' v xs := by
  subst hB
  obtain ⟨a, c, hv, h1, h2, h3⟩ := h
  refine ⟨a, c, hv, h1, h2, fun k hk => ?_⟩
  obtain ⟨b, off, ha, hlt, c0, c1⟩ := h3 k hk
  exact ⟨b, off, ha, Nat.lt_of_lt_of_le hlt hb.size, bkeep hb c0, bkeep hb c1⟩
theorem spans_open {w : World} {v : Value} {xs : List SpanD} (h : SpansAt w v xs) : ∃ a c, v = .slice a xs.length c ∧ xs.length ≤ c ∧ c ≤ 9223372036854775807 ∧
    Hid (∀ k (hk : k < xs.length), ∃ b off, a = some ⟨b, off, none⟩ ∧ b < w.heap.size ∧ w.cell? ⟨b, off + k * 2, none⟩ = some (.int .i64 xs[k].1) ∧ w.cell? ⟨b, off + k * 2 + 1, none⟩ = some (.int .i64 xs[k].2)) := by
  obtain ⟨a, c, rfl, h1, h2, h3⟩ := h
  exact ⟨a, c, rfl, h1, h2, h3⟩
theorem SpanS_open {w : World} {v : Value} {xs : List SpanD} (h : SpansAt w v xs) : ∃ a c, v = .slice a xs.length c := by
  obtain ⟨a, c, rfl, _⟩ := h; exact ⟨a, c, rfl⟩

/-! the cells of spans, one behind the other -/
def spanC : List SpanD → List Value
  | [] => []
  | s :: xs => .int .i64 s.1 :: .int .i64 s.2 :: spanC xs
theorem spanC_len : ∀ xs : List SpanD, (spanC xs).length = xs.length * 2
  | [] => rfl
  | s :: xs => by simp only [spanC, List.length_cons]; rw [spanC_len xs]; omega
theorem spanC_append : ∀ xs ys : List SpanD, spanC (xs ++ ys) = spanC xs ++ spanC ys
  | [], ys => rfl
  | s :: xs, ys => by simp only [spanC, List.cons_append]; rw [spanC_append xs ys]
theorem spanC_get0 : ∀ (xs : List SpanD) (k : Nat) (hk : k < xs.length), (spanC xs)[k * 2]? = some (.int .i64 xs[k].1)
  | s :: xs, 0, _ => rfl
  | s :: xs, k + 1, hk => by
    have := spanC_get0 xs k (by simpa using hk)
    rw [show (k + 1) * 2 = k * 2 + 1 + 1 by omega]
    simpa [spanC] using this
theorem spanC_get1 : ∀ (xs : List SpanD) (k : Nat) (hk : k < xs.length), (spanC xs)[k * 2 + 1]? = some (.int .i64 xs[k].2)
  | s :: xs, 0, _ => rfl
  | s :: xs, k + 1, hk => by
    have := spanC_get1 xs k (by simpa using hk)
    rw [show (k + 1) * 2 + 1 = k * 2 + 1 + 1 + 1 by omega]
    simpa [spanC] using this
theorem spanC_set0 : ∀ (xs : List SpanD) (k : Nat) (a : Int) (hk : k < xs.length), (spanC xs).set (k * 2) (.int .i64 a) = spanC (xs.set k (a, xs[k].2))
  | s :: xs, 0, a, _ => rfl
  | s :: xs, k + 1, a, hk => by
    have := spanC_set0 xs k a (by simpa using hk)
    rw [show (k + 1) * 2 = k * 2 + 1 + 1 by omega]
    simpa [spanC] using this
theorem spanC_set1 : ∀ (xs : List SpanD) (k : Nat) (a : Int) (hk : k < xs.length), (spanC xs).set (k * 2 + 1) (.int .i64 a) = spanC (xs.set k (xs[k].1, a))
  | s :: xs, 0, a, _ => rfl
  | s :: xs, k + 1, a, hk => by
    have := spanC_set1 xs k a (by simpa using hk)
    rw [show (k + 1) * 2 + 1 = k * 2 + 1 + 1 + 1 by omega]
    simpa [spanC] using this
theorem spanC_set (xs : List SpanD) (k : Nat) (s : SpanD) (hk : k < xs.length) : ((spanC xs).set (k * 2) (.int .i64 s.1)).set (k * 2 + 1) (.int .i64 s.2) = spanC (xs.set k s) := by
  rw [spanC_set0 _ _ _ hk, spanC_set1 _ _ _ (by simpa using hk)]
  simp
theorem spanC_one : ∀ (w : World) (s : SpanD) (t : TypeId), ∀ j x, (spanC [s])[j]? = some x → (w.alloc (.cells #[.int .i64 s.1, .int .i64 s.2] t)).cell? ((⟨w.heap.size, 0, none⟩ : Addr).add j) = some x := by
  intro w s t j x hx
  rw [addr_add, Nat.zero_add]
  match j, hx with
  | 0, hx => simp [spanC] at hx; subst hx; simp
  | 1, hx => simp [spanC] at hx; subst hx; simp
  | j + 2, hx => simp [spanC] at hx
theorem spanC_cells (xs : List SpanD) : ∀ u ∈ spanC xs, u.oneCell' = true := by
  induction xs with
  | nil => simp [spanC]
  | cons s xs ih =>
    intro u hu
    simp only [spanC, List.mem_cons] at hu
    rcases hu with rfl | rfl | hu
    · rfl
    · rfl
    · exact ih u hu

/-- a row of spans of the call's own, in a block from l to u -/
def SpansIn (l u : Nat) (w : World) (v : Value) (xs : List SpanD) : Prop := w.ownsRow l 26 2 v xs.length (spanC xs) ∧ ∀ g, v.ownBlock = some g → g < u
theorem spansAt_own {w : World} {B : Nat} {e : TypeId} {v : Value} {xs : List SpanD} (h : w.ownsRow B e 2 v xs.length (spanC xs)) : SpansAt w v xs := by
  have hc := fun g hg => h.cells (g := g) hg
  have hl := h.lt
  obtain ⟨hn, h2⟩ := h
  rcases h2 with ⟨hv, h0⟩ | ⟨g, cap, cur, hv, hg, hh, h1, h3, h4, h5⟩
  · have : xs = [] := List.eq_nil_of_length_eq_zero h0
    subst this
    exact ⟨none, 0, hv, Nat.le_refl _, by decide, fun k hk => by simp at hk⟩
  · refine ⟨_, cap, hv, h1, h3, fun k hk => ⟨g, 0, rfl, (hl g (by rw [hv]; rfl)).2, ?_, ?_⟩⟩
    · have := hc g (by rw [hv]; rfl) (k * 2) _ (spanC_get0 xs k hk)
      rw [addr_add] at this; exact this
    · have := hc g (by rw [hv]; rfl) (k * 2 + 1) _ (spanC_get1 xs k hk)
      rw [addr_add] at this; exact this
theorem SpansIn.at {l u : Nat} {w : World} {v : Value} {xs : List SpanD} (h : SpansIn l u w v xs) : SpansAt w v xs := spansAt_own h.1
theorem SpansIn.lo {l u : Nat} {w : World} {v : Value} {xs : List SpanD} (h : SpansIn l u w v xs) (g : Nat) (hg : v.ownBlock = some g) : l ≤ g := (h.1.lt g hg).1
theorem SpansIn.later {l u : Nat} {w w' : World} {v : Value} {xs : List SpanD} (h : SpansIn l u w v xs) (hb : Below w.heap.size w w') : SpansIn l u w' v xs := ⟨own_later h.1 hb, h.2⟩
theorem SpansIn.out {l u lo hi : Nat} {w w' : World} {v : Value} {xs : List SpanD} (h : SpansIn l u w v xs) (ho : Out lo hi w w') (hs : u ≤ lo ∨ hi ≤ l) : SpansIn l u w' v xs :=
  ⟨own_out h.1 ho (fun g hg => by have := h.2 g hg; have := h.lo g hg; omega), h.2⟩
theorem SpansIn.mk {l : Nat} {w : World} {v : Value} {xs : List SpanD} (h : w.ownsRow l 26 2 v xs.length (spanC xs)) : SpansIn l w.heap.size w v xs := ⟨h, fun g hg => (h.lt g hg).2⟩
theorem SpansIn.base {l l' u u' : Nat} {w : World} {v : Value} {xs : List SpanD} (h : SpansIn l u w v xs) (hl : l' ≤ l) (hu : u ≤ u') : SpansIn l' u' w v xs := ⟨own_base h.1 hl, fun g hg => Nat.lt_of_lt_of_le (h.2 g hg) hu⟩
theorem SpansIn.nil (l u : Nat) (w : World) : SpansIn l u w (.slice none 0 0) [] := ⟨World.ownsRow_nil _ _ _ _, fun g hg => by simp [Value.ownBlock] at hg⟩

/-- a box that holds a span -/
structure SpanBox (w : World) (b : Nat) (s : SpanD) : Prop where
  c0 : w.cell? ⟨b, 0, none⟩ = some (.int .i64 s.1)
  c1 : w.cell? ⟨b, 1, none⟩ = some (.int .i64 s.2)
  fz : ∀ o, w.frozen? ⟨b, o, none⟩ = false
theorem SpanBox.lt {w : World} {b : Nat} {s : SpanD} (h : SpanBox w b s) : b < w.heap.size := World.block_lt_of_cell? w _ h.c0
theorem SpanBox.keep {w w' : World} {b : Nat} {s : SpanD} (h : SpanBox w b s) (hb : Below w.heap.size w w') : SpanBox w' b s := ⟨bkeep hb h.c0, bkeep hb h.c1, fun o => fkeep hb (show b < _ from h.lt) (h.fz o)⟩
theorem SpanBox.keepAt {B : Nat} {w w' : World} {b : Nat} {s : SpanD} (h : SpanBox w b s) (hb : Below B w w') (hl : b < B) : SpanBox w' b s := ⟨by rw [hb.cell (p := ⟨b, 0, none⟩) hl]; exact h.c0, by rw [hb.cell (p := ⟨b, 1, none⟩) hl]; exact h.c1, fun o => by rw [hb.frozen (p := ⟨b, o, none⟩) hl]; exact h.fz o⟩
theorem SpanBox.new (w : World) (s : SpanD) (t : TypeId) : SpanBox (w.alloc (.cells #[.int .i64 s.1, .int .i64 s.2] t)) w.heap.size s := ⟨by go_simp, by go_simp, fun o => by go_simp⟩
theorem SpanBox.set {w : World} {b : Nat} {s : SpanD} (h : SpanBox w b s) (u v : Int) : SpanBox ((w.setCell ⟨b, 0, none⟩ (.int .i64 u)).setCell ⟨b, 1, none⟩ (.int .i64 v)) b (u, v) :=
  ⟨(set_other (by omega)).trans (set_same h.c0), set_same (z := .int .i64 s.2) ((set_other (by omega)).trans h.c1), fun o => by rw [World.frozen?_setCell, World.frozen?_setCell]; exact h.fz o⟩

section
variable {H : Type} {enc : TypeId × Value → H} {P : Program} {w : World} {base : Nat} {spare : Nat → Bool} {held : Bool}

/-- a span that comes in by value -/
theorem span_trod {r : Reach} {b0 : Nat} {t : TypeId} {f0 f1 : Field} {v : Value} {d : DataW H} {p : List MemPlace} (hs : P.underlying t = some (.struct #[f0, f1])) (hone : oneCellFields P #[f0, f1] = true) (hC : P.cellsOf t = 2)
    (h0 : P.underlying f0.type = some (.int .i64)) (h1 : P.underlying f1.type = some (.int .i64)) (hv : Value.okWide P w r b0 t v) (h : DataW.Trod enc P w base spare held t v d p) :
    ∃ s : SpanD, v = spanV s ∧ SpanWf s := by
  obtain ⟨v0, v1, y0, y1, n, rfl, _, _, t0, t1⟩ := open_agg2 hs hone hC hv h
  obtain ⟨a, ha, _, hw⟩ := DataW.trod_int h0 t0
  obtain ⟨b, hb, _, hw1⟩ := DataW.trod_int h1 t1
  simp at ha hb
  subst ha hb
  exact ⟨(a, b), rfl, hw, hw1⟩

theorem spans_trod {t e : TypeId} {f0 f1 : Field} {n : Nat} {v : Value} {x : DataW H × List MemPlace} (ht : P.underlying t = some (.slice e)) (he : P.underlying e = some (.struct #[f0, f1]))
    (hone : oneCellFields P #[f0, f1] = true) (hc : P.cellsOf e = 2) (h0 : P.underlying f0.type = some (.int .i64)) (h1 : P.underlying f1.type = some (.int .i64))
    (h : DataW.trod enc P w base spare held n t [v] = some x) : ∃ ls : List SpanD, SpansAt w v ls ∧ ∀ l ∈ ls, SpanWf l := by
  rcases open_slice ht h with ⟨hcs, _⟩ | ⟨a, len, cap, m, n', D, Pl, hcs, _, hl, hm, hmm, _, hel⟩
  · simp at hcs; subst hcs
    exact ⟨[], ⟨none, 0, rfl, Nat.le_refl _, by decide, fun k hk => by simp at hk⟩, fun x hx => by simp at hx⟩
  · simp at hcs; subst hcs
    have hml : len ≤ m := by rw [hmm]; split <;> omega
    have hsp : ∀ k, k < len → a.spot = none := fun k hk => by
      obtain ⟨cs', hcc, htt⟩ := hel 0 (by omega)
      obtain ⟨_, hcl, hat⟩ := World.cells?_some hcc
      have := hat 0 (by omega)
      have hq : cs'[0]? = some (cs'[0]'(by omega)) := List.getElem?_eq_getElem _
      rw [hq] at this
      have := World.cell?_spot this
      simpa [Addr.add] using this
    have each : ∀ k, k < len → ∃ l : SpanD, (w.cell? ⟨a.block, a.off + k * 2, none⟩ = some (.int .i64 l.1) ∧ w.cell? ⟨a.block, a.off + k * 2 + 1, none⟩ = some (.int .i64 l.2)) ∧ SpanWf l := fun k hk => by
      obtain ⟨cs', hcc, htt⟩ := hel k (by omega)
      obtain ⟨_, hcl, hat⟩ := World.cells?_some hcc
      obtain ⟨ys, n2, _, _, _, hylen, hg⟩ := DataW.trod_struct he htt
      have hs := hsp k hk
      obtain ⟨b, off, sp⟩ := a
      simp only at hs
      subst hs
      rw [hc] at hcl hat
      match cs', hcl with
      | [c0, c1], _ =>
        obtain ⟨o0, k0⟩ := hone_of hone 0 f0 rfl
        obtain ⟨o1, k1⟩ := hone_of hone 1 f1 rfl
        have g0 := hg 0 f0 rfl
        have g1 := hg 1 f1 rfl
        rw [o0, k0] at g0
        rw [o1, k1] at g1
        simp only [List.drop_zero, List.drop_succ_cons, List.take_succ_cons, List.take_zero] at g0 g1
        have hy : ys.length = 2 := hylen
        rw [List.getElem?_eq_getElem (by omega)] at g0 g1
        obtain ⟨p, hp, _, hpw⟩ := DataW.trod_int h0 g0
        obtain ⟨q, hq, _, hqw⟩ := DataW.trod_int h1 g1
        simp at hp hq
        subst hp hq
        refine ⟨(p, q), ⟨?_, ?_⟩, hpw, hqw⟩
        · have := hat 0 (by omega); rw [addr_add, addr_add] at this; simpa [hc] using this
        · have := hat 1 (by omega); rw [addr_add, addr_add] at this; simpa [hc] using this
    have fam : ∃ F : Nat → SpanD, ∀ k, k < len → (w.cell? ⟨a.block, a.off + k * 2, none⟩ = some (.int .i64 (F k).1) ∧ w.cell? ⟨a.block, a.off + k * 2 + 1, none⟩ = some (.int .i64 (F k).2)) ∧ SpanWf (F k) :=
      ⟨fun k => if hk : k < len then Classical.choose (each k hk) else (0, 0), fun k hk => by simp only [dif_pos hk]; exact Classical.choose_spec (each k hk)⟩
    obtain ⟨F, hF⟩ := fam
    refine ⟨(List.range len).map F, ⟨some a, cap, by simp, by simp; omega, hm, fun k hk => ?_⟩, fun l hl => ?_⟩
    · have hk' : k < len := by simpa using hk
      have e : ((List.range len).map F)[k] = F k := by simp
      have hs := hsp k hk'
      have h3 := hF k hk'
      rw [e]
      obtain ⟨b, off, sp⟩ := a
      simp only at hs
      subst hs
      exact ⟨b, off, rfl, World.block_lt_of_cell? w _ h3.1.1, h3.1.1, h3.1.2⟩
    · obtain ⟨k, hk, rfl⟩ := List.mem_map.1 hl
      exact (hF k (List.mem_range.1 hk)).2
end

theorem spansAt_of {H : Type} {enc : TypeId × Value → H} {P : Program} {W : World} {base base' : Nat} {spare : Nat → Bool} {held : Bool} {t e : TypeId} {f0 f1 : Field} {v : Value} {d : DataW H} {p : List MemPlace} (ht : P.underlying t = some (.slice e)) (he : P.underlying e = some (.struct #[f0, f1]))
    (hone : oneCellFields P #[f0, f1] = true) (hc : P.cellsOf e = 2) (h0 : P.underlying f0.type = some (.int .i64)) (h1 : P.underlying f1.type = some (.int .i64))
    (hv : Value.okWide P W .any base t v) (h : DataW.Trod enc P W base' spare held t v d p) : ∃ xs : List SpanD, SpansAt W v xs ∧ ∀ z ∈ xs, SpanWf z := by
  obtain ⟨a, len, cap, rfl⟩ := okWide_slice ht hv
  obtain ⟨fuel, hf⟩ := h
  exact spans_trod ht he hone hc h0 h1 (by simpa [Value.cells] using hf)
end Go.Proofs.Ytenbplehiaofmaa
