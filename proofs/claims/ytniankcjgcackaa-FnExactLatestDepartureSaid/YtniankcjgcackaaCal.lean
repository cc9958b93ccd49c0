/-
  A CALENDAR IN MEMORY: an aggregate of five reads as a calendar; it stays readable while nothing that was there turns; what came in as a calendar reads as one; one whose rows are the call's own.
-/
import Derived.Test.YtniankcjgcackaaMa
import Derived.Test.YtniankcjgcackaaCalP
namespace Go.Proofs.Ytniankcjgcackaa
open Go.RowKit Go.ChangeShapes Go.WideShapes Go.ChangeAt Go.Deep Go.Joins
set_option linter.unusedVariables false

/-- a calendar by value -/
def CalAt (w : World) (v : Value) (c : CalD) : Prop :=
  ∃ av rv, v = .agg #[.int .i64 c.frm, .int .i64 c.too, .int .i64 c.wd, av, rv] ∧ RowAt w av (ints c.added) ∧ RowAt w rv (ints c.removed)
theorem CalAt.below {w w' : World} {v : Value} {c : CalD} (h : CalAt w v c) {B : Nat} (hB : B = w.heap.size) (hb : Below B w w') : CalAt w' v c := by
  obtain ⟨av, rv, hv, h1, h2⟩ := h
  exact ⟨av, rv, hv, h1.below hB hb, h2.below hB hb⟩
theorem CalAt.drew {w : World} {v : Value} {c : CalD} (h : CalAt w v c) (m : Nat) : CalAt (w.drewN m) v c := h
/-- what memory gives of every number -/
def CalFits (c : CalD) : Prop := ((Lit.int .i64 c.frm).wf = true ∧ (Lit.int .i64 c.too).wf = true ∧ (Lit.int .i64 c.wd).wf = true) ∧ (∀ z ∈ c.added, (Lit.int .i64 z).wf = true) ∧ ∀ z ∈ c.removed, (Lit.int .i64 z).wf = true
def CalSmall (c : CalD) : Prop := c.added.length + c.removed.length ≤ 1048576

/-- a calendar whose two rows are the call's own, in blocks from l to u, and lie apart -/
def CalIn (l u : Nat) (w : World) (v : Value) (c : CalD) : Prop :=
  ∃ av rv, v = .agg #[.int .i64 c.frm, .int .i64 c.too, .int .i64 c.wd, av, rv] ∧ IntsIn l u w av c.added ∧ IntsIn l u w rv c.removed ∧ (av.ownBlock = none ∨ av.ownBlock ≠ rv.ownBlock)
theorem CalIn.at {l u : Nat} {w : World} {v : Value} {c : CalD} (h : CalIn l u w v c) : CalAt w v c := by
  obtain ⟨av, rv, hv, h1, h2, _⟩ := h
  exact ⟨av, rv, hv, h1.at, h2.at⟩
theorem CalIn.later {l u : Nat} {w w' : World} {v : Value} {c : CalD} (h : CalIn l u w v c) (hb : Below w.heap.size w w') : CalIn l u w' v c := by
  obtain ⟨av, rv, hv, h1, h2, h3⟩ := h
  exact ⟨av, rv, hv, h1.later hb, h2.later hb, h3⟩
theorem CalIn.out {l u lo hi : Nat} {w w' : World} {v : Value} {c : CalD} (h : CalIn l u w v c) (ho : Out lo hi w w') (hs : u ≤ lo ∨ hi ≤ l) : CalIn l u w' v c := by
  obtain ⟨av, rv, hv, h1, h2, h3⟩ := h
  exact ⟨av, rv, hv, h1.out ho hs, h2.out ho hs, h3⟩
theorem CalIn.base {l l' u u' : Nat} {w : World} {v : Value} {c : CalD} (h : CalIn l u w v c) (hl : l' ≤ l) (hu : u ≤ u') : CalIn l' u' w v c := by
  obtain ⟨av, rv, hv, h1, h2, h3⟩ := h
  exact ⟨av, rv, hv, h1.base hl hu, h2.base hl hu, h3⟩
theorem Calendar_open {w : World} {v : Value} {c : CalD} (h : CalAt w v c) : ∃ a1 c1 a2 c2, v = .agg #[.int .i64 c.frm, .int .i64 c.too, .int .i64 c.wd, .slice a1 c.added.length c1, .slice a2 c.removed.length c2] := by
  obtain ⟨av, rv, rfl, h1, h2⟩ := h
  obtain ⟨a1, c1, rfl, _⟩ := ints_open h1
  obtain ⟨a2, c2, rfl, _⟩ := ints_open h2
  exact ⟨a1, c1, a2, c2, rfl⟩

section
variable {H : Type} {enc : TypeId × Value → H} {P : Program} {w : World} {base : Nat} {spare : Nat → Bool} {held : Bool}
theorem open_agg5 {r : Reach} {b0 : Nat} {t : TypeId} {f0 f1 f2 f3 f4 : Field} {v : Value} {d : DataW H} {p : List MemPlace} (hs : P.underlying t = some (.struct #[f0, f1, f2, f3, f4])) (hone : oneCellFields P #[f0, f1, f2, f3, f4] = true) (hC : P.cellsOf t = 5)
    (hv : Value.okWide P w r b0 t v) (h : DataW.Trod enc P w base spare held t v d p) :
    ∃ (v0 v1 v2 v3 v4 : Value) (y0 y1 y2 y3 y4 : DataW H × List MemPlace) (n : Nat), v = .agg #[v0, v1, v2, v3, v4] ∧
      DataW.trod enc P w base spare held n f0.type [v0] = some y0 ∧ DataW.trod enc P w base spare held n f1.type [v1] = some y1 ∧ DataW.trod enc P w base spare held n f2.type [v2] = some y2 ∧ DataW.trod enc P w base spare held n f3.type [v3] = some y3 ∧ DataW.trod enc P w base spare held n f4.type [v4] = some y4 := by
  obtain ⟨cs, rfl, hsz⟩ := okWide_struct hs hv
  obtain ⟨l⟩ := cs
  match l, hsz.trans hC with
  | [c0, c1, c2, c3, c4], _ =>
    obtain ⟨fuel, hf⟩ := h
    obtain ⟨xs, n, _, hx, _, hlen, hg⟩ := DataW.trod_struct hs hf
    obtain ⟨o0, k0⟩ := hone_of hone 0 f0 rfl
    obtain ⟨o1, k1⟩ := hone_of hone 1 f1 rfl
    obtain ⟨o2, k2⟩ := hone_of hone 2 f2 rfl
    obtain ⟨o3, k3⟩ := hone_of hone 3 f3 rfl
    obtain ⟨o4, k4⟩ := hone_of hone 4 f4 rfl
    match xs, hlen with
    | [y0, y1, y2, y3, y4], _ =>
      exact ⟨c0, c1, c2, c3, c4, y0, y1, y2, y3, y4, n, rfl, by simpa [Value.cells, o0, k0] using hg 0 f0 rfl, by simpa [Value.cells, o1, k1] using hg 1 f1 rfl, by simpa [Value.cells, o2, k2] using hg 2 f2 rfl, by simpa [Value.cells, o3, k3] using hg 3 f3 rfl, by simpa [Value.cells, o4, k4] using hg 4 f4 rfl⟩

theorem cal_trod {r : Reach} {b0 : Nat} {t si : TypeId} {f0 f1 f2 f3 f4 : Field} {v : Value} {d : DataW H} {p : List MemPlace} (hs : P.underlying t = some (.struct #[f0, f1, f2, f3, f4])) (hone : oneCellFields P #[f0, f1, f2, f3, f4] = true) (hC : P.cellsOf t = 5)
    (h0 : P.underlying f0.type = some (.int .i64)) (h1 : P.underlying f1.type = some (.int .i64)) (h2 : P.underlying f2.type = some (.int .i64)) (h3 : P.underlying f3.type = some (.slice si)) (h4 : P.underlying f4.type = some (.slice si)) (hi : P.underlying si = some (.int .i64)) (hic : P.cellsOf si = 1)
    (hv : Value.okWide P w r b0 t v) (h : DataW.Trod enc P w base spare held t v d p) : ∃ c : CalD, CalAt w v c ∧ CalFits c := by
  obtain ⟨v0, v1, v2, v3, v4, y0, y1, y2, y3, y4, n, rfl, t0, t1, t2, t3, t4⟩ := open_agg5 hs hone hC hv h
  obtain ⟨a, ha, _, hw⟩ := DataW.trod_int h0 t0
  obtain ⟨b, hb, _, hw1⟩ := DataW.trod_int h1 t1
  obtain ⟨e, he, _, hw2⟩ := DataW.trod_int h2 t2
  simp at ha hb he
  subst ha hb he
  obtain ⟨xs, hx, hxw⟩ := ints_trod h3 hi hic t3
  obtain ⟨ys, hy, hyw⟩ := ints_trod h4 hi hic t4
  exact ⟨⟨a, b, e, xs, ys⟩, ⟨v3, v4, rfl, hx, hy⟩, ⟨hw, hw1, hw2⟩, hxw, hyw⟩
end
end Go.Proofs.Ytniankcjgcackaa
