/-
  JOINED TEXTS, each under its own namespace line: NetBase, MarkLines, NetIn, StrsX.
-/
import Derived.Test.YtehpeifaknbcnaaMk14
import Derived.Test.YtehpeifaknbcnaaImplNet
import Derived.Test.YtehpeifaknbcnaaMk11
import Derived.Test.YtehpeifaknbcnaaMk10
import Derived.Laws.Strings
namespace Go.Proofs.Ytehpeifaknbcnaa
open Go.RowKit
set_option linter.unusedVariables false

theorem keepX {W w w' : World} {p0 p1 p2 p3 : Addr} {x0 x1 x2 x3 : Value} (hb : Below w.heap.size w w') (h : w.cell? p0 = some x0 ∧ w.cell? p1 = some x1 ∧ w.cell? p2 = some x2 ∧ w.cell? p3 = some x3 ∧ Below W.heap.size W w) :
    w'.cell? p0 = some x0 ∧ w'.cell? p1 = some x1 ∧ w'.cell? p2 = some x2 ∧ w'.cell? p3 = some x3 ∧ Below W.heap.size W w' := by
  obtain ⟨h0, h1, h2, h3, h4⟩ := h
  exact ⟨bkeep hb h0, bkeep hb h1, bkeep hb h2, bkeep hb h3, h4.trans (hb.mono h4.size)⟩
theorem belX {W w : World} {p0 p1 p2 p3 : Addr} {x0 x1 x2 x3 : Value} (h : w.cell? p0 = some x0 ∧ w.cell? p1 = some x1 ∧ w.cell? p2 = some x2 ∧ w.cell? p3 = some x3 ∧ Below W.heap.size W w) : Below W.heap.size W w := h.2.2.2.2

end Go.Proofs.Ytehpeifaknbcnaa

namespace Go.Proofs.Ytehpeifaknbcnaa
open Go.RowKit
set_option linter.unusedVariables false

def LineShape (B hi : Nat) (w : World) (g o p q : Nat) : Prop :=
  ∃ (nm : ByteArray) (sv rv : Value) (s r : List Int), w.cell? ⟨g, o, none⟩ = some (.string nm) ∧ w.cell? ⟨g, o + 1, none⟩ = some sv ∧ w.cell? ⟨g, o + 2, none⟩ = some rv ∧ s.length = p ∧ r.length = q ∧
    w.ownsRow B 3 1 sv s.length (ints s) ∧ w.ownsRow B 3 1 rv r.length (ints r) ∧ sv.ownBlock ≠ some g ∧ rv.ownBlock ≠ some g ∧ (∀ b, sv.ownBlock = some b → b < hi) ∧ ∀ b, rv.ownBlock = some b → b < hi
theorem LineOwn.shape {B hi : Nat} {w : World} {g o : Nat} {l : LineD} (h : LineOwn B w g o l) (hh : w.heap.size ≤ hi) : LineShape B hi w g o l.stops.length l.runs.length := by
  obtain ⟨sv, rv, c0, c1, c2, r1, r2, n1, n2⟩ := h
  exact ⟨_, sv, rv, _, _, c0, c1, c2, rfl, rfl, r1, r2, n1, n2, fun b hb => Nat.lt_of_lt_of_le (r1.lt b hb).2 hh, fun b hb => Nat.lt_of_lt_of_le (r2.lt b hb).2 hh⟩
theorem LineShape.later {B hi : Nat} {w w' : World} {g o p q : Nat} (h : LineShape B hi w g o p q) (hb : Below w.heap.size w w') : LineShape B hi w' g o p q := by
  obtain ⟨nm, sv, rv, s, r, c0, c1, c2, e1, e2, r1, r2, rest⟩ := h
  exact ⟨nm, sv, rv, s, r, bkeep hb c0, bkeep hb c1, bkeep hb c2, e1, e2, own_later r1 hb, own_later r2 hb, rest⟩
theorem LineShape.named {B hi : Nat} {w : World} {g o p q : Nat} (h : LineShape B hi w g o p q) (i : Nat) (x : ByteArray) (h1 : i ≠ o + 1) (h2 : i ≠ o + 2) : LineShape B hi (w.setCell ⟨g, i, none⟩ (.string x)) g o p q := by
  obtain ⟨nm, sv, rv, s, r, c0, c1, c2, e1, e2, r1, r2, n1, n2, rest⟩ := h
  by_cases hi : i = o
  · subst hi
    exact ⟨x, sv, rv, s, r, set_same c0, (set_other h1).trans c1, (set_other h2).trans c2, e1, e2, own_other r1 n1 _, own_other r2 n2 _, n1, n2, rest⟩
  · exact ⟨nm, sv, rv, s, r, (set_other hi).trans c0, (set_other h1).trans c1, (set_other h2).trans c2, e1, e2, own_other r1 n1 _, own_other r2 n2 _, n1, n2, rest⟩
theorem gcell {w w' : World} {row : Option Nat} (hg : w.grownBy w' row) {g o : Nat} {x : Value} (h : w.cell? ⟨g, o, none⟩ = some x) (hne : row ≠ some g) : w'.cell? ⟨g, o, none⟩ = some x :=
  hg.cell h (fun e => hne e.symm)
theorem LineShape.grown {B hi : Nat} {w w' : World} {g o p q : Nat} {row : Option Nat} (h : LineShape B hi w g o p q) (hg : w.grownBy w' row) (hne : row ≠ some g)
    (hs : ∀ v i, (i = 1 ∨ i = 2) → w.cell? ⟨g, o + i, none⟩ = some v → v.ownBlock = none ∨ v.ownBlock ≠ row) : LineShape B hi w' g o p q := by
  obtain ⟨nm, sv, rv, s, r, c0, c1, c2, e1, e2, r1, r2, rest⟩ := h
  exact ⟨nm, sv, rv, s, r, gcell hg c0 hne, gcell hg c1 hne, gcell hg c2 hne, e1, e2, r1.kept hg (hs sv 1 (.inl rfl) c1), r2.kept hg (hs rv 2 (.inr rfl) c2), rest⟩
theorem RowsApart.grown {w w' : World} {g n : Nat} {row : Option Nat} (h : RowsApart w g n) (hg : w.grownBy w' row) (hne : row ≠ some g) (hlt : g < w.heap.size) : RowsApart w' g n :=
  h.of_cells fun o => World.cell?_of_block (w := w) (a := ⟨g, o, none⟩) (hg.block g hlt (fun e => hne e.symm))

def LinesShape (B hi : Nat) (w : World) (v : Value) (ls : List LineD) : Prop :=
  ∃ g c cur, v = .slice (some ⟨g, 0, none⟩) ls.length c ∧ B ≤ g ∧ g < hi ∧ w.heap[g]? = some (.cells cur 119 (0, 0)) ∧ ls.length ≤ c ∧ c ≤ maxLen ∧ (∀ j (hj : j < ls.length), LineShape B hi w g (j * 3) ls[j].stops.length ls[j].runs.length) ∧ RowsApart w g ls.length
theorem LinesOwn.shape {B hi : Nat} {w : World} {v : Value} {ls : List LineD} (h : LinesOwn B w v ls) (hh : w.heap.size ≤ hi) : LinesShape B hi w v ls := by
  obtain ⟨g, c, cur, hv, hg, hblk, hc1, hc2, hc3, hall, hap⟩ := h
  exact ⟨g, c, cur, hv, hg, Nat.lt_of_lt_of_le (Array.getElem?_eq_some_iff.1 hblk).1 hh, hblk, hc1, hc2, fun j hj => (hall j _ (List.getElem?_eq_getElem hj)).shape hh, hap⟩
theorem LinesShape.later {B hi : Nat} {w w' : World} {v : Value} {ls : List LineD} (h : LinesShape B hi w v ls) (hb : Below w.heap.size w w') : LinesShape B hi w' v ls := by
  obtain ⟨g, c, cur, hv, hg, hgh, hblk, hc1, hc2, hall, hap⟩ := h
  have hlt := (Array.getElem?_eq_some_iff.1 hblk).1
  exact ⟨g, c, cur, hv, hg, hgh, (hb.block g hlt).trans hblk, hc1, hc2, fun j hj => (hall j hj).later hb, hap.of_cells fun o => hb.cell (p := ⟨g, o, none⟩) hlt⟩
theorem LinesShape.grown {B hi : Nat} {w w' : World} {v : Value} {ls : List LineD} {row : Option Nat} (h : LinesShape B hi w v ls) (hg : w.grownBy w' row) (hr : ∀ b, row = some b → b < B) : LinesShape B hi w' v ls := by
  obtain ⟨g, c, cur, hv, hgB, hgh, hh, h1, h2, h4, h5⟩ := h
  have hglt := (Array.getElem?_eq_some_iff.1 hh).1
  have hne : row ≠ some g := fun e => by have := hr g e; omega
  refine ⟨g, c, cur, hv, hgB, hgh, (hg.block g hglt (fun e => hne e.symm)).trans hh, h1, h2, fun j hj => ?_, h5.grown hg hne hglt⟩
  obtain ⟨nm, sv, rv, s, r, c0, c1, c2, e1, e2, r1, r2, rest⟩ := h4 j hj
  have hk : ∀ (x : Value) (zs : List Value) (q : Nat), w.ownsRow B 3 1 x q zs → x.ownBlock = none ∨ x.ownBlock ≠ row := fun x zs q hx => by
    by_cases hv : x.ownBlock = none
    · exact .inl hv
    · refine .inr fun e => ?_
      obtain ⟨b, hb⟩ := Option.ne_none_iff_exists'.1 hv
      have := (hx.lt b hb).1
      rw [hb] at e
      have := hr b e.symm
      omega
  exact ⟨nm, sv, rv, s, r, gcell hg c0 hne, gcell hg c1 hne, gcell hg c2 hne, e1, e2, r1.kept hg (hk _ _ _ r1), r2.kept hg (hk _ _ _ r2), rest⟩

def rowTot (ls : List LineD) : Nat := (ls.map fun l => 1 + l.stops.length + l.runs.length).sum
theorem rowTot_take (ls : List LineD) (k : Nat) (h : k < ls.length) : rowTot (ls.take (k + 1)) = rowTot (ls.take k) + (1 + (ls[k]'h).stops.length + (ls[k]'h).runs.length) := by
  rw [List.take_succ_eq_append_getElem h]; simp only [rowTot, List.map_append, List.sum_append, List.map_cons, List.map_nil, List.sum_cons, List.sum_nil]; omega
theorem rowTot_le (ls : List LineD) : rowTot ls ≤ ls.length + lineTot ls := by
  induction ls with
  | nil => simp [rowTot, lineTot]
  | cons l ls ih => simp [rowTot, lineTot, lineSz] at *; omega
theorem rowTot_take_le (ls : List LineD) (k : Nat) : rowTot (ls.take k) ≤ rowTot ls := by
  have : rowTot ls = rowTot (ls.take k) + rowTot (ls.drop k) := by
    conv => lhs; rw [← List.take_append_drop k ls]
    simp only [rowTot, List.map_append, List.sum_append]
  omega

def NetShape (B hi : Nat) (w : World) (v : Value) (n : NetD) : Prop := ∃ s l B1, v = .agg #[s, l] ∧ w.ownsRow B 9 1 s n.stops.length (strs n.stops) ∧ LinesShape B1 hi w l n.lines ∧ B ≤ B1 ∧ B1 ≤ hi ∧ (∀ b, s.ownBlock = some b → b < B1)
theorem NetOwn.shape {B hi : Nat} {w : World} {v : Value} {n : NetD} (h : NetOwn B w v n) (hh : w.heap.size ≤ hi) : NetShape B hi w v n := by
  obtain ⟨s, l, B1, hv, h1, h2, h3, h4⟩ := h
  refine ⟨s, l, B1, hv, h1, h2.shape hh, h3, ?_, h4⟩
  obtain ⟨g, c, cur, _, hg, hblk, _⟩ := h2
  have := (Array.getElem?_eq_some_iff.1 hblk).1; omega
theorem NetShape.later {B hi : Nat} {w w' : World} {v : Value} {n : NetD} (h : NetShape B hi w v n) (hb : Below w.heap.size w w') : NetShape B hi w' v n := by
  obtain ⟨s, l, B1, hv, h1, h2, h3⟩ := h
  exact ⟨s, l, B1, hv, own_later h1 hb, h2.later hb, h3⟩

end Go.Proofs.Ytehpeifaknbcnaa

namespace Go.Proofs.Ytehpeifaknbcnaa
open Go.RowKit
set_option linter.unusedVariables false

theorem LineOwn.blocks {B : Nat} {w w' : World} {b o : Nat} {l : LineD} (h : LineOwn B w b o l) (hB : B ≤ b) (hb : ∀ q, B ≤ q → q < w.heap.size → w'.heap[q]? = w.heap[q]?) : LineOwn B w' b o l := by
  obtain ⟨sv, rv, c0, c1, c2, r1, r2, n⟩ := h
  have hbl : w'.heap[b]? = w.heap[b]? := hb b hB (World.block_lt_of_cell? w _ c0)
  have hc : ∀ o, w'.cell? ⟨b, o, none⟩ = w.cell? ⟨b, o, none⟩ := fun o => World.cell?_of_block (w := w) (a := ⟨b, o, none⟩) hbl
  exact ⟨sv, rv, (hc _).trans c0, (hc _).trans c1, (hc _).trans c2, own_block r1 (fun g hg => hb g (r1.lt g hg).1 (r1.lt g hg).2), own_block r2 (fun g hg => hb g (r2.lt g hg).1 (r2.lt g hg).2), n⟩
theorem LinesOwn.blocks {B : Nat} {w w' : World} {v : Value} {ls : List LineD} (h : LinesOwn B w v ls) (hb : ∀ q, B ≤ q → q < w.heap.size → w'.heap[q]? = w.heap[q]?) : LinesOwn B w' v ls := by
  obtain ⟨g, c, cur, hv, hg, hh, h1, h2, h3, h4, h5⟩ := h
  have hbl : w'.heap[g]? = w.heap[g]? := hb g hg (Array.getElem?_eq_some_iff.1 hh).1
  exact ⟨g, c, cur, hv, hg, hbl.trans hh, h1, h2, h3, fun k l hl => (h4 k l hl).blocks hg hb, h5.of_cells fun o => World.cell?_of_block (w := w) (a := ⟨g, o, none⟩) hbl⟩
theorem NetOwn.blocks {B : Nat} {w w' : World} {v : Value} {n : NetD} (h : NetOwn B w v n) (hb : ∀ q, B ≤ q → q < w.heap.size → w'.heap[q]? = w.heap[q]?) : NetOwn B w' v n := by
  obtain ⟨s, l, B1, hv, h1, h2, h3, h4⟩ := h
  exact ⟨s, l, B1, hv, own_block h1 (fun g hg => hb g (h1.lt g hg).1 (h1.lt g hg).2), h2.blocks (fun q hq => hb q (by omega)), h3, h4⟩
theorem NetOwn.base {B B' : Nat} {w : World} {v : Value} {n : NetD} (h : NetOwn B w v n) (hB : B' ≤ B) : NetOwn B' w v n := by
  obtain ⟨s, l, B1, hv, h1, h2, h3, h4⟩ := h
  exact ⟨s, l, B1, hv, own_base h1 hB, h2, by omega, h4⟩
theorem LineShape.blocks {B hi : Nat} {w w' : World} {g o p q : Nat} (h : LineShape B hi w g o p q) (hB : B ≤ g) (hgh : g < hi) (hb : ∀ q, B ≤ q → q < hi → q < w.heap.size → w'.heap[q]? = w.heap[q]?) : LineShape B hi w' g o p q := by
  obtain ⟨nm, sv, rv, s, r, c0, c1, c2, e1, e2, r1, r2, n1, n2, b1, b2⟩ := h
  have hbl : w'.heap[g]? = w.heap[g]? := hb g hB hgh (World.block_lt_of_cell? w _ c0)
  have hc : ∀ o, w'.cell? ⟨g, o, none⟩ = w.cell? ⟨g, o, none⟩ := fun o => World.cell?_of_block (w := w) (a := ⟨g, o, none⟩) hbl
  exact ⟨nm, sv, rv, s, r, (hc _).trans c0, (hc _).trans c1, (hc _).trans c2, e1, e2, own_block r1 (fun g hg => hb g (r1.lt g hg).1 (b1 g hg) (r1.lt g hg).2), own_block r2 (fun g hg => hb g (r2.lt g hg).1 (b2 g hg) (r2.lt g hg).2), n1, n2, b1, b2⟩
theorem LinesShape.blocks {B hi : Nat} {w w' : World} {v : Value} {ls : List LineD} (h : LinesShape B hi w v ls) (hb : ∀ q, B ≤ q → q < hi → q < w.heap.size → w'.heap[q]? = w.heap[q]?) : LinesShape B hi w' v ls := by
  obtain ⟨g, c, cur, hv, hg, hgh, hh, h1, h2, h3, h5⟩ := h
  have hbl : w'.heap[g]? = w.heap[g]? := hb g hg hgh (Array.getElem?_eq_some_iff.1 hh).1
  exact ⟨g, c, cur, hv, hg, hgh, hbl.trans hh, h1, h2, fun j hj => (h3 j hj).blocks hg hgh hb, h5.of_cells fun o => World.cell?_of_block (w := w) (a := ⟨g, o, none⟩) hbl⟩
theorem NetShape.blocks {B hi : Nat} {w w' : World} {v : Value} {n : NetD} (h : NetShape B hi w v n) (hb : ∀ q, B ≤ q → q < hi → q < w.heap.size → w'.heap[q]? = w.heap[q]?) : NetShape B hi w' v n := by
  obtain ⟨s, l, B1, hv, h1, h2, h3, h4, h5⟩ := h
  exact ⟨s, l, B1, hv, own_block h1 (fun g hg => hb g (h1.lt g hg).1 (by have := h5 g hg; omega) (h1.lt g hg).2), h2.blocks (fun q hq => hb q (by omega)), h3, h4, h5⟩

theorem Out.wide {lo hi lo' hi' : Nat} {w w' : World} (h : Out lo hi w w') (h1 : lo' ≤ lo) (h2 : hi ≤ hi') : Out lo' hi' w w' := ⟨h.below.mono h1, fun b h3 h4 => h.above b (by omega) h4⟩
end Go.Proofs.Ytehpeifaknbcnaa

namespace Go.Proofs.Ytehpeifaknbcnaa
open Go.RowKit
set_option linter.unusedVariables false

def StrsMk (k : Int) (w : World) (v : Value) (xs : List ByteArray) : Prop := RowAt w v (strs (marksL k.toNat xs.length))
theorem StrsMk.later {k : Int} {w w' : World} {v : Value} {xs : List ByteArray} (h : StrsMk k w v xs) (hb : Below w.heap.size w w') : StrsMk k w' v xs := RowAt.below h rfl hb

end Go.Proofs.Ytehpeifaknbcnaa
