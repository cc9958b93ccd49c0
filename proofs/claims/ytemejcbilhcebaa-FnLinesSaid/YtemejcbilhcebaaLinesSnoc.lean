import Derived.Test.YtemejcbilhcebaaCopyLine
import Derived.Test.YtemejcbilhcebaaMk18
import Derived.Deep.AppendLies
namespace Go.Proofs.Ytemejcbilhcebaa
open Go.RowKit
set_option linter.unusedVariables false

theorem cell_in' {w : World} {b : Nat} {cs : Array Value} {t : TypeId} {z : Nat × Nat} (h : w.heap[b]? = some (.cells cs t z)) {j : Nat} : w.cell? ⟨b, j, none⟩ = cs[j]? := by
  simp [World.cell?, h]

theorem LinesOwn.snoc {B : Nat} {w w1 w' : World} {v : Value} {ls : List LineD} {l : LineD} {s r : Value} {g' c' gs gr : Nat} {xs : List Value}
    (h : LinesOwn B w v ls) (hB : B ≤ w.heap.size) (hb : Below w.heap.size w w1)
    (hs : w1.ownsRow w.heap.size 3 1 s l.stops.length (ints l.stops)) (hr : w1.ownsRow w.heap.size 3 1 r l.runs.length (ints l.runs)) (es : s.ownBlock = some gs) (er : r.ownBlock = some gr) (hne : gs ≠ gr)
    (hn : w'.ownsRow B 36 3 (.slice (some ⟨g', 0, none⟩) (ls.length + 1) c') (ls.length + 1) (xs ++ [.string l.name, s, r])) (hxl : xs.length = ls.length * 3)
    (hx : ∀ g, v.ownBlock = some g → ∀ j u, xs[j]? = some u → w.cell? ⟨g, j, none⟩ = some u)
    (hg : w1.grownBy w' v.ownBlock) (hat : v.ownBlock = some g' ∨ g' = w1.heap.size) : LinesOwn B w' (.slice (some ⟨g', 0, none⟩) (ls.length + 1) c') (ls ++ [l]) ∧
      ∀ x, x < w.heap.size → LinesClear w v x → LinesClear w' (.slice (some ⟨g', 0, none⟩) (ls.length + 1) c') x := by
  obtain ⟨g, c, cur, rfl, hgB, hh, h1, h2, h3, h4, h5⟩ := h
  have hvb : (Value.slice (some ⟨g, 0, none⟩) ls.length c).ownBlock = some g := rfl
  rw [hvb] at hg hat
  have hgw := (Array.getElem?_eq_some_iff.1 hh).1
  have hsz := hb.size
  have hgs := hs.lt gs es
  have hgr := hr.lt gr er
  have hg'1 : g' = g ∨ g' = w1.heap.size := by rcases hat with e | e; exact .inl (by simpa using e.symm); exact .inr e
  have hcell : ∀ j u, (xs ++ [.string l.name, s, r])[j]? = some u → w'.cell? ⟨g', j, none⟩ = some u := fun j u hu => by
    have := hn.cells (g := g') rfl j u hu
    rw [addr_add, Nat.zero_add] at this; exact this
  have hold : ∀ j, j < ls.length * 3 → ∀ u, w.cell? ⟨g, j, none⟩ = some u → w'.cell? ⟨g', j, none⟩ = some u := fun j hj u hu => by
    have hj' : j < xs.length := by omega
    have e := hx g rfl j _ (List.getElem?_eq_getElem hj')
    rw [hu] at e
    refine hcell j u ?_
    rw [List.getElem?_append_left hj', List.getElem?_eq_getElem hj', Option.some.inj e]
  have hold' : ∀ j, j < ls.length * 3 → ∀ u, w'.cell? ⟨g', j, none⟩ = some u → w.cell? ⟨g, j, none⟩ = some u := fun j hj u hu => by
    have hj' : j < xs.length := by omega
    have e := hx g rfl j _ (List.getElem?_eq_getElem hj')
    have e2 := hold j hj _ e
    rw [hu] at e2
    rw [e, Option.some.inj e2]
  have n0 : w'.cell? ⟨g', ls.length * 3, none⟩ = some (.string l.name) := hcell _ _ (by rw [List.getElem?_append_right (by omega), hxl]; simp)
  have n1 : w'.cell? ⟨g', ls.length * 3 + 1, none⟩ = some s := hcell _ _ (by rw [List.getElem?_append_right (by omega), hxl]; simp)
  have n2 : w'.cell? ⟨g', ls.length * 3 + 2, none⟩ = some r := hcell _ _ (by rw [List.getElem?_append_right (by omega), hxl]; simp)
  obtain ⟨cur', hh', k1, k2, k3⟩ : ∃ cur' : Array Value, w'.heap[g']? = some (.cells cur' 36 (0, 0)) ∧ ls.length + 1 ≤ c' ∧ c' ≤ maxLen ∧ cur'.size = c' * 3 := by
    rcases hn.2 with ⟨e, _⟩ | ⟨g2, c2, cur2, e, _, q1, q2, q3, q4, _⟩
    · cases e
    · simp at e; obtain ⟨rfl, rfl⟩ := e; exact ⟨cur2, q1, q2, q3, q4⟩
  have hBg' : B ≤ g' := by rcases hg'1 with e | e <;> omega
  have val : ∀ j i u, j < ls.length + 1 → (i = 1 ∨ i = 2) → w'.cell? ⟨g', j * 3 + i, none⟩ = some u →
      (j < ls.length ∧ w.cell? ⟨g, j * 3 + i, none⟩ = some u ∧ ∀ b, u.ownBlock = some b → b < w.heap.size) ∨ (j = ls.length ∧ i = 1 ∧ u.ownBlock = some gs) ∨ (j = ls.length ∧ i = 2 ∧ u.ownBlock = some gr) := by
    intro j i u hj hi hc
    by_cases hjk : j < ls.length
    · have hc' := hold' (j * 3 + i) (by omega) u hc
      refine .inl ⟨hjk, hc', fun b hub => ?_⟩
      obtain ⟨sv, rv, c0, c1, c2, r1, r2, _⟩ := h4 j _ (List.getElem?_eq_getElem hjk)
      rcases hi with rfl | rfl
      · rw [c1] at hc'; cases hc'; exact (r1.lt b hub).2
      · rw [c2] at hc'; cases hc'; exact (r2.lt b hub).2
    · have : j = ls.length := by omega
      subst this
      rcases hi with rfl | rfl
      · rw [n1] at hc; cases hc; exact .inr (.inl ⟨rfl, rfl, es⟩)
      · rw [n2] at hc; cases hc; exact .inr (.inr ⟨rfl, rfl, er⟩)
  refine ⟨⟨g', c', cur', by simp, hBg', hh', by simpa using k1, k2, k3, fun k l' hl' => ?_, ?_⟩, fun x hxw hcl g2 n' c2 he => ?_⟩
  · by_cases hk : k < ls.length
    · rw [List.getElem?_append_left hk] at hl'
      obtain ⟨sv, rv, c0, c1, c2, r1, r2, m1, m2⟩ := h4 k l' hl'
      have q1 : ∀ (x : Value) (m : Nat) (zs : List Value), w.ownsRow B 3 1 x m zs → x.ownBlock ≠ some g → w'.ownsRow B 3 1 x m zs ∧ x.ownBlock ≠ some g' := fun x m zs ho hne' =>
        ⟨(own_later ho hb).kept hg (.inr hne'), fun e => by
          have := (ho.lt g' e).2
          rcases hg'1 with e2 | e2
          · rw [e2] at e; exact hne' e
          · omega⟩
      exact ⟨sv, rv, hold _ (by omega) _ c0, hold _ (by omega) _ c1, hold _ (by omega) _ c2, (q1 _ _ _ r1 m1).1, (q1 _ _ _ r2 m2).1, (q1 _ _ _ r1 m1).2, (q1 _ _ _ r2 m2).2⟩
    · have hkn := (List.getElem?_eq_some_iff.1 hl').1
      have hk2 : k = ls.length := by simp at hkn; omega
      subst hk2
      have : l' = l := by rw [List.getElem?_append_right (Nat.le_refl _)] at hl'; simpa using hl'.symm
      subst this
      refine ⟨s, r, n0, n1, n2, (own_base hs hB).kept hg (.inr (by rw [es]; simp; omega)), (own_base hr hB).kept hg (.inr (by rw [er]; simp; omega)), ?_, ?_⟩
      · rw [es]; simp; rcases hg'1 with e | e <;> omega
      · rw [er]; simp; rcases hg'1 with e | e <;> omega
  · have hlen : (ls ++ [l]).length = ls.length + 1 := by simp
    rw [hlen]
    intro j i j' i' u u' hj hj' hi hi' hne2 hc hc'
    rcases val j i u hj hi hc with ⟨a1, a2, a3⟩ | ⟨rfl, rfl, a3⟩ | ⟨rfl, rfl, a3⟩ <;> rcases val j' i' u' hj' hi' hc' with ⟨d1, d2, d3⟩ | ⟨e1, rfl, d3⟩ | ⟨e1, rfl, d3⟩
    · exact h5 j i j' i' u u' a1 d1 hi hi' hne2 a2 d2
    · rw [d3]; by_cases hv : u.ownBlock = none
      · exact .inl hv
      · exact .inr fun e => by have := a3 gs e; omega
    · rw [d3]; by_cases hv : u.ownBlock = none
      · exact .inl hv
      · exact .inr fun e => by have := a3 gr e; omega
    · rw [a3]; exact .inr fun e => by have := d3 gs e.symm; omega
    · omega
    · rw [a3, d3]; exact .inr fun e => hne (by simpa using e)
    · rw [a3]; exact .inr fun e => by have := d3 gr e.symm; omega
    · rw [a3, d3]; exact .inr fun e => hne (by simpa using e.symm)
    · omega
  · simp only [Value.slice.injEq, Option.some.injEq, Addr.mk.injEq, and_true] at he
    obtain ⟨rfl, rfl, rfl⟩ := he
    obtain ⟨f1, f2⟩ := hcl g _ _ rfl
    refine ⟨by rcases hg'1 with e | e <;> omega, fun j i u hj hi hc e => ?_⟩
    rcases val j i u hj hi hc with ⟨a1, a2, _⟩ | ⟨_, _, a3⟩ | ⟨_, _, a3⟩
    · exact f2 j i u a1 hi a2 e
    · rw [a3] at e; simp at e; omega
    · rw [a3] at e; simp at e; omega

theorem LinesOwn.hole {B x i : Nat} {w : World} {v : Value} {ls : List LineD} (h : LinesOwn B w v ls) (hc : LinesClear w v x) (u : Value) : LinesOwn B (w.setCell ⟨x, i, none⟩ u) v ls := by
  obtain ⟨g, c, cur, rfl, hgB, hh, h1, h2, h3, h4, h5⟩ := h
  obtain ⟨f1, f2⟩ := hc g _ _ rfl
  have hb : (w.setCell ⟨x, i, none⟩ u).heap[g]? = w.heap[g]? := Below.heap_setCell _ _ _ _ (fun e => f1 e.symm)
  have hcell : ∀ o, (w.setCell ⟨x, i, none⟩ u).cell? ⟨g, o, none⟩ = w.cell? ⟨g, o, none⟩ := fun o => World.cell?_of_block (w := w) (a := ⟨g, o, none⟩) hb
  refine ⟨g, c, cur, rfl, hgB, hb.trans hh, h1, h2, h3, fun k l hl => ?_, h5.of_cells hcell⟩
  have hk := (List.getElem?_eq_some_iff.1 hl).1
  obtain ⟨sv, rv, c0, c1, c2, r1, r2, m1, m2⟩ := h4 k l hl
  exact ⟨sv, rv, (hcell _).trans c0, (hcell _).trans c1, (hcell _).trans c2,
    own_block r1 (fun q hq => Below.heap_setCell _ _ _ _ (fun e => f2 k 1 sv hk (.inl rfl) c1 (by rw [hq, e]))), own_block r2 (fun q hq => Below.heap_setCell _ _ _ _ (fun e => f2 k 2 rv hk (.inr rfl) c2 (by rw [hq, e]))), m1, m2⟩
theorem LinesClear.of_block {w w' : World} {g n c x : Nat} (h : LinesClear w (.slice (some ⟨g, 0, none⟩) n c) x) (hb : w'.heap[g]? = w.heap[g]?) : LinesClear w' (.slice (some ⟨g, 0, none⟩) n c) x := by
  intro g2 n' c2 he
  have he' := he
  simp only [Value.slice.injEq, Option.some.injEq, Addr.mk.injEq, and_true] at he'
  obtain ⟨rfl, rfl, rfl⟩ := he'
  obtain ⟨f1, f2⟩ := h g _ _ rfl
  refine ⟨f1, fun j i u hj hi hc => f2 j i u hj hi ?_⟩
  rw [← World.cell?_of_block (w := w) (a := ⟨g, j * 3 + i, none⟩) hb]; exact hc

theorem LinesOwn.clear_new {B : Nat} {w : World} {v : Value} {ls : List LineD} (h : LinesOwn B w v ls) (x : Nat) (hx : w.heap.size ≤ x) : LinesClear w v x := by
  obtain ⟨g, c, cur, rfl, hgB, hh, h1, h2, h3, h4, h5⟩ := h
  intro g2 n' c2 he
  simp only [Value.slice.injEq, Option.some.injEq, Addr.mk.injEq, and_true] at he
  obtain ⟨rfl, rfl, rfl⟩ := he
  have hgw := (Array.getElem?_eq_some_iff.1 hh).1
  refine ⟨by omega, fun j i u hj hi hc e => ?_⟩
  obtain ⟨sv, rv, c0, c1, c2, r1, r2, _⟩ := h4 j _ (List.getElem?_eq_getElem hj)
  rcases hi with rfl | rfl
  · rw [c1] at hc; cases hc; have := (r1.lt x e).2; omega
  · rw [c2] at hc; cases hc; have := (r2.lt x e).2; omega

theorem LinesOwn.row {B : Nat} {w : World} {v : Value} {ls : List LineD} (h : LinesOwn B w v ls) : ∃ xs : List Value, w.ownsRow B 36 3 v ls.length xs ∧ xs.length = ls.length * 3 ∧ ∀ g, v.ownBlock = some g → ∀ j u, xs[j]? = some u → w.cell? ⟨g, j, none⟩ = some u := by
  obtain ⟨g, c, cur, rfl, hgB, hh, h1, h2, h3, h4, h5⟩ := h
  have hl : (cur.toList.take (ls.length * 3)).length = ls.length * 3 := by
    have : ls.length * 3 ≤ c * 3 := Nat.mul_le_mul_right _ h1
    simp; omega
  refine ⟨cur.toList.take (ls.length * 3), ⟨hl, .inr ⟨g, c, cur, rfl, hgB, hh, h1, h2, h3, rfl⟩⟩, hl, fun g2 hg2 j u hu => ?_⟩
  have e : g = g2 := by simpa [Value.ownBlock] using hg2
  subst e
  rw [List.getElem?_take] at hu
  split at hu
  · rw [cell_in' hh]; simpa using hu
  · cases hu
end Go.Proofs.Ytemejcbilhcebaa
