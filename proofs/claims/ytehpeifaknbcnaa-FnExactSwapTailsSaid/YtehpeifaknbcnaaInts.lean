import Derived.Test.YtehpeifaknbcnaaMk01
import Derived.Lib.Hide
import Derived.OwnWalk
import Derived.Laws.NewBlocks
import Derived.Deep.Slices
import Derived.Deep.Fields
import Derived.Lib.SmallJoins
import Derived.ChangeSame
namespace Go.Proofs.Ytehpeifaknbcnaa
open Go.RowKit Go.ChangeShapes Go.WideShapes Go.ChangeAt Go.Deep Go.Joins
set_option linter.unusedVariables false

def strs (xs : List ByteArray) : List Value := xs.map Value.string
def ints (zs : List Int) : List Value := zs.map (Value.int .i64)
theorem strs_len (xs : List ByteArray) : (strs xs).length = xs.length := List.length_map ..
theorem ints_len (xs : List Int) : (ints xs).length = xs.length := List.length_map ..
theorem strs_at {w : World} {a : Option Addr} {xs : List ByteArray} (h : ∀ k u, (strs xs)[k]? = some u → ∃ b off, a = some ⟨b, off, none⟩ ∧ b < w.heap.size ∧ w.cell? ⟨b, off + k, none⟩ = some u) (k : Nat) (hk : k < xs.length) :
    ∃ b off, a = some ⟨b, off, none⟩ ∧ b < w.heap.size ∧ w.cell? ⟨b, off + k, none⟩ = some (.string (xs[k]'hk)) := h k _ (by simp [strs, List.getElem?_eq_getElem hk])
theorem ints_at {w : World} {a : Option Addr} {xs : List Int} (h : ∀ k u, (ints xs)[k]? = some u → ∃ b off, a = some ⟨b, off, none⟩ ∧ b < w.heap.size ∧ w.cell? ⟨b, off + k, none⟩ = some u) (k : Nat) (hk : k < xs.length) :
    ∃ b off, a = some ⟨b, off, none⟩ ∧ b < w.heap.size ∧ w.cell? ⟨b, off + k, none⟩ = some (.int .i64 (xs[k]'hk)) := h k _ (by simp [ints, List.getElem?_eq_getElem hk])
theorem strs_open {w : World} {v : Value} {xs : List ByteArray} (h : RowAt w v (strs xs)) : ∃ a c, v = .slice a xs.length c ∧ xs.length ≤ c ∧ c ≤ 9223372036854775807 ∧
    Hid (∀ k (hk : k < xs.length), ∃ b off, a = some ⟨b, off, none⟩ ∧ b < w.heap.size ∧ w.cell? ⟨b, off + k, none⟩ = some (.string (xs[k]'hk))) := by
  obtain ⟨a, c, rfl, h1, h2, h3⟩ := h
  simp only [strs_len] at *
  exact ⟨a, c, rfl, h1, h2, strs_at h3⟩
theorem ints_open {w : World} {v : Value} {xs : List Int} (h : RowAt w v (ints xs)) : ∃ a c, v = .slice a xs.length c ∧ xs.length ≤ c ∧ c ≤ 9223372036854775807 ∧
    Hid (∀ k (hk : k < xs.length), ∃ b off, a = some ⟨b, off, none⟩ ∧ b < w.heap.size ∧ w.cell? ⟨b, off + k, none⟩ = some (.int .i64 (xs[k]'hk))) := by
  obtain ⟨a, c, rfl, h1, h2, h3⟩ := h
  simp only [ints_len] at *
  exact ⟨a, c, rfl, h1, h2, ints_at h3⟩
theorem not_take_succ {α : Type} {x : α} {xs : List α} {k : Nat} (hk : k < xs.length) (h : x ∉ xs.take k) (hne : xs[k] ≠ x) : x ∉ xs.take (k + 1) := by
  rw [List.take_succ_eq_append_getElem hk]; intro hm
  rcases List.mem_append.1 hm with g | g
  · exact h g
  · exact hne (by simpa using g : x = xs[k]).symm
theorem not_take_all {α : Type} {x : α} {xs : List α} {k : Nat} (hk : xs.length ≤ k) (h : x ∉ xs.take k) : x ∉ xs := by rwa [List.take_of_length_le hk] at h
theorem bkeep {w w' : World} {p : Addr} {x : Value} (hb : Below w.heap.size w w') (h : w.cell? p = some x) : w'.cell? p = some x := by
  rw [hb.cell (World.block_lt_of_cell? w _ h)]; exact h
theorem acell {w : World} {p : Addr} {x : Value} (h : w.cell? p = some x) (o : Obj) : (w.alloc o).cell? p = some x := by
  rw [((Below.refl w.heap.size w).alloc (Nat.le_refl _) o).cell (World.block_lt_of_cell? w _ h)]; exact h
theorem own_block {w w' : World} {B : Nat} {e : TypeId} {sz : Nat} {v : Value} {n : Nat} {xs : List Value} (h : w.ownsRow B e sz v n xs) (hb : ∀ g, v.ownBlock = some g → w'.heap[g]? = w.heap[g]?) : w'.ownsRow B e sz v n xs := by
  obtain ⟨h1, h2⟩ := h
  refine ⟨h1, ?_⟩
  rcases h2 with h2 | ⟨g, cap, cur, hv, hg, hh, r⟩
  · exact .inl h2
  · exact .inr ⟨g, cap, cur, hv, hg, (hb g (by rw [hv]; rfl)).trans hh, r⟩
theorem own_later {w w' : World} {B : Nat} {e : TypeId} {sz : Nat} {v : Value} {n : Nat} {xs : List Value} (h : w.ownsRow B e sz v n xs) (hb : Below w.heap.size w w') : w'.ownsRow B e sz v n xs :=
  own_block h (fun g hg => hb.block g (h.lt g hg).2)
theorem own_base {w : World} {B B' : Nat} {e : TypeId} {sz : Nat} {v : Value} {n : Nat} {xs : List Value} (h : w.ownsRow B e sz v n xs) (hB : B' ≤ B) : w.ownsRow B' e sz v n xs := by
  obtain ⟨h1, h2⟩ := h
  refine ⟨h1, ?_⟩
  rcases h2 with h2 | ⟨g, cap, cur, hv, hg, r⟩
  · exact .inl h2
  · exact .inr ⟨g, cap, cur, hv, Nat.le_trans hB hg, r⟩
theorem own_other {w : World} {B : Nat} {e : TypeId} {sz : Nat} {v : Value} {n : Nat} {xs : List Value} (h : w.ownsRow B e sz v n xs) {p : Addr} (hp : v.ownBlock ≠ some p.block) (u : Value) : (w.setCell p u).ownsRow B e sz v n xs :=
  own_block h (fun g hg => Below.heap_setCell w p u g (fun e => hp (by rw [hg, e])))
theorem take_set_succ {α : Type} (zs ys : List α) (k : Nat) (h : k < zs.length) (hy : k < ys.length) (he : zs.take k = ys.take k) : (zs.set k ys[k]).take (k + 1) = ys.take (k + 1) := by
  rw [List.take_succ_eq_append_getElem (by simpa using h), List.take_succ_eq_append_getElem hy, List.take_set_of_le (Nat.le_refl _), he]
  simp
theorem own_len {w : World} {B : Nat} {e : TypeId} {v : Value} {n : Nat} {xs : List Value} (h : w.ownsRow B e 1 v n xs) : xs.length = n := by have := h.1; omega
theorem own_stored_below {B : Nat} {w wr : World} {g k : Nat} {u : Value} (hb : Below B w wr) (hg : B ≤ g) : Below B w (wr.setCell ⟨g, k, none⟩ u) := hb.setCell (p := ⟨g, k, none⟩) hg u
theorem fkeep {w w' : World} {p : Addr} (hb : Below w.heap.size w w') (hlt : p.block < w.heap.size) (h : w.frozen? p = false) : w'.frozen? p = false := by rw [hb.frozen hlt]; exact h
theorem set_other {w : World} {b i o : Nat} {u : Value} (h : i ≠ o) : (w.setCell ⟨b, i, none⟩ u).cell? ⟨b, o, none⟩ = w.cell? ⟨b, o, none⟩ :=
  World.cell?_setCell_other _ _ _ _ (fun e => h (congrArg Addr.off e))
theorem set_same {w : World} {b o : Nat} {u z : Value} (h : w.cell? ⟨b, o, none⟩ = some z) : (w.setCell ⟨b, o, none⟩ u).cell? ⟨b, o, none⟩ = some u :=
  World.cell?_setCell_same' _ _ _ (by rw [h]; rfl)
theorem own_shape {w : World} {B : Nat} {e : TypeId} {sz : Nat} {v : Value} {n : Nat} {xs : List Value} (h : w.ownsRow B e sz v n xs) : ∃ a c, v = .slice a n c := by
  obtain ⟨_, h2⟩ := h
  rcases h2 with ⟨hv, hn⟩ | ⟨g, cap, cur, hv, _⟩
  · subst hn; exact ⟨_, _, hv⟩
  · exact ⟨_, _, hv⟩

structure Out (lo hi : Nat) (w w' : World) : Prop where
  below : Below lo w w'
  above : ∀ b, hi ≤ b → b < w.heap.size → w'.heap[b]? = w.heap[b]?
theorem Out.refl (lo hi : Nat) (w : World) : Out lo hi w w := ⟨Below.refl _ _, fun _ _ _ => rfl⟩
theorem Out.trans {lo hi : Nat} {a b c : World} (h : Out lo hi a b) (k : Out lo hi b c) : Out lo hi a c :=
  ⟨h.below.trans k.below, fun i hi' hl => (k.above i hi' (Nat.lt_of_lt_of_le hl h.below.size)).trans (h.above i hi' hl)⟩
theorem Out.of_below {lo hi : Nat} {w w' : World} (h : Below w.heap.size w w') (hl : lo ≤ w.heap.size) : Out lo hi w w' := ⟨h.mono hl, fun b _ hb => h.block b hb⟩
theorem Out.setCell {lo hi : Nat} {w w' : World} (h : Out lo hi w w') {p : Addr} (h1 : lo ≤ p.block) (h2 : p.block < hi) (u : Value) : Out lo hi w (w'.setCell p u) :=
  ⟨h.below.setCell h1 u, fun b hb hl => by rw [Below.heap_setCell _ _ _ _ (by omega)]; exact h.above b hb hl⟩
theorem Out.cell {lo hi : Nat} {w w' : World} (h : Out lo hi w w') {p : Addr} (hp : p.block < lo ∨ hi ≤ p.block) {x : Value} (hc : w.cell? p = some x) : w'.cell? p = some x := by
  have hlt := World.block_lt_of_cell? w _ hc
  rcases hp with hp | hp
  · rw [h.below.cell hp]; exact hc
  · rw [World.cell?_of_block (w := w) (h.above p.block hp hlt)]; exact hc
theorem Out.block {lo hi : Nat} {w w' : World} (h : Out lo hi w w') {b : Nat} (hb : b < lo ∨ hi ≤ b) (hl : b < w.heap.size) : w'.heap[b]? = w.heap[b]? := by
  rcases hb with hb | hb
  · exact h.below.block b hb
  · exact h.above b hb hl
theorem own_out {lo hi B : Nat} {w w' : World} {e : TypeId} {sz : Nat} {v : Value} {n : Nat} {xs : List Value} (h : w.ownsRow B e sz v n xs) (ho : Out lo hi w w') (hb : ∀ g, v.ownBlock = some g → g < lo ∨ hi ≤ g) : w'.ownsRow B e sz v n xs :=
  own_block h (fun g hg => ho.block (hb g hg) (h.lt g hg).2)

theorem RowAt.out {lo hi : Nat} {w w' : World} {v : Value} {xs : List Value} (h : RowAt w v xs) (ho : Out lo hi w w') (hb : ∀ g, v.ownBlock = some g → g < lo ∨ hi ≤ g) : RowAt w' v xs := by
  obtain ⟨a, c, hv, h1, h2, h3⟩ := h
  refine ⟨a, c, hv, h1, h2, fun k u hu => ?_⟩
  obtain ⟨b, off, ha, hlt, hc⟩ := h3 k u hu
  exact ⟨b, off, ha, Nat.lt_of_lt_of_le hlt ho.below.size, ho.cell (p := ⟨b, off + k, none⟩) (hb b (by rw [hv, ha]; rfl)) hc⟩
theorem Out.of_grown {lo hi : Nat} {w w' : World} {row : Option Nat} (h : w.grownBy w' row) (hl : lo ≤ w.heap.size) (hr : ∀ g, row = some g → lo ≤ g ∧ g < hi) : Out lo hi w w' :=
  ⟨⟨h.os, h.tape, h.output, h.size, fun b hb => h.block b (by omega) (fun e => by have := (hr b e.symm).1; omega)⟩, fun b hb hlt => h.block b hlt (fun e => by have := (hr b e.symm).2; omega)⟩
def countUp (k : Int) : Nat → List Int
  | 0 => []
  | n + 1 => countUp k n ++ [k + n]
theorem countUp_len (k : Int) : ∀ n, (countUp k n).length = n
  | 0 => rfl
  | n + 1 => by simp [countUp, countUp_len k n]
theorem countUp_get (k : Int) : ∀ n j (h : j < (countUp k n).length), (countUp k n)[j] = k + j
  | 0, j, h => by simp [countUp] at h
  | n + 1, j, h => by
    simp only [countUp]
    rw [List.getElem_append]
    have hl := countUp_len k n
    split
    · exact countUp_get k n j (by assumption)
    · have : j = n := by simp [countUp, hl] at h; omega
      subst this
      simp

theorem one_new (w : World) (u : Value) {t : TypeId} : ∀ j x, [u][j]? = some x → (w.alloc (.cells #[u] t)).cell? ((⟨w.heap.size, 0, none⟩ : Addr).add j) = some x := by
  intro j x hx
  cases j with
  | zero => simp at hx; subst hx; simp [Addr.add]
  | succ j => simp at hx
def IntsIn (l u : Nat) (w : World) (v : Value) (xs : List Int) : Prop := w.ownsRow l 3 1 v xs.length (ints xs) ∧ ∀ g, v.ownBlock = some g → g < u
theorem IntsIn.at {l u : Nat} {w : World} {v : Value} {xs : List Int} (h : IntsIn l u w v xs) : RowAt w v (ints xs) := rowAt_own h.1
theorem IntsIn.lo {l u : Nat} {w : World} {v : Value} {xs : List Int} (h : IntsIn l u w v xs) (g : Nat) (hg : v.ownBlock = some g) : l ≤ g := (h.1.lt g hg).1
theorem IntsIn.later {l u : Nat} {w w' : World} {v : Value} {xs : List Int} (h : IntsIn l u w v xs) (hb : Below w.heap.size w w') : IntsIn l u w' v xs := ⟨own_later h.1 hb, h.2⟩
theorem IntsIn.out {l u lo hi : Nat} {w w' : World} {v : Value} {xs : List Int} (h : IntsIn l u w v xs) (ho : Out lo hi w w') (hs : u ≤ lo ∨ hi ≤ l) : IntsIn l u w' v xs :=
  ⟨own_out h.1 ho (fun g hg => by have := h.2 g hg; have := h.lo g hg; omega), h.2⟩
theorem IntsIn.mk {l : Nat} {w : World} {v : Value} {xs : List Int} (h : w.ownsRow l 3 1 v xs.length (ints xs)) : IntsIn l w.heap.size w v xs := ⟨h, fun g hg => (h.lt g hg).2⟩
theorem IntsIn.base {l l' u u' : Nat} {w : World} {v : Value} {xs : List Int} (h : IntsIn l u w v xs) (hl : l' ≤ l) (hu : u ≤ u') : IntsIn l' u' w v xs := ⟨own_base h.1 hl, fun g hg => Nat.lt_of_lt_of_le (h.2 g hg) hu⟩
theorem IntsIn.nil (l u : Nat) (w : World) : IntsIn l u w (.slice none 0 0) [] := ⟨World.ownsRow_nil _ _ _ _, fun g hg => by simp [Value.ownBlock] at hg⟩
theorem IntS_open {w : World} {v : Value} {xs : List Int} (h : RowAt w v (ints xs)) : ∃ a c, v = .slice a xs.length c := by
  obtain ⟨a, c, hv, _⟩ := h
  rw [ints_len] at hv
  exact ⟨a, c, hv⟩

def CellsF (w : World) (b : Nat) : Nat → List Value → Prop
  | _, [] => True
  | i, v :: vs => w.cell? ⟨b, i, none⟩ = some v ∧ CellsF w b (i + 1) vs
theorem CellsF.keep {w w' : World} {b : Nat} (hb : Below w.heap.size w w') : ∀ {i : Nat} {vs : List Value}, CellsF w b i vs → CellsF w' b i vs
  | _, [], _ => trivial
  | _, _ :: _, ⟨h, t⟩ => ⟨bkeep hb h, CellsF.keep hb t⟩
theorem CellsF.out {lo hi : Nat} {w w' : World} {b : Nat} (ho : Out lo hi w w') (hs : b < lo ∨ hi ≤ b) : ∀ {i : Nat} {vs : List Value}, CellsF w b i vs → CellsF w' b i vs
  | _, [], _ => trivial
  | i, _ :: _, ⟨h, t⟩ => ⟨ho.cell (p := ⟨b, i, none⟩) hs h, CellsF.out ho hs t⟩

section
variable {H : Type} {enc : TypeId × Value → H} {P : Program} {w : World} {base : Nat} {spare : Nat → Bool} {held : Bool}
theorem strings_trod {t e : TypeId} {n : Nat} {v : Value} {x : DataW H × List MemPlace} (ht : P.underlying t = some (.slice e)) (he : P.underlying e = some .string) (hc : P.cellsOf e = 1)
    (h : DataW.trod enc P w base spare held n t [v] = some x) : ∃ xs : List ByteArray, RowAt w v (strs xs) ∧ ∀ s ∈ xs, s.size ≤ maxLen := by
  rcases open_strings ht he hc h with ⟨hcs, _⟩ | ⟨a, len, cap, ss, hcs, _, hl, hm, hz, _, hcell, hws⟩
  · simp at hcs; subst hcs
    exact ⟨[], ⟨none, 0, rfl, Nat.le_refl _, by decide, fun k u hu => by simp [strs] at hu⟩, fun x hx => by simp at hx⟩
  · simp at hcs; subst hcs
    have hss : len ≤ ss.length := by rw [hz]; split <;> omega
    refine ⟨ss.take len, ⟨some a, cap, by simp [strs, Nat.min_eq_left hss], by simp [strs]; omega, hm, fun k u hu => ?_⟩, fun x hx => hws x (List.mem_of_mem_take hx)⟩
    rw [strs, List.getElem?_map, List.getElem?_take] at hu
    split at hu
    · rename_i hk
      have hk' : k < ss.length := by omega
      rw [List.getElem?_eq_getElem hk'] at hu
      have hcl := hcell k hk'
      obtain ⟨b, off, sp⟩ := a
      have hsp : sp = none := by
        have := World.cell?_spot (hcell 0 (by omega))
        simpa [Addr.add] using this
      subst hsp
      rw [addr_add] at hcl
      have hu' : Value.string (ss[k]) = u := by simpa using hu
      refine ⟨b, off, rfl, World.block_lt_of_cell? w _ hcl, ?_⟩
      rw [hcl, ← hu']
      simp [List.getD, List.getElem?_eq_getElem hk']
    · simp at hu
theorem ints_trod {t e : TypeId} {n : Nat} {v : Value} {x : DataW H × List MemPlace} (ht : P.underlying t = some (.slice e)) (he : P.underlying e = some (.int .i64)) (hc : P.cellsOf e = 1)
    (h : DataW.trod enc P w base spare held n t [v] = some x) : ∃ zs : List Int, RowAt w v (ints zs) ∧ ∀ z ∈ zs, (Lit.int .i64 z).wf = true := by
  rcases open_ints ht he hc h with ⟨hcs, _⟩ | ⟨a, len, cap, ss, hcs, _, hl, hm, hz, _, hcell, hws⟩
  · simp at hcs; subst hcs
    exact ⟨[], ⟨none, 0, rfl, Nat.le_refl _, by decide, fun k u hu => by simp [ints] at hu⟩, fun x hx => by simp at hx⟩
  · simp at hcs; subst hcs
    have hss : len ≤ ss.length := by rw [hz]; split <;> omega
    refine ⟨ss.take len, ⟨some a, cap, by simp [ints, Nat.min_eq_left hss], by simp [ints]; omega, hm, fun k u hu => ?_⟩, fun x hx => hws x (List.mem_of_mem_take hx)⟩
    rw [ints, List.getElem?_map, List.getElem?_take] at hu
    split at hu
    · rename_i hk
      have hk' : k < ss.length := by omega
      rw [List.getElem?_eq_getElem hk'] at hu
      have hcl := hcell k hk'
      obtain ⟨b, off, sp⟩ := a
      have hsp : sp = none := by
        have := World.cell?_spot (hcell 0 (by omega))
        simpa [Addr.add] using this
      subst hsp
      rw [addr_add] at hcl
      have hu' : Value.int .i64 (ss[k]) = u := by simpa using hu
      refine ⟨b, off, rfl, World.block_lt_of_cell? w _ hcl, ?_⟩
      rw [hcl, ← hu']
      simp [List.getD, List.getElem?_eq_getElem hk']
    · simp at hu
end
end Go.Proofs.Ytehpeifaknbcnaa
