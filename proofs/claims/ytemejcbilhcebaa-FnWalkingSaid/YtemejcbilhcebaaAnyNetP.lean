import Derived.Test.YtemejcbilhcebaaMk22
namespace Go.Proofs.Ytemejcbilhcebaa
open Go.RowKit
set_option linter.unusedVariables false
set_option linter.unusedSimpArgs false

def Like (z : Int) (ys ys' : List Int) : Prop := ys'.length = ys.length ∧ ∀ q ∈ ys', q ∈ ys ∨ q = z

def RowsOf (z : Int) (w W : World) : Prop := ∀ B y m ys, w.ownsRow B 3 1 y m (ints ys) → ∃ ys', Like z ys ys' ∧ W.ownsRow B 3 1 y m (ints ys')
theorem rowsOf_store (w : World) (pb po : Nat) (z : Int) : RowsOf z w (w.setCell ⟨pb, po, none⟩ (.int .i64 z)) := fun B y m ys h => by
  obtain ⟨ys', h1, h2, h3⟩ := ints_store h (by have := h.1; rw [ints_len] at this; omega) pb po z
  exact ⟨ys', ⟨h1, h2⟩, h3⟩

def AnyLn (l : LineD) : Prop := l.name.size ≤ 20 ∧ l.stops.length ≤ 8 ∧ l.runs.length ≤ 8 ∧ (∀ s ∈ l.stops, -1 ≤ s ∧ s ≤ 1000) ∧ ∀ r ∈ l.runs, -1 ≤ r ∧ r ≤ 1000
theorem anyLn_good {l : LineD} {k : Nat} (h : LineOk l k) (hn : l.name.size ≤ 20) (hk : k ≤ 8) : AnyLn l := by
  obtain ⟨⟨h1, h2, h3⟩, h4, -, h6⟩ := h
  exact ⟨hn, by omega, by omega, fun s hs => by have := h4 s hs; omega, fun r hr => by have := h6 r hr; omega⟩
theorem anyLn_fits {l : LineD} (h : AnyLn l) : LineFits l :=
  ⟨by have := h.1; unfold maxLen; omega, fun z hz => wfB (by have := h.2.2.2.1 z hz; omega) (by have := h.2.2.2.1 z hz; omega), fun z hz => wfB (by have := h.2.2.2.2 z hz; omega) (by have := h.2.2.2.2 z hz; omega)⟩
theorem like_in {z : Int} {ys ys' : List Int} (h : Like z ys ys') (hz : -1 ≤ z ∧ z ≤ 1000) (hy : ∀ s ∈ ys, -1 ≤ s ∧ s ≤ 1000) : ∀ s ∈ ys', -1 ≤ s ∧ s ≤ 1000 := fun s hs => by
  rcases h.2 s hs with h | h
  · exact hy s h
  · rw [h]; exact hz
theorem lnC_names : ∀ (ls ls' : List LineD) (vs : List (Value × Value)), ls'.length = ls.length → (∀ j (h : j < ls.length) (h' : j < ls'.length), ls'[j].name = ls[j].name) → lnC ls' vs = lnC ls vs
  | [], [], vs, _, _ => rfl
  | l :: ls, l' :: ls', [], _, _ => rfl
  | l :: ls, l' :: ls', p :: vs, hl, h => by
    have h0 := h 0 (by simp) (by simp)
    simp at h0
    simp only [lnC]
    rw [h0, lnC_names ls ls' vs (by simpa using hl) (fun j hj hj' => by have := h (j + 1) (by simpa using hj) (by simpa using hj'); simpa using this)]
theorem lnC_set : ∀ (ls : List LineD) (vs : List (Value × Value)) (k : Nat) (x : LineD) (p : Value × Value), k < ls.length → k < vs.length → (((lnC ls vs).set (k * 3) (.string x.name)).set (k * 3 + 1) p.1).set (k * 3 + 2) p.2 = lnC (ls.set k x) (vs.set k p)
  | l :: ls, q :: vs, 0, x, p, _, _ => rfl
  | l :: ls, q :: vs, k + 1, x, p, h, h' => by
    have := lnC_set ls vs k x p (by simpa using h) (by simpa using h')
    rw [show (k + 1) * 3 = k * 3 + 1 + 1 + 1 by omega, show k * 3 + 1 + 1 + 1 + 1 = k * 3 + 1 + 1 + 1 + 1 from rfl, show k * 3 + 1 + 1 + 1 + 2 = k * 3 + 2 + 1 + 1 + 1 by omega]
    simpa [lnC] using this

theorem OwnLsV.like {B : Nat} {w W : World} {la : Value} {ls : List LineD} {vs : List (Value × Value)} {z : Int} (h : OwnLsV B w la ls vs) (hR : RowsOf z w W) (hl : ∀ g, la.ownBlock = some g → W.heap[g]? = w.heap[g]?) (hz : -1 ≤ z ∧ z ≤ 1000) (hok : ∀ l ∈ ls, AnyLn l) :
    ∃ ls' : List LineD, ls'.length = ls.length ∧ (∀ l ∈ ls', AnyLn l) ∧ OwnLsV B W la ls' vs := by
  obtain ⟨h1, h2, h3⟩ := h
  have hex : ∀ j, ∃ l' : LineD, ∀ (hj : j < ls.length) (hj' : j < vs.length), l'.name = ls[j].name ∧ AnyLn l' ∧ W.ownsRow B 3 1 vs[j].1 l'.stops.length (ints l'.stops) ∧ W.ownsRow B 3 1 vs[j].2 l'.runs.length (ints l'.runs) := fun j => by
    by_cases hj : j < ls.length
    · have hj' : j < vs.length := by omega
      obtain ⟨s', s1, s2⟩ := hR _ _ _ _ (h3 j hj hj').1.1
      obtain ⟨r', r1, r2⟩ := hR _ _ _ _ (h3 j hj hj').1.2
      obtain ⟨a1, a2, a3, a4, a5⟩ := hok _ (List.getElem_mem hj)
      exact ⟨⟨ls[j].name, s', r'⟩, fun _ _ => ⟨rfl, ⟨a1, by show s'.length ≤ 8; rw [s1.1]; exact a2, by show r'.length ≤ 8; rw [r1.1]; exact a3, like_in s1 hz a4, like_in r1 hz a5⟩, by show W.ownsRow _ _ _ _ s'.length _; rw [s1.1]; exact s2, by show W.ownsRow _ _ _ _ r'.length _; rw [r1.1]; exact r2⟩⟩
    · exact ⟨⟨⟨#[]⟩, [], []⟩, fun h => absurd h hj⟩
  obtain ⟨f, hf⟩ := Classical.axiomOfChoice hex
  have hlen : ((List.range ls.length).map f).length = ls.length := by simp
  have hget : ∀ j (hj : j < ((List.range ls.length).map f).length), ((List.range ls.length).map f)[j] = f j := fun j hj => by simp
  refine ⟨(List.range ls.length).map f, hlen, fun l hl => ?_, by rw [hlen]; exact h1, ?_, fun j hj hj' => ?_⟩
  · obtain ⟨j, hj, rfl⟩ := List.mem_map.1 hl
    have hj := List.mem_range.1 hj
    exact (hf j hj (by omega)).2.1
  · rw [hlen, lnC_names ls _ vs hlen (fun j hj hj' => by rw [hget]; exact (hf j hj (by omega)).1)]
    exact own_block h2 hl
  · have hjl : j < ls.length := by omega
    rw [hget]
    exact ⟨(hf j hjl hj').2.2, (h3 j hjl hj').2⟩

theorem OwnLsV.setLine {B g c : Nat} {w : World} {ls : List LineD} {vs : List (Value × Value)} (h : OwnLsV B w (.slice (some ⟨g, 0, none⟩) ls.length c) ls vs) (k : Nat) (hk : k < ls.length) (x : LineD) (p : Value × Value) (hs : w.ownsRow B 3 1 p.1 x.stops.length (ints x.stops)) (hr : w.ownsRow B 3 1 p.2 x.runs.length (ints x.runs)) (h1' : p.1.ownBlock = none ∨ p.1.ownBlock ≠ some g) (h2' : p.2.ownBlock = none ∨ p.2.ownBlock ≠ some g) :
    OwnLsV B (((w.setCell ⟨g, k * 3, none⟩ (.string x.name)).setCell ⟨g, k * 3 + 1, none⟩ p.1).setCell ⟨g, k * 3 + 2, none⟩ p.2) (.slice (some ⟨g, 0, none⟩) ls.length c) (ls.set k x) (vs.set k p) := by
  obtain ⟨h1, h2, h3⟩ := h
  have hq : ∀ q, q ≠ g → (((w.setCell ⟨g, k * 3, none⟩ (.string x.name)).setCell ⟨g, k * 3 + 1, none⟩ p.1).setCell ⟨g, k * 3 + 2, none⟩ p.2).heap[q]? = w.heap[q]? := fun q hq => by
    rw [Below.heap_setCell _ _ _ _ (show q ≠ g from hq), Below.heap_setCell _ _ _ _ (show q ≠ g from hq), Below.heap_setCell _ _ _ _ (show q ≠ g from hq)]
  have kp : ∀ {y : Value} {m : Nat} {zs : List Value}, w.ownsRow B 3 1 y m zs → (y.ownBlock = none ∨ y.ownBlock ≠ some g) → (((w.setCell ⟨g, k * 3, none⟩ (.string x.name)).setCell ⟨g, k * 3 + 1, none⟩ p.1).setCell ⟨g, k * 3 + 2, none⟩ p.2).ownsRow B 3 1 y m zs := fun hy hn => own_block hy (fun q e => hq q (fun e' => by subst e'; rcases hn with hn | hn; rw [hn] at e; cases e; exact hn e))
  have h2s := (((h2.stored (k * 3) (.string x.name)).1.stored (k * 3 + 1) p.1).1.stored (k * 3 + 2) p.2).1
  rw [lnC_set ls vs k x p hk (by omega)] at h2s
  refine ⟨by simp [h1], by rw [List.length_set]; exact h2s, fun j hj hj' => ?_⟩
  have hj1 : j < ls.length := by simpa using hj
  have hj2 : j < vs.length := by omega
  by_cases e : k = j
  · subst e
    simp only [List.getElem_set_self]
    exact ⟨⟨kp hs h1', kp hr h2'⟩, h1', h2'⟩
  · simp only [List.getElem_set_ne e]
    have := h3 j hj1 hj2
    exact ⟨⟨kp this.1.1 this.2.1, kp this.1.2 this.2.2⟩, this.2⟩

structure AnSt (w : World) (b n : Nat) (v : Value) (nb xb B : Nat) (s0 la sx rx : Value) (ss : List ByteArray) (ls : List LineD) (vs : List (Value × Value)) (x : LineD) (W : World) : Prop where
  cur : CurPost w b n v W
  z : W.cell? ⟨w.heap.size, 0, none⟩ = some (.slice none 0 0) ∧ W.cell? ⟨w.heap.size, 1, none⟩ = some (.slice none 0 0) ∧ w.heap.size < W.heap.size ∧ ∀ o, W.frozen? ⟨w.heap.size, o, none⟩ = false
  c0 : W.cell? ⟨nb, 0, none⟩ = some s0
  c1 : W.cell? ⟨nb, 1, none⟩ = some la
  f : ∀ o, W.frozen? ⟨nb, o, none⟩ = false
  x0 : W.cell? ⟨xb, 0, none⟩ = some (.string x.name)
  x1 : W.cell? ⟨xb, 1, none⟩ = some sx
  x2 : W.cell? ⟨xb, 2, none⟩ = some rx
  xf : ∀ o, W.frozen? ⟨xb, o, none⟩ = false
  st : W.ownsRow (w.heap.size + 1) 9 1 s0 ss.length (strs ss)
  own : OwnLsV B W la ls vs
  xs : W.ownsRow B 3 1 sx x.stops.length (ints x.stops)
  xr : W.ownsRow B 3 1 rx x.runs.length (ints x.runs)
  xn : (sx.ownBlock = none ∨ sx.ownBlock ≠ la.ownBlock) ∧ (rx.ownBlock = none ∨ rx.ownBlock ≠ la.ownBlock)
  hy : w.heap.size < B ∧ w.heap.size < nb ∧ w.heap.size < xb ∧ nb ≠ xb
  sB : ∀ g, s0.ownBlock = some g → g < B
  far : ∀ q, (q = nb ∨ q = xb) → s0.ownBlock ≠ some q ∧ la.ownBlock ≠ some q ∧ sx.ownBlock ≠ some q ∧ rx.ownBlock ≠ some q ∧ ∀ p ∈ vs, p.1.ownBlock ≠ some q ∧ p.2.ownBlock ≠ some q
  ok : (ss.length ≤ 8 ∧ ∀ s ∈ ss, s.size ≤ 20) ∧ ls.length ≤ 12 ∧ (∀ l ∈ ls, AnyLn l) ∧ AnyLn x
section
variable {w : World} {b n m : Nat} {v : Value} {nb xb B : Nat} {s0 la sx rx : Value} {ss : List ByteArray} {ls : List LineD} {vs : List (Value × Value)} {x : LineD} {W W' : World}
theorem AnSt.lt (h : AnSt w b n v nb xb B s0 la sx rx ss ls vs x W) : nb + 1 ≤ W.heap.size ∧ xb + 1 ≤ W.heap.size := by
  have h1 := World.block_lt_of_cell? W _ h.c0
  have h2 := World.block_lt_of_cell? W _ h.x0
  dsimp only at h1 h2; omega
theorem AnSt.keep (h : AnSt w b n v nb xb B s0 la sx rx ss ls vs x W) (hc : CurPost w b m v W') (hz : W.heap.size ≤ W'.heap.size) (hk : ∀ q, w.heap.size ≤ q → q < W.heap.size → W'.heap[q]? = W.heap[q]?) : AnSt w b m v nb xb B s0 la sx rx ss ls vs x W' := by
  have hl := h.lt
  have hy := h.hy
  have cell : ∀ q o u, w.heap.size ≤ q → q < W.heap.size → W.cell? ⟨q, o, none⟩ = some u → W'.cell? ⟨q, o, none⟩ = some u := fun q o u h1 h2 hu => by rw [World.cell?_of_block (hk q h1 h2)]; exact hu
  have froz : ∀ q o, w.heap.size ≤ q → q < W.heap.size → W.frozen? ⟨q, o, none⟩ = false → W'.frozen? ⟨q, o, none⟩ = false := fun q o h1 h2 hu => by rw [World.frozen?_of_block (a := ⟨q, o, none⟩) (hk q h1 h2)]; exact hu
  have row : ∀ {C e sz y k zs}, w.heap.size ≤ C → W.ownsRow C e sz y k zs → W'.ownsRow C e sz y k zs := fun hC ho => own_block ho (fun g hg => hk g (by have := (ho.lt g hg).1; omega) (ho.lt g hg).2)
  obtain ⟨z0, z1, zl, zf⟩ := h.z
  exact ⟨hc, ⟨cell _ _ _ (Nat.le_refl _) zl z0, cell _ _ _ (Nat.le_refl _) zl z1, by omega, fun o => froz _ o (Nat.le_refl _) zl (zf o)⟩, cell _ _ _ (by omega) (by omega) h.c0, cell _ _ _ (by omega) (by omega) h.c1, fun o => froz _ o (by omega) (by omega) (h.f o),
    cell _ _ _ (by omega) (by omega) h.x0, cell _ _ _ (by omega) (by omega) h.x1, cell _ _ _ (by omega) (by omega) h.x2, fun o => froz _ o (by omega) (by omega) (h.xf o), row (by omega) h.st, h.own.keep (fun q h1 h2 => hk q (by omega) h2), row (by omega) h.xs, row (by omega) h.xr, h.xn, hy, h.sB, h.far, h.ok⟩
theorem AnSt.cur' (h : AnSt w b n v nb xb B s0 la sx rx ss ls vs x W) (hb : b < w.heap.size) (hp : CurPost W b m v W') : AnSt w b m v nb xb B s0 la sx rx ss ls vs x W' :=
  h.keep (curPost_trans h.cur hp) hp.2.2.size (fun q h1 h2 => hp.2.2.block q h2 (by simp; omega))
theorem AnSt.later (h : AnSt w b n v nb xb B s0 la sx rx ss ls vs x W) (hv : CodeOff w b v) (hb : b < w.heap.size) (hW : Below W.heap.size W W') : AnSt w b n v nb xb B s0 la sx rx ss ls vs x W' :=
  h.keep (curPost_later hv hb h.cur hW) hW.size (fun q _ h2 => hW.block q h2)
theorem AnSt.alloc (h : AnSt w b n v nb xb B s0 la sx rx ss ls vs x W) (o : Obj) : AnSt w b n v nb xb B s0 la sx rx ss ls vs x (W.alloc o) :=
  h.keep (curPost_alloc h.cur o) (by simp) (fun q _ h2 => Below.heap_alloc _ _ _ h2)
theorem AnSt.drew (h : AnSt w b n v nb xb B s0 la sx rx ss ls vs x W) : AnSt w b n v nb xb B s0 la sx rx ss ls vs x W.drew :=
  h.keep (W' := W.drew) ⟨curAt_drewN (m := 1) h.cur.1, codeOff_grown h.cur.2.1 (grown_drewN (m := 1) (r := some b)), grown_trans h.cur.2.2 (grown_drewN (m := 1))⟩ (Nat.le_refl _) (fun q _ _ => rfl)
theorem AnSt.mono (h : AnSt w b n v nb xb B s0 la sx rx ss ls vs x W) (hn : n ≤ m) : AnSt w b m v nb xb B s0 la sx rx ss ls vs x W :=
  h.keep (curPost_mono h.cur hn) (Nat.le_refl _) (fun q _ _ => rfl)

theorem cell_beside {W : World} {q o q' o' : Nat} {u y : Value} (h : W.cell? ⟨q, o, none⟩ = some y) (hne : q ≠ q' ∨ o ≠ o') : (W.setCell ⟨q', o', none⟩ u).cell? ⟨q, o, none⟩ = some y := by
  rw [World.cell?_setCell_other _ _ _ _ (fun e => by simp only [Addr.mk.injEq] at e; omega)]; exact h

theorem AnSt.name (h : AnSt w b n v nb xb B s0 la sx rx ss ls vs x W) (hv : CodeOff w b v) (hb : b < w.heap.size) (t : ByteArray) (ht : t.size ≤ 20) : AnSt w b n v nb xb B s0 la sx rx ss ls vs ⟨t, x.stops, x.runs⟩ (W.setCell ⟨xb, 0, none⟩ (.string t)) := by
  have hy := h.hy
  have hq : ∀ q, q ≠ xb → (W.setCell ⟨xb, 0, none⟩ (.string t)).heap[q]? = W.heap[q]? := fun q e => Below.heap_setCell _ _ _ _ e
  have row : ∀ {C e sz y k zs}, W.ownsRow C e sz y k zs → y.ownBlock ≠ some xb → (W.setCell ⟨xb, 0, none⟩ (.string t)).ownsRow C e sz y k zs := fun ho hn => own_block ho (fun g hg => hq g (fun e => by subst e; exact hn hg))
  obtain ⟨z0, z1, zl, zf⟩ := h.z
  obtain ⟨f1, f2, f3, f4, f5⟩ := h.far xb (.inr rfl)
  exact ⟨curPost_set hv h.cur (by omega) (by omega), ⟨cell_beside z0 (by omega), cell_beside z1 (by omega), by simpa [World.setCell] using zl, fun o => by rw [World.frozen?_setCell]; exact zf o⟩, cell_beside h.c0 (by omega), cell_beside h.c1 (by omega), fun o => by rw [World.frozen?_setCell]; exact h.f o,
    World.cell?_setCell_same _ _ _ h.x0, cell_beside h.x1 (by omega), cell_beside h.x2 (by omega), fun o => by rw [World.frozen?_setCell]; exact h.xf o, row h.st f1, h.own.hole f2 f5 _, row h.xs f3, row h.xr f4, h.xn, hy, h.sB, h.far, h.ok.1, h.ok.2.1, h.ok.2.2.1, ht, h.ok.2.2.2.2⟩

theorem AnSt.stop {gS cS : Nat} (h : AnSt w b n v nb xb B (.slice (some ⟨gS, 0, none⟩) ss.length cS) la sx rx ss ls vs x W) (hv : CodeOff w b v) (hb : b < w.heap.size) (k : Nat) (t : ByteArray) (ht : t.size ≤ 20) : AnSt w b n v nb xb B (.slice (some ⟨gS, 0, none⟩) ss.length cS) la sx rx (ss.set k t) ls vs x (W.setCell ⟨gS, k, none⟩ (.string t)) := by
  have hy := h.hy
  have hg := h.st.lt gS rfl
  have hB := h.sB gS rfl
  obtain ⟨f1, f2, f3, f4, f5⟩ := h.far xb (.inr rfl)
  obtain ⟨e1, e2, e3, e4, e5⟩ := h.far nb (.inl rfl)
  have hx : gS ≠ xb := fun e => f1 (by rw [← e]; rfl)
  have hn : gS ≠ nb := fun e => e1 (by rw [← e]; rfl)
  obtain ⟨z0, z1, zl, zf⟩ := h.z
  have st := (h.st.stored k (.string t)).1
  exact ⟨curPost_set hv h.cur (by omega) (by omega), ⟨cell_beside z0 (by omega), cell_beside z1 (by omega), by simpa [World.setCell] using zl, fun o => by rw [World.frozen?_setCell]; exact zf o⟩, cell_beside h.c0 (by omega), cell_beside h.c1 (by omega), fun o => by rw [World.frozen?_setCell]; exact h.f o,
    cell_beside h.x0 (by omega), cell_beside h.x1 (by omega), cell_beside h.x2 (by omega), fun o => by rw [World.frozen?_setCell]; exact h.xf o, by rw [List.length_set]; unfold strs at st ⊢; rw [List.map_set]; exact st, h.own.set hB _, ownsRow_setCell_below h.xs hB _, ownsRow_setCell_below h.xr hB _, h.xn, hy, h.sB, h.far, ⟨by rw [List.length_set]; exact h.ok.1.1, fun s hs => by rcases List.mem_or_eq_of_mem_set hs with hs | hs; exact h.ok.1.2 s hs; rw [hs]; exact ht⟩, h.ok.2⟩

theorem AnSt.int (h : AnSt w b n v nb xb B s0 la sx rx ss ls vs x W) (hv : CodeOff w b v) (hb : b < w.heap.size) {q : Nat} (hq : sx.ownBlock = some q ∨ rx.ownBlock = some q) (k : Nat) (z : Int) (hz : -1 ≤ z ∧ z ≤ 1000) :
    ∃ (ls' : List LineD) (x' : LineD), ls'.length = ls.length ∧ x'.stops.length = x.stops.length ∧ x'.runs.length = x.runs.length ∧ AnSt w b n v nb xb B s0 la sx rx ss ls' vs x' (W.setCell ⟨q, k, none⟩ (.int .i64 z)) := by
  have hy := h.hy
  have hqB : B ≤ q := by rcases hq with hq | hq; exact (h.xs.lt q hq).1; exact (h.xr.lt q hq).1
  obtain ⟨f1, f2, f3, f4, f5⟩ := h.far xb (.inr rfl)
  obtain ⟨e1, e2, e3, e4, e5⟩ := h.far nb (.inl rfl)
  have hx : q ≠ xb := fun e => by subst e; rcases hq with hq | hq; exact f3 hq; exact f4 hq
  have hn : q ≠ nb := fun e => by subst e; rcases hq with hq | hq; exact e3 hq; exact e4 hq
  have hla : la.ownBlock ≠ some q := fun e => by
    rcases hq with hq | hq
    · rcases h.xn.1 with e' | e'; rw [hq] at e'; cases e'; exact e' (by rw [hq, e])
    · rcases h.xn.2 with e' | e'; rw [hq] at e'; cases e'; exact e' (by rw [hq, e])
  have hss : s0.ownBlock ≠ some q := fun e => by have := h.sB q e; omega
  have hk : ∀ q', q' ≠ q → (W.setCell ⟨q, k, none⟩ (.int .i64 z)).heap[q']? = W.heap[q']? := fun q' e => Below.heap_setCell _ _ _ _ e
  have hR := rowsOf_store W q k z
  obtain ⟨ls', l1, l2, l3⟩ := h.own.like hR (fun g hg => hk g (fun e => hla (by rw [hg, e]))) hz h.ok.2.2.1
  obtain ⟨s', s1, s2⟩ := hR _ _ _ _ h.xs
  obtain ⟨r', r1, r2⟩ := hR _ _ _ _ h.xr
  obtain ⟨z0, z1, zl, zf⟩ := h.z
  obtain ⟨a1, a2, a3, a4, a5⟩ := h.ok.2.2.2
  exact ⟨ls', ⟨x.name, s', r'⟩, l1, s1.1, r1.1, curPost_set hv h.cur (by omega) (by omega), ⟨cell_beside z0 (by omega), cell_beside z1 (by omega), by simpa [World.setCell] using zl, fun o => by rw [World.frozen?_setCell]; exact zf o⟩, cell_beside h.c0 (by omega), cell_beside h.c1 (by omega), fun o => by rw [World.frozen?_setCell]; exact h.f o,
    cell_beside h.x0 (by omega), cell_beside h.x1 (by omega), cell_beside h.x2 (by omega), fun o => by rw [World.frozen?_setCell]; exact h.xf o, own_block h.st (fun g hg => hk g (fun e => hss (by rw [hg, e]))), l3, by show World.ownsRow _ _ _ _ _ s'.length _; rw [s1.1]; exact s2, by show World.ownsRow _ _ _ _ _ r'.length _; rw [r1.1]; exact r2, h.xn, hy, h.sB, h.far, h.ok.1, by rw [l1]; exact h.ok.2.1, l2, a1, by show s'.length ≤ 8; rw [s1.1]; exact a2, by show r'.length ≤ 8; rw [r1.1]; exact a3, like_in s1 hz a4, like_in r1 hz a5⟩

theorem AnSt.appR (h : AnSt w b n v nb xb B s0 la sx rx ss ls vs x W) (hv : CodeOff w b v) (hb : b < w.heap.size) {g : Nat} {z : Int} (hz : W.cell? ⟨g, 0, none⟩ = some (.int .i64 z)) (hzz : -1 ≤ z ∧ z ≤ 1000) (hr : x.runs.length ≤ 7) (hBW : B ≤ W.heap.size) :
    ∃ (v' : Value) (W2 : World) (ls' : List LineD) (x' : LineD), (Builtin.append_ #[34, 34] 34 #[rx, .slice (some ⟨g, 0, none⟩) 1 1]).run Try.prog W = .ok v' W2 ∧ ls'.length = ls.length ∧ AnSt w b n v nb xb B s0 la sx v' ss ls' vs x' (W2.setCell ⟨xb, 2, none⟩ v') ∧ W2.cell? ⟨xb, 2, none⟩ = some rx ∧ (∀ o, W2.frozen? ⟨xb, o, none⟩ = false) ∧ ∃ a3 c3, v' = .slice a3 (x.runs.length + 1) c3 := by
  have hy := h.hy
  have hlt := h.lt
  obtain ⟨v', W2, h1, h2, h3, h5, hR⟩ := ints_append1 W B x.runs.length rx x.runs h.xr (by omega) z g hz (World.block_lt_of_cell? W _ hz) hBW
  have hR : RowsOf z W W2 := fun B y m ys hy => by obtain ⟨ys', k1, k2, k3⟩ := hR B y m ys hy; exact ⟨ys', ⟨k1, k2⟩, k3⟩
  obtain ⟨f1, f2, f3, f4, f5⟩ := h.far xb (.inr rfl)
  obtain ⟨e1, e2, e3, e4, e5⟩ := h.far nb (.inl rfl)
  have hsz := h3.size
  have hrB : ∀ q, rx.ownBlock = some q → B ≤ q := fun q hq => (h.xr.lt q hq).1
  have hC : CurPost w b n v W2 := cur_grown hv hb h.cur h3 (fun q hq => by have := hrB q hq; omega)
  have cell : ∀ q o u, some q ≠ rx.ownBlock → W.cell? ⟨q, o, none⟩ = some u → W2.cell? ⟨q, o, none⟩ = some u := fun q o u hq hu => h3.cell (a := ⟨q, o, none⟩) hu hq
  have froz : ∀ q, q < W.heap.size → some q ≠ rx.ownBlock → (∀ o, W.frozen? ⟨q, o, none⟩ = false) → ∀ o, W2.frozen? ⟨q, o, none⟩ = false := fun q hlt hq hu o => by rw [h3.frozen_far ⟨q, o, none⟩ hlt hq]; exact hu o
  have n1 : some nb ≠ rx.ownBlock := fun e => e4 e.symm
  have n2 : some xb ≠ rx.ownBlock := fun e => f4 e.symm
  have n0 : some w.heap.size ≠ rx.ownBlock := fun e => by have := hrB _ e.symm; omega
  have hss : ∀ q, s0.ownBlock = some q → some q ≠ rx.ownBlock := fun q hq e => by have := hrB q e.symm; have := h.sB q hq; omega
  have hla : ∀ q, la.ownBlock = some q → some q ≠ rx.ownBlock := fun q hq e => by
    rcases h.xn.2 with e' | e'
    · rw [e'] at e; cases e
    · exact e' (by rw [← e, hq])
  have hlal : ∀ q, la.ownBlock = some q → q < W.heap.size := fun q hq => (h.own.2.1.lt q hq).2
  obtain ⟨ls', l1, l2, l3⟩ := h.own.like hR (fun q hq => h3.block q (hlal q hq) (hla q hq)) hzz h.ok.2.2.1
  obtain ⟨s', s1, s2⟩ := hR _ _ _ _ h.xs
  obtain ⟨z0, z1, zl, zf⟩ := h.z
  obtain ⟨a1, a2, a3, a4, a5⟩ := h.ok.2.2.2
  have hst : W2.ownsRow (w.heap.size + 1) 9 1 s0 ss.length (strs ss) := own_block h.st (fun q hq => h3.block q (h.st.lt q hq).2 (hss q hq))
  have hvf : ∀ q, q < W.heap.size → rx.ownBlock ≠ some q → v'.ownBlock ≠ some q := fun q hq hne e => by
    rcases h5 with h5 | h5
    · exact hne (by rw [← h5, e])
    · rw [h5] at e; simp at e; omega
  have hvn : v'.ownBlock = none ∨ v'.ownBlock ≠ la.ownBlock := by
    rcases h5 with h5 | h5
    · rw [h5]; exact h.xn.2
    · refine .inr fun e => ?_
      have := hlal W.heap.size (by rw [← e, h5]); omega
  have hvx : v'.ownBlock ≠ some xb := hvf xb (by omega) f4
  have row : ∀ {C e sz y k zs}, W2.ownsRow C e sz y k zs → y.ownBlock ≠ some xb → (W2.setCell ⟨xb, 2, none⟩ v').ownsRow C e sz y k zs := fun ho hn => own_block ho (fun q hq => Below.heap_setCell _ _ _ _ (fun e => hn (by rw [hq]; exact congrArg some e)))
  have c2 := cell _ _ _ n2 h.x2
  refine ⟨v', W2, ls', ⟨x.name, s', x.runs ++ [z]⟩, h1, l1, ⟨curPost_set hv hC (by omega) (by omega), ⟨cell_beside (cell _ _ _ n0 z0) (by omega), cell_beside (cell _ _ _ n0 z1) (by omega), by simp [World.setCell]; omega, fun o => by rw [World.frozen?_setCell]; exact froz _ zl n0 zf o⟩,
    cell_beside (cell _ _ _ n1 h.c0) (by omega), cell_beside (cell _ _ _ n1 h.c1) (by omega), fun o => by rw [World.frozen?_setCell]; exact froz _ (by omega) n1 h.f o,
    cell_beside (cell _ _ _ n2 h.x0) (by omega), cell_beside (cell _ _ _ n2 h.x1) (by omega), World.cell?_setCell_same _ _ _ c2, fun o => by rw [World.frozen?_setCell]; exact froz _ (by omega) n2 h.xf o,
    row hst f1, l3.hole f2 f5 _, row (by show World.ownsRow _ _ _ _ _ s'.length _; rw [s1.1]; exact s2) f3, row (by show World.ownsRow _ _ _ _ _ (x.runs ++ [z]).length _; rw [List.length_append]; exact h2) hvx, ⟨h.xn.1, hvn⟩, hy, h.sB, fun q hq => ?_, h.ok.1, by rw [l1]; exact h.ok.2.1, l2, a1, by show s'.length ≤ 8; rw [s1.1]; exact a2, by simp; omega, like_in s1 hzz a4, fun r hr => by
      rcases List.mem_append.1 hr with hr | hr
      · exact a5 r hr
      · simp at hr; rw [hr]; exact hzz⟩, c2, froz _ (by omega) n2 h.xf, ?_⟩
  · obtain ⟨g1, g2, g3, g4, g5⟩ := h.far q hq
    exact ⟨g1, g2, g3, hvf q (by rcases hq with rfl | rfl <;> omega) g4, g5⟩
  · exact own_shape h2

theorem AnSt.noLines (h : AnSt w b n v nb xb B s0 la sx rx ss ls vs x W) (hv : CodeOff w b v) (hb : b < w.heap.size) (hBW : B ≤ W.heap.size) :
    AnSt w b n v nb xb B s0 (.slice (some ⟨W.heap.size, 0, none⟩) 0 0) sx rx ss [] [] x ((W.alloc (.cells #[] 36)).setCell ⟨nb, 1, none⟩ (.slice (some ⟨W.heap.size, 0, none⟩) 0 0)) := by
  have hy := h.hy
  have hlt := h.lt
  have hA := h.alloc (.cells #[] 36)
  obtain ⟨W1, hW1⟩ : ∃ W1 : World, W1 = W.alloc (.cells #[] 36) := ⟨_, rfl⟩
  have hnew : W1.heap[W.heap.size]? = some (.cells #[] 36 (0, 0)) := by rw [hW1]; exact heap_alloc_new W _
  have hsz : W1.heap.size = W.heap.size + 1 := by rw [hW1]; simp
  rw [← hW1] at hA ⊢
  obtain ⟨e1, e2, e3, e4, e5⟩ := h.far nb (.inl rfl)
  obtain ⟨z0, z1, zl, zf⟩ := hA.z
  have hk : ∀ q, q ≠ nb → (W1.setCell ⟨nb, 1, none⟩ (.slice (some ⟨W.heap.size, 0, none⟩) 0 0)).heap[q]? = W1.heap[q]? := fun q e => Below.heap_setCell _ _ _ _ e
  have row : ∀ {C e sz y k zs}, W1.ownsRow C e sz y k zs → y.ownBlock ≠ some nb → (W1.setCell ⟨nb, 1, none⟩ (.slice (some ⟨W.heap.size, 0, none⟩) 0 0)).ownsRow C e sz y k zs := fun ho hn => own_block ho (fun q hq => hk q (fun e => hn (by rw [hq, e])))
  have hold : ∀ {C e sz y k zs}, W.ownsRow C e sz y k zs → y.ownBlock = none ∨ y.ownBlock ≠ some W.heap.size := fun ho => .inr fun e => by have := (ho.lt _ e).2; omega
  have hown : (W1.setCell ⟨nb, 1, none⟩ (.slice (some ⟨W.heap.size, 0, none⟩) 0 0)).ownsRow B 36 3 (.slice (some ⟨W.heap.size, 0, none⟩) 0 0) 0 [] :=
    ⟨rfl, .inr ⟨W.heap.size, 0, #[], rfl, hBW, (hk _ (by omega)).trans hnew, Nat.le_refl _, by unfold maxLen; omega, rfl, rfl⟩⟩
  exact ⟨curPost_set hv hA.cur (by omega) (by omega), ⟨cell_beside z0 (by omega), cell_beside z1 (by omega), by simpa [World.setCell] using zl, fun o => by rw [World.frozen?_setCell]; exact zf o⟩, cell_beside hA.c0 (by omega), World.cell?_setCell_same _ _ _ hA.c1, fun o => by rw [World.frozen?_setCell]; exact hA.f o,
    cell_beside hA.x0 (by omega), cell_beside hA.x1 (by omega), cell_beside hA.x2 (by omega), fun o => by rw [World.frozen?_setCell]; exact hA.xf o, row hA.st e1, ⟨rfl, hown, fun j hj => by simp at hj⟩, row hA.xs e3, row hA.xr e4, ⟨hold h.xs, hold h.xr⟩, hy, h.sB, fun q hq => by
      obtain ⟨g1, g2, g3, g4, g5⟩ := h.far q hq
      exact ⟨g1, fun e => by simp [Value.ownBlock] at e; rcases hq with rfl | rfl <;> omega, g3, g4, fun p hp => by simp at hp⟩, h.ok.1, by simp, fun l hl => by simp at hl, h.ok.2.2.2⟩

theorem AnSt.appL (h : AnSt w b n v nb xb B s0 la sx rx ss ls vs x W) (hv : CodeOff w b v) (hb : b < w.heap.size) {g B1 : Nat} {name : ByteArray} {s r : Value} {l : LineD} (hy : ∀ j u, [Value.string name, s, r][j]? = some u → W.cell? ((⟨g, 0, none⟩ : Addr).add j) = some u) (hl : l.name = name)
    (hs : W.ownsRow B1 3 1 s l.stops.length (ints l.stops)) (hr : W.ownsRow B1 3 1 r l.runs.length (ints l.runs)) (hB : B ≤ B1) (hB1 : B1 ≤ W.heap.size) (hnx : nb < B1 ∧ xb < B1) (hla : ∀ q, la.ownBlock = some q → q < B1) (hn : ls.length ≤ 11) (hok : AnyLn l) :
    ∃ v' W2, (Builtin.append_ #[25, 25] 25 #[la, .slice (some ⟨g, 0, none⟩) 1 1]).run Try.prog W = .ok v' W2 ∧ AnSt w b n v nb xb B s0 v' sx rx ss (ls ++ [l]) (vs ++ [(s, r)]) x (W2.setCell ⟨nb, 1, none⟩ v') ∧ W2.cell? ⟨nb, 1, none⟩ = some la ∧ W2.cell? ⟨nb, 0, none⟩ = some s0 ∧ (∀ o, W2.frozen? ⟨nb, o, none⟩ = false) ∧ ∃ g3 c3, v' = .slice (some ⟨g3, 0, none⟩) (ls.length + 1) c3 := by
  have hy0 := h.hy
  have hlt := h.lt
  have hs1 : s.oneCell' = true := by obtain ⟨_, _, rfl⟩ := own_shape hs; rfl
  have hr1 : r.oneCell' = true := by obtain ⟨_, _, rfl⟩ := own_shape hr; rfl
  obtain ⟨v', W2, h1, h2, h3, h5⟩ := run_append_line W B la ls vs h.own.2.1 g _ _ _ hy (by intro u hu; simp at hu; rcases hu with rfl | rfl | rfl; rfl; exact hs1; exact hr1) (by omega) (by omega)
  obtain ⟨f1, f2, f3, f4, f5⟩ := h.far xb (.inr rfl)
  obtain ⟨e1, e2, e3, e4, e5⟩ := h.far nb (.inl rfl)
  have hsz := h3.size
  have hlB : ∀ q, la.ownBlock = some q → B ≤ q := fun q hq => (h.own.2.1.lt q hq).1
  have hC : CurPost w b n v W2 := cur_grown hv hb h.cur h3 (fun q hq => by have := hlB q hq; omega)
  have hO : OwnLsV B W2 v' (ls ++ [l]) (vs ++ [(s, r)]) := OwnLsV.snocU h.own hs hr hB hla (by rw [hl]; exact h2) h3 h5
  have cell : ∀ q o u, some q ≠ la.ownBlock → W.cell? ⟨q, o, none⟩ = some u → W2.cell? ⟨q, o, none⟩ = some u := fun q o u hq hu => h3.cell (a := ⟨q, o, none⟩) hu hq
  have froz : ∀ q, q < W.heap.size → some q ≠ la.ownBlock → (∀ o, W.frozen? ⟨q, o, none⟩ = false) → ∀ o, W2.frozen? ⟨q, o, none⟩ = false := fun q hlt hq hu o => by rw [h3.frozen_far ⟨q, o, none⟩ hlt hq]; exact hu o
  have n1 : some nb ≠ la.ownBlock := fun e => e2 e.symm
  have n2 : some xb ≠ la.ownBlock := fun e => f2 e.symm
  have n0 : some w.heap.size ≠ la.ownBlock := fun e => by have := hlB _ e.symm; omega
  obtain ⟨z0, z1, zl, zf⟩ := h.z
  have hst : W2.ownsRow (w.heap.size + 1) 9 1 s0 ss.length (strs ss) := own_block h.st (fun q hq => h3.block q (h.st.lt q hq).2 (fun e => by have := hlB q e.symm; have := h.sB q hq; omega))
  have hvf : ∀ q, q < W.heap.size → la.ownBlock ≠ some q → v'.ownBlock ≠ some q := fun q hq hne e => by
    rcases h5 with h5 | h5
    · exact hne (by rw [← h5, e])
    · rw [h5] at e; simp at e; omega
  have hvn : ∀ {y : Value} {k : Nat} {zs : List Value}, W.ownsRow B 3 1 y k zs → (y.ownBlock = none ∨ y.ownBlock ≠ la.ownBlock) → (y.ownBlock = none ∨ y.ownBlock ≠ v'.ownBlock) := fun ho hn => by
    rcases h5 with h5 | h5
    · rw [h5]; exact hn
    · refine .inr fun e => ?_
      have := (ho.lt W.heap.size (by rw [e, h5])).2; omega
  have row : ∀ {C e sz y k zs}, W2.ownsRow C e sz y k zs → y.ownBlock ≠ some nb → (W2.setCell ⟨nb, 1, none⟩ v').ownsRow C e sz y k zs := fun ho hn => own_block ho (fun q hq => Below.heap_setCell _ _ _ _ (fun e => hn (by rw [hq]; exact congrArg some e)))
  have c1 := cell _ _ _ n1 h.c1
  have hsf : ∀ q, q < B1 → s.ownBlock ≠ some q ∧ r.ownBlock ≠ some q := fun q hq => ⟨fun e => by have := (hs.lt q e).1; omega, fun e => by have := (hr.lt q e).1; omega⟩
  have hall : ∀ q, (q = nb ∨ q = xb) → v'.ownBlock ≠ some q ∧ ∀ p ∈ vs ++ [(s, r)], p.1.ownBlock ≠ some q ∧ p.2.ownBlock ≠ some q := fun q hq => by
    obtain ⟨g1, g2, g3, g4, g5⟩ := h.far q hq
    refine ⟨hvf q (by rcases hq with rfl | rfl <;> omega) g2, fun p hp => ?_⟩
    rcases List.mem_append.1 hp with hp | hp
    · exact g5 p hp
    · simp at hp; subst hp; exact hsf q (by rcases hq with rfl | rfl <;> omega)
  refine ⟨v', W2, h1, ⟨curPost_set hv hC (by omega) (by omega), ⟨cell_beside (cell _ _ _ n0 z0) (by omega), cell_beside (cell _ _ _ n0 z1) (by omega), by simp [World.setCell]; omega, fun o => by rw [World.frozen?_setCell]; exact froz _ zl n0 zf o⟩,
    cell_beside (cell _ _ _ n1 h.c0) (by omega), World.cell?_setCell_same _ _ _ c1, fun o => by rw [World.frozen?_setCell]; exact froz _ (by omega) n1 h.f o,
    cell_beside (cell _ _ _ n2 h.x0) (by omega), cell_beside (cell _ _ _ n2 h.x1) (by omega), cell_beside (cell _ _ _ n2 h.x2) (by omega), fun o => by rw [World.frozen?_setCell]; exact froz _ (by omega) n2 h.xf o,
    row hst e1, hO.hole (hall nb (.inl rfl)).1 (hall nb (.inl rfl)).2 _, row (h.xs.kept h3 h.xn.1) e3, row (h.xr.kept h3 h.xn.2) e4, ⟨hvn h.xs h.xn.1, hvn h.xr h.xn.2⟩, hy0, h.sB, fun q hq => ?_, h.ok.1, by simp; omega, fun y hy => by
      rcases List.mem_append.1 hy with hy | hy
      · exact h.ok.2.2.1 y hy
      · simp at hy; subst hy; exact hok, h.ok.2.2.2⟩, c1, cell _ _ _ n1 h.c0, froz _ (by omega) n1 h.f, ?_⟩
  · obtain ⟨g1, g2, g3, g4, g5⟩ := h.far q hq
    exact ⟨g1, (hall q hq).1, g3, g4, (hall q hq).2⟩
  · rcases h2.2 with ⟨hv, h0⟩ | ⟨g, cap, cur, hv, _⟩
    · omega
    · exact ⟨g, cap, hv⟩

theorem AnSt.put {gl cl : Nat} (h : AnSt w b n v nb xb B s0 (.slice (some ⟨gl, 0, none⟩) ls.length cl) sx rx ss ls vs x W) (hv : CodeOff w b v) (hb : b < w.heap.size) (k : Nat) (hk : k < ls.length) :
    AnSt w b n v nb xb B s0 (.slice (some ⟨gl, 0, none⟩) ls.length cl) sx rx ss (ls.set k x) (vs.set k (sx, rx)) x (((W.setCell ⟨gl, k * 3, none⟩ (.string x.name)).setCell ⟨gl, k * 3 + 1, none⟩ sx).setCell ⟨gl, k * 3 + 2, none⟩ rx) := by
  have hy := h.hy
  have hg := h.own.2.1.lt gl rfl
  obtain ⟨f1, f2, f3, f4, f5⟩ := h.far xb (.inr rfl)
  obtain ⟨e1, e2, e3, e4, e5⟩ := h.far nb (.inl rfl)
  have hx : gl ≠ xb := fun e => f2 (by rw [← e]; rfl)
  have hn : gl ≠ nb := fun e => e2 (by rw [← e]; rfl)
  obtain ⟨z0, z1, zl, zf⟩ := h.z
  have hO := h.own.setLine k hk x (sx, rx) h.xs h.xr h.xn.1 h.xn.2
  have hq : ∀ q, q ≠ gl → (((W.setCell ⟨gl, k * 3, none⟩ (.string x.name)).setCell ⟨gl, k * 3 + 1, none⟩ sx).setCell ⟨gl, k * 3 + 2, none⟩ rx).heap[q]? = W.heap[q]? := fun q hq => by
    rw [Below.heap_setCell _ _ _ _ (show q ≠ gl from hq), Below.heap_setCell _ _ _ _ (show q ≠ gl from hq), Below.heap_setCell _ _ _ _ (show q ≠ gl from hq)]
  have row : ∀ {C e sz y k' zs}, W.ownsRow C e sz y k' zs → (y.ownBlock = none ∨ y.ownBlock ≠ some gl) → (((W.setCell ⟨gl, k * 3, none⟩ (.string x.name)).setCell ⟨gl, k * 3 + 1, none⟩ sx).setCell ⟨gl, k * 3 + 2, none⟩ rx).ownsRow C e sz y k' zs := fun ho hn => own_block ho (fun q e => hq q (fun e' => by subst e'; rcases hn with hn | hn; rw [hn] at e; cases e; exact hn e))
  have c3 : ∀ {q o u}, q ≠ gl → W.cell? ⟨q, o, none⟩ = some u → (((W.setCell ⟨gl, k * 3, none⟩ (.string x.name)).setCell ⟨gl, k * 3 + 1, none⟩ sx).setCell ⟨gl, k * 3 + 2, none⟩ rx).cell? ⟨q, o, none⟩ = some u := fun hq hu => cell_beside (cell_beside (cell_beside hu (.inl hq)) (.inl hq)) (.inl hq)
  refine ⟨curPost_set hv (curPost_set hv (curPost_set hv h.cur (by omega) (by omega)) (by omega) (by omega)) (by omega) (by omega), ⟨c3 (by omega) z0, c3 (by omega) z1, by simpa [World.setCell] using zl, fun o => by simp only [World.frozen?_setCell]; exact zf o⟩, c3 (by omega) h.c0, c3 (by omega) h.c1, fun o => by simp only [World.frozen?_setCell]; exact h.f o,
    c3 (by omega) h.x0, c3 (by omega) h.x1, c3 (by omega) h.x2, fun o => by simp only [World.frozen?_setCell]; exact h.xf o, row h.st (.inr fun e => by have := h.sB _ e; omega), hO, row h.xs h.xn.1, row h.xr h.xn.2, h.xn, hy, h.sB, fun q hq => ?_, h.ok.1, by rw [List.length_set]; exact h.ok.2.1, fun l hl => ?_, h.ok.2.2.2⟩
  · obtain ⟨g1, g2, g3, g4, g5⟩ := h.far q hq
    refine ⟨g1, g2, g3, g4, fun p hp => ?_⟩
    rcases List.mem_or_eq_of_mem_set hp with hp | hp
    · exact g5 p hp
    · rw [hp]; exact ⟨g3, g4⟩
  · rcases List.mem_or_eq_of_mem_set hl with hl | hl
    · exact h.ok.2.2.1 l hl
    · rw [hl]; exact h.ok.2.2.2

theorem AnSt.fin (h : AnSt w b n v nb xb B s0 la sx rx ss ls vs x W) (hv : CodeOff w b v) (hb : b < w.heap.size) :
    NetL (w.heap.size + 1) W.heap.size ((W.setCell ⟨w.heap.size, 0, none⟩ s0).setCell ⟨w.heap.size, 1, none⟩ la) (.agg #[s0, la]) ⟨ss, ls⟩ ∧ CurPost w b n v ((W.setCell ⟨w.heap.size, 0, none⟩ s0).setCell ⟨w.heap.size, 1, none⟩ la) ∧ (∃ a c, s0 = .slice a ss.length c) ∧ ∃ a c, la = .slice a ls.length c := by
  have hy := h.hy
  have h0 := ownsRow_setCell_below (ownsRow_setCell_below h.st (a := ⟨w.heap.size, 0, none⟩) (by dsimp only; omega) s0) (a := ⟨w.heap.size, 1, none⟩) (by dsimp only; omega) la
  have h1 := (h.own.set (p := ⟨w.heap.size, 0, none⟩) (by dsimp only; omega) s0).set (p := ⟨w.heap.size, 1, none⟩) (by dsimp only; omega) la
  have hz : ((W.setCell ⟨w.heap.size, 0, none⟩ s0).setCell ⟨w.heap.size, 1, none⟩ la).heap.size = W.heap.size := by simp [World.setCell]
  refine ⟨fun W' hz' hW => ⟨_, _, rfl, rowAt_own (own_block h0 (fun g hg => hW g (h0.lt g hg).1 (by have := (h0.lt g hg).2; omega) (h0.lt g hg).2)), OwnLs.at ⟨vs, h1.keep (fun q h1 h2 => hW q (by omega) (by omega) h2)⟩⟩, curPost_set hv (curPost_set hv h.cur (Nat.le_refl _) (by omega)) (Nat.le_refl _) (by omega), own_shape h.st, own_shape h.own.2.1⟩
end
end Go.Proofs.Ytemejcbilhcebaa
