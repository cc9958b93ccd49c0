import Derived.Test.YtemejcbilhcebaaMk16
import Derived.Deep.AppendLies
import Derived.OrdersHeld
import Derived.Deep.RegionHeld
namespace Go.Proofs.Ytemejcbilhcebaa
open Go.RowKit
set_option linter.unusedVariables false
set_option linter.unusedSimpArgs false

theorem net_lineO {w : World} {a : Option Addr} {c : Nat} {a' : Option Addr} {c' : Nat} {n : NetD} (h : NetAt w (.agg #[.slice a n.stops.length c, .slice a' n.lines.length c']) n) (k : Nat) (hk : k < n.lines.length) :
    ∃ b off s0 s1 r0 r1, a' = some ⟨b, off, none⟩ ∧ b < w.heap.size ∧ w.cell? ⟨b, off + k * 3, none⟩ = some (.string n.lines[k].name) ∧ w.cell? ⟨b, off + k * 3 + 1, none⟩ = some (.slice s0 n.lines[k].stops.length s1) ∧ w.cell? ⟨b, off + k * 3 + 2, none⟩ = some (.slice r0 n.lines[k].runs.length r1) ∧
      RowAt w (.slice s0 n.lines[k].stops.length s1) (ints n.lines[k].stops) ∧ RowAt w (.slice r0 n.lines[k].runs.length r1) (ints n.lines[k].runs) := by
  obtain ⟨s, l, he, h1, h2⟩ := h
  simp at he
  obtain ⟨rfl, rfl⟩ := he
  obtain ⟨a2, c2, he, _, _, HC⟩ := lines_open h2
  simp at he
  obtain ⟨rfl, rfl⟩ := he
  obtain ⟨b, off, ha, hlt, hla⟩ := HC.out k hk
  obtain ⟨sv, rv, c0, c1, c2', r1, r2⟩ := hla
  obtain ⟨s0, s1, rfl⟩ := IntS_open r1
  obtain ⟨q0, q1, rfl⟩ := IntS_open r2
  exact ⟨b, off, s0, s1, q0, q1, ha, hlt, c0, c1, c2', r1, r2⟩

set_option maxRecDepth 100000 in
theorem l1Own_any (v : Value) (xs : List Int) (w : World) (hr : RowAt w v (ints xs)) (h1 : 1 ≤ xs.length) (h2 : xs.length ≤ 1048576) :
    Calls Try.prog 99 #[v] w fun e w' => ∃ g c, e = .returned (.slice (some ⟨g, 0, none⟩) xs.length c) ∧ w'.ownsRow w.heap.size 3 1 (.slice (some ⟨g, 0, none⟩) xs.length c) xs.length (ints xs) ∧ Below w.heap.size w w' := by
  obtain ⟨a, c, rfl, hc, hm, HC⟩ := ints_open hr
  obtain ⟨b, off, rfl, hb, -⟩ := HC.out 0 (by omega)
  have HR := Lib.hid hr
  clear hr
  obtain ⟨i0, hi0, hz0, hz1, hz2⟩ := info_parts infoInt
  have hlit := World.ownsRow_lit (base := w.heap.size) (e := 3) (size := 1) w #[] 0 (Nat.le_refl _) (by decide) (by simp)
  have HLit := Lib.hid hlit
  clear hlit
  go_enter Try.func99, Try.ntmps99
  go_wp2_with (at_builtin; refine wpList_append_lies _ rfl _ _ 34 rfl w.heap.size 3 i0 (.int .i64 0) 1 8 Try.underlying34 hi0 hz0 hz1 hz2 rfl (by decide) _ _ _ rfl HLit.out ⟨b, off, none⟩ xs.length c (ints xs) rfl ?c1 ?c2 ?c3 ?c4 ?c5 ?c6 ?c7 _ rfl ?_)
  case c1 => rw [ints_len]; try omega
  case c2 =>
    intro j u hu
    obtain ⟨_, _, he, _, _, hcell⟩ := HR.out
    simp [ints_len] at he
    obtain ⟨rfl, rfl⟩ := he
    obtain ⟨b', o', he, hlt, hc'⟩ := hcell j u hu
    simp at he
    obtain ⟨rfl, rfl⟩ := he
    try rw [addr_add]
    first | exact hc' | exact acell hc' _
  case c3 => intro u hu; obtain ⟨z, _, rfl⟩ := List.mem_map.1 hu; rfl
  case c4 => omega
  case c5 => unfold maxLen; omega
  case c6 => omega
  intro g c2 w2 hown hg hat hlt
  have HO : Hid (w2.ownsRow w.heap.size 3 1 (.slice (some ⟨g, 0, none⟩) xs.length c2) xs.length (ints xs)) := by
    show World.ownsRow _ _ _ _ _ _ _
    simpa using hown
  have HB : Hid (Below w.heap.size w w2) := ((Below.refl _ _).alloc (Nat.le_refl _) _).grown hg (by simp) (fun g' hg' => by simp [Value.ownBlock] at hg'; omega)
  try rw [Nat.zero_add] at *
  clear hown hg hat hlt
  go_wp2_with fail
  go_ret
  exact ⟨g, c2, rfl, HO.out, HB.out⟩

theorem infoStr5 : (Try.prog.info? 9).map (fun i => (i.zero, i.size, i.bytes)) = some (some (.string ByteArray.empty), 1, 16) := by kernel_rfl
theorem infoLine5 : (Try.prog.info? 36).map (fun i => (i.zero, i.size, i.bytes)) = some (some (.agg #[.string ⟨#[]⟩, .slice none 0 0, .slice none 0 0]), 3, 64) := by kernel_rfl

def lnC : List LineD → List (Value × Value) → List Value
  | l :: ls, p :: vs => .string l.name :: p.1 :: p.2 :: lnC ls vs
  | _, _ => []
theorem lnC_append : ∀ (ls : List LineD) (vs : List (Value × Value)) (l : LineD) (p : Value × Value), vs.length = ls.length → lnC (ls ++ [l]) (vs ++ [p]) = lnC ls vs ++ [.string l.name, p.1, p.2]
  | [], [], l, p, _ => rfl
  | l :: ls, q :: vs, l', p, h => by simp only [List.cons_append, lnC]; rw [lnC_append ls vs l' p (by simpa using h)]
theorem lnC_get : ∀ (ls : List LineD) (vs : List (Value × Value)) (j : Nat) (h : j < ls.length) (h' : j < vs.length), (lnC ls vs)[j * 3]? = some (.string ls[j].name) ∧ (lnC ls vs)[j * 3 + 1]? = some vs[j].1 ∧ (lnC ls vs)[j * 3 + 2]? = some vs[j].2
  | l :: ls, q :: vs, 0, _, _ => ⟨rfl, rfl, rfl⟩
  | l :: ls, q :: vs, j + 1, h, h' => by
    have := lnC_get ls vs j (by simpa using h) (by simpa using h')
    rw [show (j + 1) * 3 = j * 3 + 1 + 1 + 1 by omega, show j * 3 + 1 + 1 + 1 + 1 = j * 3 + 1 + 1 + 1 + 1 from rfl, show j * 3 + 1 + 1 + 1 + 2 = j * 3 + 2 + 1 + 1 + 1 by omega]
    simpa [lnC] using this

def OwnLs (B : Nat) (w : World) (v : Value) (ls : List LineD) : Prop := ∃ vs : List (Value × Value), vs.length = ls.length ∧ w.ownsRow B 36 3 v ls.length (lnC ls vs) ∧
  ∀ j (h : j < ls.length) (h' : j < vs.length), (w.ownsRow B 3 1 vs[j].1 ls[j].stops.length (ints ls[j].stops) ∧ w.ownsRow B 3 1 vs[j].2 ls[j].runs.length (ints ls[j].runs)) ∧ (vs[j].1.ownBlock = none ∨ vs[j].1.ownBlock ≠ v.ownBlock) ∧ (vs[j].2.ownBlock = none ∨ vs[j].2.ownBlock ≠ v.ownBlock)
theorem OwnLs.nil (B : Nat) (w : World) : OwnLs B w (.slice none 0 0) [] := ⟨[], rfl, World.ownsRow_nil _ _ _ _, fun j h => by simp at h⟩
theorem OwnLs.later {B : Nat} {w w' : World} {v : Value} {ls : List LineD} (h : OwnLs B w v ls) (hb : Below w.heap.size w w') : OwnLs B w' v ls := by
  obtain ⟨vs, h1, h2, h3⟩ := h
  exact ⟨vs, h1, own_later h2 hb, fun j hj hj' => ⟨⟨own_later (h3 j hj hj').1.1 hb, own_later (h3 j hj hj').1.2 hb⟩, (h3 j hj hj').2⟩⟩
theorem OwnLs.set {B : Nat} {w : World} {v : Value} {ls : List LineD} (h : OwnLs B w v ls) {p : Addr} (hp : p.block < B) (u : Value) : OwnLs B (w.setCell p u) v ls := by
  obtain ⟨vs, h1, h2, h3⟩ := h
  exact ⟨vs, h1, ownsRow_setCell_below h2 hp u, fun j hj hj' => ⟨⟨ownsRow_setCell_below (h3 j hj hj').1.1 hp u, ownsRow_setCell_below (h3 j hj hj').1.2 hp u⟩, (h3 j hj hj').2⟩⟩

def OwnLsV (B : Nat) (w : World) (v : Value) (ls : List LineD) (vs : List (Value × Value)) : Prop := vs.length = ls.length ∧ w.ownsRow B 36 3 v ls.length (lnC ls vs) ∧
  ∀ j (h : j < ls.length) (h' : j < vs.length), (w.ownsRow B 3 1 vs[j].1 ls[j].stops.length (ints ls[j].stops) ∧ w.ownsRow B 3 1 vs[j].2 ls[j].runs.length (ints ls[j].runs)) ∧ (vs[j].1.ownBlock = none ∨ vs[j].1.ownBlock ≠ v.ownBlock) ∧ (vs[j].2.ownBlock = none ∨ vs[j].2.ownBlock ≠ v.ownBlock)
theorem OwnLs.snocV {B : Nat} {w0 w w' : World} {v : Value} {ls : List LineD} {l : LineD} {s r : Value} {g c : Nat} {vs : List (Value × Value)} (h1 : vs.length = ls.length) (h2 : w0.ownsRow B 36 3 v ls.length (lnC ls vs))
    (h3 : ∀ j (h : j < ls.length) (h' : j < vs.length), (w0.ownsRow B 3 1 vs[j].1 ls[j].stops.length (ints ls[j].stops) ∧ w0.ownsRow B 3 1 vs[j].2 ls[j].runs.length (ints ls[j].runs)) ∧ (vs[j].1.ownBlock = none ∨ vs[j].1.ownBlock ≠ v.ownBlock) ∧ (vs[j].2.ownBlock = none ∨ vs[j].2.ownBlock ≠ v.ownBlock))
    (hB : B ≤ w0.heap.size) (hb : Below w0.heap.size w0 w) (hs : w.ownsRow w0.heap.size 3 1 s l.stops.length (ints l.stops)) (hr : w.ownsRow w0.heap.size 3 1 r l.runs.length (ints l.runs))
    (hn : w'.ownsRow B 36 3 (.slice (some ⟨g, 0, none⟩) (ls.length + 1) c) (ls.length + 1) (lnC ls vs ++ [.string l.name, s, r]))
    (hg : w.grownBy w' v.ownBlock) (hat : v.ownBlock = some g ∨ g = w.heap.size) : OwnLsV B w' (.slice (some ⟨g, 0, none⟩) (ls.length + 1) c) (ls ++ [l]) (vs ++ [(s, r)]) := by
  have hfar : ∀ (x : Value) (m : Nat) (zs : List Value), w.ownsRow w0.heap.size 3 1 x m zs → (x.ownBlock = none ∨ x.ownBlock ≠ v.ownBlock) := fun x m zs hx => by
    rcases hxe : x.ownBlock with _ | q
    · exact .inl rfl
    · refine .inr fun e => ?_
      have := (hx.lt q hxe).1
      have := (h2.lt q e.symm).2
      omega
  have hne : ∀ (x : Value) (m : Nat) (zs : List Value) (B' : Nat), w.ownsRow B' 3 1 x m zs → (x.ownBlock = none ∨ x.ownBlock ≠ v.ownBlock) → (x.ownBlock = none ∨ x.ownBlock ≠ (Value.slice (some ⟨g, 0, none⟩) (ls.length + 1) c).ownBlock) := fun x m zs B' hx hv => by
    rcases hv with hv | hv
    · exact .inl hv
    · refine .inr fun e => ?_
      have e' : x.ownBlock = some g := e
      rcases hat with ha | ha
      · exact hv (by rw [e', ha])
      · have := (hx.lt g e').2; omega
  refine ⟨by simp [h1], ?_, fun j hj hj' => ?_⟩
  · rw [lnC_append ls vs l (s, r) h1, List.length_append]; exact hn
  · by_cases e : j < ls.length
    · have e' : j < vs.length := by omega
      have := h3 j e e'
      have k1 := own_later this.1.1 hb
      have k2 := own_later this.1.2 hb
      simp only [List.getElem_append_left e, List.getElem_append_left e']
      exact ⟨⟨k1.kept hg this.2.1, k2.kept hg this.2.2⟩, hne _ _ _ _ k1 this.2.1, hne _ _ _ _ k2 this.2.2⟩
    · have e1 : j = ls.length := by simp at hj; omega
      subst e1
      have e2 : (ls ++ [l])[ls.length]'hj = l := by simp
      have e3 : (vs ++ [(s, r)])[ls.length]'hj' = (s, r) := by rw [List.getElem_append_right (by omega)]; simp [h1]
      rw [e2, e3]
      exact ⟨⟨(own_base hs hB).kept hg (hfar _ _ _ hs), (own_base hr hB).kept hg (hfar _ _ _ hr)⟩, hne _ _ _ _ hs (hfar _ _ _ hs), hne _ _ _ _ hr (hfar _ _ _ hr)⟩
theorem OwnLs.snoc5 {B : Nat} {w0 w w' : World} {v : Value} {ls : List LineD} {l : LineD} {s r : Value} {g c : Nat} {vs : List (Value × Value)} (h1 : vs.length = ls.length) (h2 : w0.ownsRow B 36 3 v ls.length (lnC ls vs))
    (h3 : ∀ j (h : j < ls.length) (h' : j < vs.length), (w0.ownsRow B 3 1 vs[j].1 ls[j].stops.length (ints ls[j].stops) ∧ w0.ownsRow B 3 1 vs[j].2 ls[j].runs.length (ints ls[j].runs)) ∧ (vs[j].1.ownBlock = none ∨ vs[j].1.ownBlock ≠ v.ownBlock) ∧ (vs[j].2.ownBlock = none ∨ vs[j].2.ownBlock ≠ v.ownBlock))
    (hB : B ≤ w0.heap.size) (hb : Below w0.heap.size w0 w) (hs : w.ownsRow w0.heap.size 3 1 s l.stops.length (ints l.stops)) (hr : w.ownsRow w0.heap.size 3 1 r l.runs.length (ints l.runs))
    (hn : w'.ownsRow B 36 3 (.slice (some ⟨g, 0, none⟩) (ls.length + 1) c) (ls.length + 1) (lnC ls vs ++ [.string l.name, s, r]))
    (hg : w.grownBy w' v.ownBlock) (hat : v.ownBlock = some g ∨ g = w.heap.size) : OwnLs B w' (.slice (some ⟨g, 0, none⟩) (ls.length + 1) c) (ls ++ [l]) :=
  ⟨_, OwnLs.snocV h1 h2 h3 hB hb hs hr hn hg hat⟩

theorem OwnLsV.hole {B x i : Nat} {w : World} {v : Value} {ls : List LineD} {vs : List (Value × Value)} (h : OwnLsV B w v ls vs) (hv : v.ownBlock ≠ some x) (hx : ∀ p ∈ vs, p.1.ownBlock ≠ some x ∧ p.2.ownBlock ≠ some x) (u : Value) : OwnLsV B (w.setCell ⟨x, i, none⟩ u) v ls vs := by
  obtain ⟨h1, h2, h3⟩ := h
  have ho : ∀ {e : TypeId} {sz : Nat} {y : Value} {m : Nat} {zs : List Value}, w.ownsRow B e sz y m zs → y.ownBlock ≠ some x → (w.setCell ⟨x, i, none⟩ u).ownsRow B e sz y m zs := fun hy hne => own_block hy (fun g hg => Below.heap_setCell _ _ _ _ (fun e => hne (by rw [hg, e])))
  exact ⟨h1, ho h2 hv, fun j hj hj' => ⟨⟨ho (h3 j hj hj').1.1 (hx _ (List.getElem_mem hj')).1, ho (h3 j hj hj').1.2 (hx _ (List.getElem_mem hj')).2⟩, (h3 j hj hj').2⟩⟩
theorem OwnLsV.far {B : Nat} {w : World} {v : Value} {ls : List LineD} {vs : List (Value × Value)} (h : OwnLsV B w v ls vs) (x : Nat) (hx : w.heap.size ≤ x) : v.ownBlock ≠ some x ∧ ∀ p ∈ vs, p.1.ownBlock ≠ some x ∧ p.2.ownBlock ≠ some x := by
  obtain ⟨h1, h2, h3⟩ := h
  refine ⟨fun e => by have := (h2.lt x e).2; omega, fun p hp => ?_⟩
  obtain ⟨j, hj, rfl⟩ := List.getElem_of_mem hp
  have := h3 j (by omega) hj
  exact ⟨fun e => by have := (this.1.1.lt x e).2; omega, fun e => by have := (this.1.2.lt x e).2; omega⟩
theorem OwnLsV.later {B : Nat} {w w' : World} {v : Value} {ls : List LineD} {vs : List (Value × Value)} (h : OwnLsV B w v ls vs) (hb : Below w.heap.size w w') : OwnLsV B w' v ls vs := by
  obtain ⟨h1, h2, h3⟩ := h
  exact ⟨h1, own_later h2 hb, fun j hj hj' => ⟨⟨own_later (h3 j hj hj').1.1 hb, own_later (h3 j hj hj').1.2 hb⟩, (h3 j hj hj').2⟩⟩
theorem OwnLs.at {B : Nat} {w : World} {v : Value} {ls : List LineD} (h : OwnLs B w v ls) : LinesAt w v ls := by
  obtain ⟨vs, h1, h2, h3⟩ := h
  have hc := fun g hg => h2.cells (g := g) hg
  have hl := h2.lt
  obtain ⟨hn, h4⟩ := h2
  rcases h4 with ⟨hv, h0⟩ | ⟨g, cap, cur, hv, hg, hh, h5, h6, _⟩
  · have : ls = [] := List.eq_nil_of_length_eq_zero h0
    subst this
    exact ⟨none, 0, hv, Nat.le_refl _, by decide, fun k l hl => by simp at hl⟩
  · refine ⟨_, cap, hv, h5, h6, fun k l hk => ?_⟩
    have hkl := (List.getElem?_eq_some_iff.1 hk).1
    have hke := (List.getElem?_eq_some_iff.1 hk).2
    have hkv : k < vs.length := by omega
    obtain ⟨c0, c1, c2⟩ := lnC_get ls vs k hkl hkv
    have hcell : ∀ j u, (lnC ls vs)[j]? = some u → w.cell? ⟨g, j, none⟩ = some u := fun j u hu => by
      have := hc g (by rw [hv]; rfl) j u hu
      rw [addr_add, Nat.zero_add] at this; exact this
    refine ⟨g, 0, rfl, (hl g (by rw [hv]; rfl)).2, ?_⟩
    rw [Nat.zero_add, ← hke]
    exact ⟨_, _, hcell _ _ c0, hcell _ _ c1, hcell _ _ c2, rowAt_own (h3 k hkl hkv).1.1, rowAt_own (h3 k hkl hkv).1.2⟩
theorem OwnLs.keep {B : Nat} {w W : World} {v : Value} {ls : List LineD} (h : OwnLs B w v ls) (hq : ∀ q, B ≤ q → q < w.heap.size → W.heap[q]? = w.heap[q]?) : OwnLs B W v ls := by
  obtain ⟨vs, h1, h2, h3⟩ := h
  have ho : ∀ {e : TypeId} {sz : Nat} {x : Value} {m : Nat} {zs : List Value}, w.ownsRow B e sz x m zs → W.ownsRow B e sz x m zs := fun hx => own_block hx (fun g hg => hq g (hx.lt g hg).1 (hx.lt g hg).2)
  exact ⟨vs, h1, ho h2, fun j hj hj' => ⟨⟨ho (h3 j hj hj').1.1, ho (h3 j hj hj').1.2⟩, (h3 j hj hj').2⟩⟩

def NetL (l u : Nat) (w : World) (v : Value) (n : NetD) : Prop := ∀ W : World, w.heap.size ≤ W.heap.size → (∀ q, l ≤ q → q < u → q < w.heap.size → W.heap[q]? = w.heap[q]?) → NetAt W v n
theorem keepL5 {W w w' : World} {p0 p1 p2 p3 : Addr} {x0 x1 x2 x3 : Value} (hb : Below w.heap.size w w') (h : w.cell? p0 = some x0 ∧ w.cell? p1 = some x1 ∧ w.cell? p2 = some x2 ∧ w.cell? p3 = some x3 ∧ Below W.heap.size W w) :
    w'.cell? p0 = some x0 ∧ w'.cell? p1 = some x1 ∧ w'.cell? p2 = some x2 ∧ w'.cell? p3 = some x3 ∧ Below W.heap.size W w' := by
  obtain ⟨h0, h1, h2, h3, hl⟩ := h
  exact ⟨bkeep hb h0, bkeep hb h1, bkeep hb h2, bkeep hb h3, hl.trans (hb.mono hl.size)⟩
theorem belL5 {W w : World} {p0 p1 p2 p3 : Addr} {x0 x1 x2 x3 : Value} (h : w.cell? p0 = some x0 ∧ w.cell? p1 = some x1 ∧ w.cell? p2 = some x2 ∧ w.cell? p3 = some x3 ∧ Below W.heap.size W w) : Below W.heap.size W w := h.2.2.2.2
theorem set_otherB5 {w : World} {b b' i o : Nat} {u : Value} (h : b' ≠ b) : (w.setCell ⟨b, i, none⟩ u).cell? ⟨b', o, none⟩ = w.cell? ⟨b', o, none⟩ :=
  World.cell?_setCell_other _ _ _ _ (fun e => h (congrArg Addr.block e).symm)
theorem cell_heap5 {w : World} {b o : Nat} {cs : Array Value} {t : TypeId} {v : Value} (h : w.heap[b]? = some (.cells cs t (0, 0))) (hv : cs[o]? = some v) : w.cell? ⟨b, o, none⟩ = some v := by
  rw [cell_of_row w b o cs t (0, 0) h]; exact hv
theorem news5 (w : World) (a b c : Value) {t : TypeId} : ∀ j x, [a, b, c][j]? = some x → (w.alloc (.cells #[a, b, c] t)).cell? ((⟨w.heap.size, 0, none⟩ : Addr).add j) = some x :=
  World.news_of_block (cs := #[a, b, c]) (t := t) (fr := (0, 0)) (show (w.heap.push _)[w.heap.size]? = _ from Array.getElem?_push_size)

set_option maxRecDepth 100000 in
set_option maxHeartbeats 8000000 in
theorem l2OwnO_any (v : Value) (n : NetD) (w : World) (hr : NetAt w v n) (hg : NetGood n) :
    Calls Try.prog 50 #[v] w fun e w' => ∃ gS cS oa oc B, e = .returned (.agg #[.slice (some ⟨gS, 0, none⟩) n.stops.length cS, .slice oa n.lines.length oc]) ∧ w'.ownsRow w.heap.size 9 1 (.slice (some ⟨gS, 0, none⟩) n.stops.length cS) n.stops.length (strs n.stops) ∧
      OwnLs B w' (.slice oa n.lines.length oc) n.lines ∧ w.heap.size ≤ B ∧ gS < B ∧ Below w.heap.size w w' := by
  have HAt := Lib.hid hr
  obtain ⟨sa, sc, la, c', rfl, hss, hll⟩ := net_open hr
  have HG := Lib.hid hg
  obtain ⟨hn1, hn2, hn3, hn4⟩ := hg.1
  obtain ⟨_, _, he, hsc, hsm, HS⟩ := strs_open hss
  simp at he
  obtain ⟨rfl, rfl⟩ := he
  obtain ⟨sb, so, rfl, hsb, -⟩ := HS.out 0 (by omega)
  have HSr := Lib.hid hss
  clear hss hll hr hg
  obtain ⟨i0, hi0, hz0, hz1, hz2⟩ := info_parts infoStr5
  obtain ⟨i1, hi1, hy0, hy1, hy2⟩ := info_parts infoLine5
  have hlit := (World.ownsRow_lit (base := w.heap.size) (e := 9) (size := 1) ((w.alloc (.cells #[.slice (some ⟨sb, so, none⟩) n.stops.length sc, .slice la n.lines.length c'] 27 (0, 0))).alloc (.cells #[.slice none 0 0, .slice none 0 0] 27 (0, 0))) #[] 0 (by simp; omega) (by decide) (by simp))
  simp at hlit
  have HLit := Lib.hid hlit
  clear hlit
  go_enter Try.func50, Try.ntmps50
  go_wp2_with (at_builtin; refine wpList_append_lies _ rfl _ _ 24 rfl w.heap.size 9 i0 (.string ByteArray.empty) 1 16 Try.underlying24 hi0 hz0 hz1 hz2 rfl (by decide) _ _ _ rfl HLit.out ⟨sb, so, none⟩ n.stops.length sc (strs n.stops) rfl ?c1 ?c2 ?c3 ?c4 ?c5 ?c6 ?c7 _ rfl ?_)
  case c1 => rw [strs_len]; try omega
  case c2 =>
    intro j u hu
    obtain ⟨_, _, he, _, _, hcell⟩ := HSr.out
    simp [strs_len] at he
    obtain ⟨rfl, rfl⟩ := he
    obtain ⟨b', o', he, hlt, hc'⟩ := hcell j u hu
    simp at he
    obtain ⟨rfl, rfl⟩ := he
    try rw [addr_add]
    first | exact hc' | exact acell (acell (acell hc' _) _) _
  case c3 => intro u hu; obtain ⟨z, _, rfl⟩ := List.mem_map.1 hu; rfl
  case c4 => omega
  case c5 => unfold maxLen; omega
  case c6 => omega
  case c7 => simp; omega
  intro gS cS w2 hown hgr hat hlt
  have hz2' : w.heap.size + 3 ≤ w2.heap.size := by have := hgr.size; simp at this; omega
  have HO : Hid (w2.ownsRow w.heap.size 9 1 (.slice (some ⟨gS, 0, none⟩) n.stops.length cS) n.stops.length (strs n.stops)) := by
    show World.ownsRow _ _ _ _ _ _ _
    simpa using hown
  have hgs : gS ≠ w.heap.size ∧ gS ≠ w.heap.size + 1 := by simp [Value.ownBlock] at hat; omega
  have hne : ∀ q, q < w.heap.size + 2 → (Value.slice (some ⟨w.heap.size + 1 + 1, 0, none⟩) 0 0).ownBlock ≠ some q := fun q hq e => by simp [Value.ownBlock] at e; omega
  have b1 : w2.cell? ⟨w.heap.size, 1, none⟩ = some (.slice la n.lines.length c') := hgr.cell (by go_simp) (fun e => hne _ (by dsimp only; omega) e.symm)
  have r0 : w2.cell? ⟨w.heap.size + 1, 0, none⟩ = some (.slice none 0 0) := hgr.cell (by go_simp) (fun e => hne _ (by dsimp only; omega) e.symm)
  have r1 : w2.cell? ⟨w.heap.size + 1, 1, none⟩ = some (.slice none 0 0) := hgr.cell (by go_simp) (fun e => hne _ (by dsimp only; omega) e.symm)
  have HB2 : Hid (Below w.heap.size w w2) := ((((Below.refl _ _).alloc (Nat.le_refl _) _).alloc (by simp) _).alloc (by simp; omega) _).grown hgr (by simp; omega) (fun g hg => by simp [Value.ownBlock] at hg; omega)
  have hfr : w2.heap[w.heap.size + 1]? = some (.cells #[.slice none 0 0, .slice none 0 0] 27 (0, 0)) := by
    rw [hgr.block (w.heap.size + 1) (by simp) (fun e => hne _ (by omega) e.symm)]
    have hps : ∀ (W : World) o, (W.alloc o).heap[W.heap.size]? = some o := fun W o => by show (W.heap.push o)[W.heap.size]? = some o; exact Array.getElem?_push_size
    rw [((Below.refl _ _).alloc (Nat.le_refl _) _).block (w.heap.size + 1) (by simp)]
    have := hps (w.alloc (.cells #[.slice (some ⟨sb, so, none⟩) n.stops.length sc, .slice la n.lines.length c'] 27 (0, 0))) (.cells #[.slice none 0 0, .slice none 0 0] 27 (0, 0))
    rw [show (w.alloc (.cells #[.slice (some ⟨sb, so, none⟩) n.stops.length sc, .slice la n.lines.length c'] 27 (0, 0))).heap.size = w.heap.size + 1 by simp] at this
    exact this
  have HFr := Lib.hid hfr
  have hgS : gS < w2.heap.size := hlt
  clear hown hgr hat hlt hne hfr
  try rw [Nat.zero_add]
  go_wp2_with fail
  go_loopw [4] (fun q wr => ∃ k : Nat, k ≤ n.lines.length ∧ q = .int .i64 k ∧ (∃ lv, wr.cell? ⟨w2.heap.size, 1, none⟩ = some lv ∧ Hid (OwnLs (w2.heap.size + 1) wr lv (n.lines.take k))) ∧ wr.cell? ⟨w2.heap.size, 0, none⟩ = some (.slice (some ⟨gS, 0, none⟩) n.stops.length cS) ∧ wr.cell? ⟨w.heap.size, 1, none⟩ = some (.slice la n.lines.length c') ∧
      Hid (wr.ownsRow w.heap.size 9 1 (.slice (some ⟨gS, 0, none⟩) n.stops.length cS) n.stops.length (strs n.stops) ∧ wr.heap[w.heap.size + 1]? = some (.cells #[.slice none 0 0, .slice none 0 0] 27 (0, 0)) ∧ ∀ o, wr.frozen? ⟨w2.heap.size, o, none⟩ = false) ∧ Hid (Below w.heap.size w wr ∧ w2.heap.size < wr.heap.size))
    (fun q _ => n.lines.length - (RowKit.intOf q).toNat)
  case atStart =>
    exact ⟨0, Nat.zero_le _, rfl, ⟨.slice none 0 0, by go_simp, by rw [List.take_zero]; exact OwnLs.nil _ _⟩, by go_simp, acell b1 _, ⟨HO.out.alloc _, by rw [((Below.refl w2.heap.size w2).alloc (Nat.le_refl _) _).block _ (by omega)]; exact HFr.out, fun o => by go_simp⟩, ⟨HB2.out.alloc HB2.out.size _, by simp⟩⟩
  case round =>
    clear b1 r0 r1
    obtain ⟨k, hk, rfl, ⟨lv, p1, HLs⟩, p0, b1, HX, HB⟩ := hrel
    have hcbz := HB.out.2
    by_cases hlt : k < n.lines.length
    · obtain ⟨lb, lo, s0, s1, r0, r1, rfl, hlb, x0, x1, x2, hrs, hrr⟩ := net_lineO HAt.out k hlt
      have hli := (good_line HG.out k hlt).2.1
      have hkl : (n.lines.take k).length = k := by simp; omega
      obtain ⟨oa, oc, he⟩ : ∃ oa oc, lv = .slice oa k oc := by
        obtain ⟨vs, _, ho, _⟩ := HLs.out
        obtain ⟨oa, oc, he⟩ := own_shape ho
        exact ⟨oa, oc, by rw [he, hkl]⟩
      subst he
      have HSt := Lib.hid (fun W (hW : Below w.heap.size w W) => l1Own_any _ n.lines[k].stops W (hrs.below rfl hW) (by omega) (by omega))
      have HRn := Lib.hid (fun W (hW : Below w.heap.size w W) => l1Own_any _ n.lines[k].runs W (hrr.below rfl hW) (by omega) (by omega))
      obtain ⟨vs, hvl, how, hrow⟩ := HLs.out
      rw [hkl] at hvl how
      have HOw := Lib.hid how
      have HVs : Hid (vs.length = k ∧ ∀ j (h : j < (n.lines.take k).length) (h' : j < vs.length), (wr.ownsRow (w2.heap.size + 1) 3 1 vs[j].1 (n.lines.take k)[j].stops.length (ints (n.lines.take k)[j].stops) ∧ wr.ownsRow (w2.heap.size + 1) 3 1 vs[j].2 (n.lines.take k)[j].runs.length (ints (n.lines.take k)[j].runs)) ∧ (vs[j].1.ownBlock = none ∨ vs[j].1.ownBlock ≠ (Value.slice oa k oc).ownBlock) ∧ (vs[j].2.ownBlock = none ∨ vs[j].2.ownBlock ≠ (Value.slice oa k oc).ownBlock)) := ⟨hvl, hrow⟩
      clear hvl how hrow
      have HTk := Lib.hid (List.take_succ_eq_append_getElem hlt)
      have y0 := bkeep HB.out.1 x0
      have y1 := bkeep HB.out.1 x1
      have y2 := bkeep HB.out.1 x2
      have hk1 : (k : Int) < (n.lines.length : Int) := by omega
      have hk0 : (0 : Int) ≤ (k : Int) := by omega
      clear x0 x1 x2 hrs hrr
      generalize n.lines[k] = ll at HSt HRn HTk y0 y1 y2 hli
      obtain ⟨nm, st, rn⟩ := ll
      simp only at HSt HRn HTk y0 y1 y2 hli
      obtain ⟨ls, hls⟩ : ∃ z, z = st.length := ⟨_, rfl⟩
      obtain ⟨lr, hlr⟩ : ∃ z, z = rn.length := ⟨_, rfl⟩
      have HLn : Hid (ls = st.length ∧ lr = rn.length) := ⟨hls, hlr⟩
      rw [← hls] at HSt y1
      rw [← hlr] at HRn y2
      clear hls hlr hli
      go_wp2_with fail
      refine wp_region_held_drew (S := (fun w' => w'.cell? ⟨w.heap.size, 1, none⟩ = some (.slice (some ⟨lb, lo, none⟩) n.lines.length c') ∧ w'.cell? ⟨lb, lo + k * 3, none⟩ = some (.string nm) ∧ w'.cell? ⟨lb, lo + k * 3 + 1, none⟩ = some (.slice s0 ls s1) ∧ w'.cell? ⟨lb, lo + k * 3 + 2, none⟩ = some (.slice r0 lr r1) ∧ Below w.heap.size w w')) (by kernel_rfl) ?_ (fun hHeld => ?_)
      · exact ⟨b1, y0, y1, y2, HB.out.1.drew⟩
      have pc0 : wr.drew.cell? ⟨w2.heap.size, 1, none⟩ = some (.slice oa k oc) := p1
      refine wpAnyH_take (i := 0) (v := ?_) (by simp only [List.getElem?_toArray, List.getElem?_cons_zero]; rfl) (by kernel_rfl) (by kernel_rfl) (by kernel_rfl) (by exact fun _ _ _ h => h) (Or.inl ⟨by rfl, ?_⟩) (by assumption) ?_
      rotate_left
      · intro w' hSw; obtain ⟨e2, e3, e4, e5, _⟩ := hSw
        go_simp; try with_reducible rfl
      try simp only [Act.put, List.setIfInBounds_toArray, List.set_cons_zero, List.set_cons_succ]
      refine wpAnyH_take (i := 2) (v := ?_) (by simp only [List.getElem?_toArray, List.getElem?_cons_succ, List.getElem?_cons_zero]; rfl) (by kernel_rfl) (by kernel_rfl) (by kernel_rfl) (by exact fun _ _ _ h => h) (Or.inl ⟨by rfl, ?_⟩) (by assumption) ?_
      rotate_left
      · intro w' hSw; obtain ⟨e2, e3, e4, e5, _⟩ := hSw
        go_simp; try with_reducible rfl
      try simp only [Act.put, List.setIfInBounds_toArray, List.set_cons_zero, List.set_cons_succ]
      refine wpAnyH_take (i := 3) (v := ?_) (by simp only [List.getElem?_toArray, List.getElem?_cons_succ, List.getElem?_cons_zero]; rfl) (by kernel_rfl) (by kernel_rfl) (by kernel_rfl) (by exact fun _ _ _ h => h) (Or.inl ⟨by rfl, ?_⟩) (by assumption) ?_
      rotate_left
      · intro w' hSw; obtain ⟨e2, e3, e4, e5, _⟩ := hSw
        go_simp; try with_reducible rfl
      try simp only [Act.put, List.setIfInBounds_toArray, List.set_cons_zero, List.set_cons_succ]
      refine wpAnyH_take (i := 4) (v := ?_) (by simp only [List.getElem?_toArray, List.getElem?_cons_succ, List.getElem?_cons_zero]; rfl) (by kernel_rfl) (by kernel_rfl) (by kernel_rfl) (by exact fun _ _ _ h => h) (Or.inl ⟨by rfl, ?_⟩) (by assumption) ?_
      rotate_left
      · intro w' hSw; obtain ⟨e2, e3, e4, e5, _⟩ := hSw
        go_simp; try with_reducible rfl
      try simp only [Act.put, List.setIfInBounds_toArray, List.set_cons_zero, List.set_cons_succ]
      refine wpAnyH_take (i := 5) (v := ?_) (by simp only [List.getElem?_toArray, List.getElem?_cons_succ, List.getElem?_cons_zero]; rfl) (by kernel_rfl) (by kernel_rfl) (by kernel_rfl) (by exact fun _ _ _ h => h) (Or.inl ⟨by rfl, ?_⟩) (by assumption) ?_
      rotate_left
      · intro w' hSw; obtain ⟨e2, e3, e4, e5, _⟩ := hSw
        go_simp; try with_reducible rfl
      try simp only [Act.put, List.setIfInBounds_toArray, List.set_cons_zero, List.set_cons_succ]
      refine wpAnyH_take (i := 6) (v := ?_) (by simp only [List.getElem?_toArray, List.getElem?_cons_succ, List.getElem?_cons_zero]; rfl) (by kernel_rfl) (by kernel_rfl) (by kernel_rfl) (by exact fun _ _ _ h => h) (Or.inl ⟨by rfl, ?_⟩) (by assumption) ?_
      rotate_left
      · intro w' hSw; obtain ⟨e2, e3, e4, e5, _⟩ := hSw
        go_simp; try with_reducible rfl
      try simp only [Act.put, List.setIfInBounds_toArray, List.set_cons_zero, List.set_cons_succ]
      refine wpAnyH_take (i := 7) (v := ?_) (by simp only [List.getElem?_toArray, List.getElem?_cons_succ, List.getElem?_cons_zero]; rfl) (by kernel_rfl) (by kernel_rfl) (by kernel_rfl) (by exact fun _ _ _ h => h) (Or.inl ⟨by rfl, ?_⟩) (by assumption) ?_
      rotate_left
      · intro w' hSw; obtain ⟨e2, e3, e4, e5, _⟩ := hSw
        go_simp; try with_reducible rfl
      try simp only [Act.put, List.setIfInBounds_toArray, List.set_cons_zero, List.set_cons_succ]
      refine wpAnyH_take (i := 8) (v := ?_) (by simp only [List.getElem?_toArray, List.getElem?_cons_succ, List.getElem?_cons_zero]; rfl) (by kernel_rfl) (by kernel_rfl) (by kernel_rfl) (by exact fun _ _ _ h => h) (Or.inl ⟨by rfl, ?_⟩) (by assumption) ?_
      rotate_left
      · intro w' hSw; obtain ⟨e2, e3, e4, e5, _⟩ := hSw
        go_simp; try with_reducible rfl
      try simp only [Act.put, List.setIfInBounds_toArray, List.set_cons_zero, List.set_cons_succ]
      refine wpAnyH_take (i := 9) (v := ?_) (by simp only [List.getElem?_toArray, List.getElem?_cons_succ, List.getElem?_cons_zero]; rfl) (by kernel_rfl) (by kernel_rfl) (by kernel_rfl) (by exact fun _ _ _ h => h) (Or.inl ⟨by rfl, ?_⟩) (by assumption) ?_
      rotate_left
      · intro w' hSw; obtain ⟨e2, e3, e4, e5, _⟩ := hSw
        go_simp; try with_reducible rfl
      try simp only [Act.put, List.setIfInBounds_toArray, List.set_cons_zero, List.set_cons_succ]
      refine wpAnyH_take (i := 10) (v := ?_) (by simp only [List.getElem?_toArray, List.getElem?_cons_succ, List.getElem?_cons_zero]; rfl) (by kernel_rfl) (by kernel_rfl) (by kernel_rfl) (by exact fun _ _ _ h => h) (Or.inl ⟨by rfl, ?_⟩) (by assumption) ?_
      rotate_left
      · intro w' hSw; obtain ⟨e2, e3, e4, e5, _⟩ := hSw
        go_simp; try with_reducible rfl
      try simp only [Act.put, List.setIfInBounds_toArray, List.set_cons_zero, List.set_cons_succ]
      refine wpAnyH_take (i := 11) (v := ?_) (by simp only [List.getElem?_toArray, List.getElem?_cons_succ, List.getElem?_cons_zero]; rfl) (by kernel_rfl) (by kernel_rfl) (by kernel_rfl) (by exact fun _ _ _ h => h) (Or.inl ⟨by rfl, ?_⟩) (by assumption) ?_
      rotate_left
      · intro w' hSw; obtain ⟨e2, e3, e4, e5, _⟩ := hSw
        go_simp; try with_reducible rfl
      try simp only [Act.put, List.setIfInBounds_toArray, List.set_cons_zero, List.set_cons_succ]
      refine wpAnyH_take (i := 12) (v := ?_) (by simp only [List.getElem?_toArray, List.getElem?_cons_succ, List.getElem?_cons_zero]; rfl) (by kernel_rfl) (by kernel_rfl) (by kernel_rfl) (by exact fun _ _ _ h => h) (Or.inl ⟨by rfl, ?_⟩) (by assumption) ?_
      rotate_left
      · intro w' hSw; obtain ⟨e2, e3, e4, e5, _⟩ := hSw
        go_simp; try with_reducible rfl
      try simp only [Act.put, List.setIfInBounds_toArray, List.set_cons_zero, List.set_cons_succ]
      refine wpAnyH_take (i := 13) (v := ?_) (by simp only [List.getElem?_toArray, List.getElem?_cons_succ, List.getElem?_cons_zero]; rfl) (by kernel_rfl) (by kernel_rfl) (by kernel_rfl) (by exact fun _ _ _ h => h) (Or.inl ⟨by rfl, ?_⟩) (by assumption) ?_
      rotate_left
      · intro w' hSw; obtain ⟨e2, e3, e4, e5, _⟩ := hSw
        go_simp; try with_reducible rfl
      try simp only [Act.put, List.setIfInBounds_toArray, List.set_cons_zero, List.set_cons_succ]
      refine wpAnyH_take (i := 15) (v := ?_) (by simp only [List.getElem?_toArray, List.getElem?_cons_succ, List.getElem?_cons_zero]; rfl) (by kernel_rfl) (by kernel_rfl) (by kernel_rfl) (by exact fun _ _ _ h => h) (Or.inl ⟨by rfl, ?_⟩) (by assumption) ?_
      rotate_left
      · intro w' hSw; obtain ⟨e2, e3, e4, e5, _⟩ := hSw
        go_simp; try with_reducible rfl
      try simp only [Act.put, List.setIfInBounds_toArray, List.set_cons_zero, List.set_cons_succ]
      refine wpAnyH_take (i := 16) (v := ?_) (by simp only [List.getElem?_toArray, List.getElem?_cons_succ, List.getElem?_cons_zero]; rfl) (by kernel_rfl) (by kernel_rfl) (by kernel_rfl) (by exact fun _ _ _ h => h) (Or.inl ⟨by rfl, ?_⟩) (by assumption) ?_
      rotate_left
      · intro w' hSw; obtain ⟨e2, e3, e4, e5, _⟩ := hSw
        go_simp; try with_reducible rfl
      try simp only [Act.put, List.setIfInBounds_toArray, List.set_cons_zero, List.set_cons_succ]
      refine wpAnyH_take (i := 17) (v := ?_) (by simp only [List.getElem?_toArray, List.getElem?_cons_succ, List.getElem?_cons_zero]; rfl) (by kernel_rfl) (by kernel_rfl) (by kernel_rfl) (by exact fun _ _ _ h => h) (Or.inl ⟨by rfl, ?_⟩) (by assumption) ?_
      rotate_left
      · intro w' hSw; obtain ⟨e2, e3, e4, e5, _⟩ := hSw
        go_simp; try with_reducible rfl
      try simp only [Act.put, List.setIfInBounds_toArray, List.set_cons_zero, List.set_cons_succ]
      refine wpAnyH_take (i := 18) (v := ?_) (by simp only [List.getElem?_toArray, List.getElem?_cons_succ, List.getElem?_cons_zero]; rfl) (by kernel_rfl) (by kernel_rfl) (by kernel_rfl) (by exact fun _ _ _ h => h) (Or.inl ⟨by rfl, ?_⟩) (by assumption) ?_
      rotate_left
      · intro w' hSw; obtain ⟨e2, e3, e4, e5, _⟩ := hSw
        go_simp; try with_reducible rfl
      try simp only [Act.put, List.setIfInBounds_toArray, List.set_cons_zero, List.set_cons_succ]
      refine wpAnyH_take (i := 19) (v := ?_) (by simp only [List.getElem?_toArray, List.getElem?_cons_succ, List.getElem?_cons_zero]; rfl) (by kernel_rfl) (by kernel_rfl) (by kernel_rfl) (by exact fun _ _ _ h => h) (Or.inl ⟨by rfl, ?_⟩) (by assumption) ?_
      rotate_left
      · intro w' hSw; obtain ⟨e2, e3, e4, e5, _⟩ := hSw
        go_simp; try with_reducible rfl
      try simp only [Act.put, List.setIfInBounds_toArray, List.set_cons_zero, List.set_cons_succ]
      refine wpAnyH_take (i := 20) (v := ?_) (by simp only [List.getElem?_toArray, List.getElem?_cons_succ, List.getElem?_cons_zero]; rfl) (by kernel_rfl) (by kernel_rfl) (by kernel_rfl) (by exact fun _ _ _ h => h) (Or.inl ⟨by rfl, ?_⟩) (by assumption) ?_
      rotate_left
      · intro w' hSw; obtain ⟨e2, e3, e4, e5, _⟩ := hSw
        go_simp; try with_reducible rfl
      try simp only [Act.put, List.setIfInBounds_toArray, List.set_cons_zero, List.set_cons_succ]
      refine wpAnyH_ready (rs := [1, 14]) (by kernel_rfl) (by simp) ?_
      refine AllReadyH.cons (by simp only [List.getElem?_toArray, List.getElem?_cons_succ, List.getElem?_cons_zero]; rfl) (fun K hK => ?_) (AllReadyH.cons (by simp only [List.getElem?_toArray, List.getElem?_cons_succ, List.getElem?_cons_zero]; rfl) (fun K hK => ?_) AllReadyH.nil)
      · go_simp
        refine hK.out _ _ ?_ (fun _ => ?_)
        · exact hHeld
        clear hK K
        try simp only [Act.put, List.setIfInBounds_toArray, List.set_cons_zero, List.set_cons_succ]
        refine wpAnyH_ready (rs := [14]) (by kernel_rfl) (by simp) ?_
        refine AllReadyH.cons (by simp only [List.getElem?_toArray, List.getElem?_cons_succ, List.getElem?_cons_zero]; rfl) (fun K hK => ?_) AllReadyH.nil
        go_simp
        go_at_call 99
        refine (HSt.out _ (belL5 hHeld)).mono ?_
        rintro e w4 ⟨gs, cs, rfl, hos, hbs⟩
        have pc1 := bkeep hbs pc0
        have hz4 : Below wr.heap.size wr w4 := ((Below.refl _ _).drew).trans hbs
        go_wp2_with fail
        refine hK.out _ _ ?_ (fun hH1 => ?_)
        · exact keepL5 hbs hHeld
        clear hK K
        try simp only [Act.put, List.setIfInBounds_toArray, List.set_cons_zero, List.set_cons_succ]
        refine wpAnyH_ready (rs := [21]) (by kernel_rfl) (by simp) ?_
        refine AllReadyH.cons (by simp only [List.getElem?_toArray, List.getElem?_cons_succ, List.getElem?_cons_zero]; rfl) (fun K hK => ?_) AllReadyH.nil
        go_simp
        go_at_call 99
        refine (HRn.out _ (belL5 hH1)).mono ?_
        rintro e w5 ⟨gr, cr, rfl, hor, hbr⟩
        have pc2 := bkeep hbr pc1
        have hz5 : Below wr.heap.size wr w5 := hz4.trans (hbr.mono hz4.size)
        have HGs := Lib.hid (own_base (own_later hos hbr) (Nat.le_refl wr.heap.size))
        have HGr := Lib.hid (own_base hor hz4.size)
        go_wp2_with fail
        refine hK.out _ _ ?_ (fun hH2 => ?_)
        · exact keepL5 hbr hH1
        clear hK K
        try simp only [Act.put, List.setIfInBounds_toArray, List.set_cons_zero, List.set_cons_succ]
        refine wpAnyH_take (i := 22) (v := ?_) (by simp only [List.getElem?_toArray, List.getElem?_cons_succ, List.getElem?_cons_zero]; rfl) (by kernel_rfl) (by kernel_rfl) (by kernel_rfl) (by exact fun _ _ _ h => h) (Or.inl ⟨by rfl, ?_⟩) (by assumption) ?_
        rotate_left
        · intro w' hSw; obtain ⟨e2, e3, e4, e5, _⟩ := hSw
          go_simp; try with_reducible rfl
        try simp only [Act.put, List.setIfInBounds_toArray, List.set_cons_zero, List.set_cons_succ]
        refine wpAnyH_ready (rs := [23]) (by kernel_rfl) (by simp) ?_
        refine AllReadyH.cons (by simp only [List.getElem?_toArray, List.getElem?_cons_succ, List.getElem?_cons_zero]; rfl) (fun K hK => ?_) AllReadyH.nil
        go_simp
        refine hK.out _ _ ?_ (fun hH3 => ?_)
        · exact keepL5 ((Below.refl _ _).alloc (Nat.le_refl _) _) hH2
        clear hK K
        have pc3 := acell pc2 (.cells #[.string nm, .slice (some ⟨gs, 0, none⟩) ls cs, .slice (some ⟨gr, 0, none⟩) lr cr] 36 (0, 0))
        have hzA : Below wr.heap.size wr (w5.alloc (.cells #[.string nm, .slice (some ⟨gs, 0, none⟩) ls cs, .slice (some ⟨gr, 0, none⟩) lr cr] 36 (0, 0))) := hz5.alloc hz5.size _
        try simp only [Act.put, List.setIfInBounds_toArray, List.set_cons_zero, List.set_cons_succ]
        have hownA := own_later HOw.out hzA
        have hA1 : w2.heap.size + 1 ≤ (w5.alloc (.cells #[.string nm, .slice (some ⟨gs, 0, none⟩) ls cs, .slice (some ⟨gr, 0, none⟩) lr cr] 36 (0, 0))).heap.size := by have := hzA.size; omega
        have hvb := fun b hb => HOw.out.lt b hb
        refine wpAnyH_ready (rs := [24]) (by kernel_rfl) (by simp) ?_
        refine AllReadyH.cons (by simp only [List.getElem?_toArray, List.getElem?_cons_succ, List.getElem?_cons_zero]; rfl) (fun K hK => ?_) AllReadyH.nil
        refine step_append_lies _ rfl (.tmp 18) (.tmp 40) 25 rfl (w2.heap.size + 1) 36 i1 (.agg #[.string ⟨#[]⟩, .slice none 0 0, .slice none 0 0]) 3 64 Try.underlying25 hi1 hy0 hy1 hy2 rfl (by decide) _ _ _ rfl hownA ⟨w5.heap.size, 0, none⟩ 1 1 [.string nm, .slice (some ⟨gs, 0, none⟩) ls cs, .slice (some ⟨gr, 0, none⟩) lr cr] rfl rfl (news5 _ _ _ _) (by intro u hu; simp at hu; rcases hu with rfl | rfl | rfl <;> rfl) (by omega) (by unfold maxLen; omega) (by omega) hA1 _ rfl ?_
        intro gN cN w6 hown6 hgr6 hat6 hlt6
        have hne6 : ∀ q, q ≤ w2.heap.size → some q ≠ (Value.slice oa k oc).ownBlock := fun q hq e => by have := (hvb q e.symm).1; omega
        have hc6 : ∀ (p : Addr) (x : Value), (w5.alloc (.cells #[.string nm, .slice (some ⟨gs, 0, none⟩) ls cs, .slice (some ⟨gr, 0, none⟩) lr cr] 36 (0, 0))).cell? p = some x → p.block ≤ w2.heap.size → w6.cell? p = some x := fun p x hp hq => hgr6.cell hp (hne6 _ hq)
        have hbw6 : Below w.heap.size w w6 := (belL5 hH3).grown hgr6 (by have := hzA.size; omega) (fun b hb => by have := (hvb b hb).1; omega)
        have pc6 := hc6 _ _ pc3 (Nat.le_refl _)
        have hz6 : (w5.alloc (.cells #[.string nm, .slice (some ⟨gs, 0, none⟩) ls cs, .slice (some ⟨gr, 0, none⟩) lr cr] 36 (0, 0))).heap.size ≤ w6.heap.size := hgr6.size
        have hbk : ∀ u q, q < w2.heap.size → (w6.setCell ⟨w2.heap.size, 1, none⟩ u).heap[q]? = wr.heap[q]? := fun u q hq => by
          rw [Below.heap_setCell _ _ _ _ (by show q ≠ w2.heap.size; omega), hgr6.block q (by have := hzA.size; omega) (hne6 q (by omega)), hzA.block q (by omega)]
        have hfz6 : ∀ o, w6.frozen? ⟨w2.heap.size, o, none⟩ = false := fun o => by
          rw [hgr6.frozen_far ⟨w2.heap.size, o, none⟩ (by have := hzA.size; show w2.heap.size < _; omega) (hne6 _ (Nat.le_refl _)), hzA.frozen (p := ⟨w2.heap.size, o, none⟩) (by show w2.heap.size < _; omega)]
          exact HX.out.2.2 o
        have hs1 := HLn.out.1
        have hs2 := HLn.out.2
        have HNew : Hid (OwnLs (w2.heap.size + 1) w6 (.slice (some ⟨gN, 0, none⟩) (k + 1) cN) (n.lines.take k ++ [⟨nm, st, rn⟩])) := by
          have := OwnLs.snoc5 (l := ⟨nm, st, rn⟩) (by rw [hkl]; exact HVs.out.1) (by rw [hkl]; exact HOw.out) (fun j hj hj' => HVs.out.2 j hj hj') (by omega) hzA (by rw [← hs1]; exact HGs.out.alloc _) (by rw [← hs2]; exact HGr.out.alloc _) (by rw [hkl]; exact hown6) hgr6 hat6
          rw [hkl] at this
          exact this
        have hp06 := hc6 _ _ (bkeep hzA p0) (Nat.le_refl _)
        go_wp2_with fail
        refine hK.out _ _ ?_ (fun hH6 => ?_)
        · exact ⟨hc6 _ _ hH3.1 (by show w.heap.size ≤ _; omega), hc6 _ _ hH3.2.1 (by show lb ≤ _; omega), hc6 _ _ hH3.2.2.1 (by show lb ≤ _; omega), hc6 _ _ hH3.2.2.2.1 (by show lb ≤ _; omega), hbw6⟩
        clear hK K
        try simp only [Act.put, List.setIfInBounds_toArray, List.set_cons_zero, List.set_cons_succ]
        refine wpAnyH_take (i := 25) (v := ?_) (by simp only [List.getElem?_toArray, List.getElem?_cons_succ, List.getElem?_cons_zero]; rfl) (by kernel_rfl) (by kernel_rfl) (by kernel_rfl) (by exact fun _ _ _ h => h) (Or.inl ⟨by rfl, ?_⟩) (by assumption) ?_
        rotate_left
        · intro w' hSw; obtain ⟨e2, e3, e4, e5, _⟩ := hSw
          go_simp; try with_reducible rfl
        try simp only [Act.put, List.setIfInBounds_toArray, List.set_cons_zero, List.set_cons_succ]
        refine wpAnyH_ready (rs := [26]) (by kernel_rfl) (by simp) ?_
        refine AllReadyH.cons (by simp only [List.getElem?_toArray, List.getElem?_cons_succ, List.getElem?_cons_zero]; rfl) (fun K hK => ?_) AllReadyH.nil
        go_simp
        refine hK.out _ _ ?_ (fun hH7 => ?_)
        · exact ⟨(set_otherB5 (by omega)).trans hH6.1, (set_otherB5 (by omega)).trans hH6.2.1, (set_otherB5 (by omega)).trans hH6.2.2.1, (set_otherB5 (by omega)).trans hH6.2.2.2.1, hbw6.setCell (p := ⟨w2.heap.size, 1, none⟩) (by show w.heap.size ≤ w2.heap.size; omega) _⟩
        clear hK K
        try simp only [Act.put, List.setIfInBounds_toArray, List.set_cons_zero, List.set_cons_succ]
        refine wpAnyH_done (by kernel_rfl) ?_ _
        go_wp2_with fail
        go_roundw
        case rel =>
          refine ⟨k + 1, by omega, by go_num, ⟨_, World.cell?_setCell_same _ _ _ pc6, ?_⟩, (World.cell?_setCell_other _ _ _ _ (fun e => by simp at e)).trans hp06, hH7.1, ⟨own_block HX.out.1 (fun g hg => hbk _ g (by simp [Value.ownBlock] at hg; omega)), (hbk _ _ (by omega)).trans HX.out.2.1, fun o => by rw [World.frozen?_setCell]; exact hfz6 o⟩, ⟨hH7.2.2.2.2, by simp [World.setCell]; have := hzA.size; omega⟩⟩
          show OwnLs _ _ _ _
          rw [HTk.out]
          exact HNew.out.set (p := ⟨w2.heap.size, 1, none⟩) (by show w2.heap.size < _; omega) _
        case measure => simp [RowKit.intOf]; omega
      · go_simp
        go_at_call 99
        refine (HSt.out _ (belL5 hHeld)).mono ?_
        rintro e w4 ⟨gs, cs, rfl, hos, hbs⟩
        have pc1 := bkeep hbs pc0
        have hz4 : Below wr.heap.size wr w4 := ((Below.refl _ _).drew).trans hbs
        go_wp2_with fail
        refine hK.out _ _ ?_ (fun hH1 => ?_)
        · exact keepL5 hbs hHeld
        clear hK K
        try simp only [Act.put, List.setIfInBounds_toArray, List.set_cons_zero, List.set_cons_succ]
        refine wpAnyH_ready (rs := [1, 21]) (by kernel_rfl) (by simp) ?_
        refine AllReadyH.cons (by simp only [List.getElem?_toArray, List.getElem?_cons_succ, List.getElem?_cons_zero]; rfl) (fun K hK => ?_) (AllReadyH.cons (by simp only [List.getElem?_toArray, List.getElem?_cons_succ, List.getElem?_cons_zero]; rfl) (fun K hK => ?_) AllReadyH.nil)
        · go_simp
          refine hK.out _ _ ?_ (fun _ => ?_)
          · exact hH1
          clear hK K
          try simp only [Act.put, List.setIfInBounds_toArray, List.set_cons_zero, List.set_cons_succ]
          refine wpAnyH_ready (rs := [21]) (by kernel_rfl) (by simp) ?_
          refine AllReadyH.cons (by simp only [List.getElem?_toArray, List.getElem?_cons_succ, List.getElem?_cons_zero]; rfl) (fun K hK => ?_) AllReadyH.nil
          go_simp
          go_at_call 99
          refine (HRn.out _ (belL5 hH1)).mono ?_
          rintro e w5 ⟨gr, cr, rfl, hor, hbr⟩
          have pc2 := bkeep hbr pc1
          have hz5 : Below wr.heap.size wr w5 := hz4.trans (hbr.mono hz4.size)
          have HGs := Lib.hid (own_base (own_later hos hbr) (Nat.le_refl wr.heap.size))
          have HGr := Lib.hid (own_base hor hz4.size)
          go_wp2_with fail
          refine hK.out _ _ ?_ (fun hH2 => ?_)
          · exact keepL5 hbr hH1
          clear hK K
          try simp only [Act.put, List.setIfInBounds_toArray, List.set_cons_zero, List.set_cons_succ]
          refine wpAnyH_take (i := 22) (v := ?_) (by simp only [List.getElem?_toArray, List.getElem?_cons_succ, List.getElem?_cons_zero]; rfl) (by kernel_rfl) (by kernel_rfl) (by kernel_rfl) (by exact fun _ _ _ h => h) (Or.inl ⟨by rfl, ?_⟩) (by assumption) ?_
          rotate_left
          · intro w' hSw; obtain ⟨e2, e3, e4, e5, _⟩ := hSw
            go_simp; try with_reducible rfl
          try simp only [Act.put, List.setIfInBounds_toArray, List.set_cons_zero, List.set_cons_succ]
          refine wpAnyH_ready (rs := [23]) (by kernel_rfl) (by simp) ?_
          refine AllReadyH.cons (by simp only [List.getElem?_toArray, List.getElem?_cons_succ, List.getElem?_cons_zero]; rfl) (fun K hK => ?_) AllReadyH.nil
          go_simp
          refine hK.out _ _ ?_ (fun hH3 => ?_)
          · exact keepL5 ((Below.refl _ _).alloc (Nat.le_refl _) _) hH2
          clear hK K
          have pc3 := acell pc2 (.cells #[.string nm, .slice (some ⟨gs, 0, none⟩) ls cs, .slice (some ⟨gr, 0, none⟩) lr cr] 36 (0, 0))
          have hzA : Below wr.heap.size wr (w5.alloc (.cells #[.string nm, .slice (some ⟨gs, 0, none⟩) ls cs, .slice (some ⟨gr, 0, none⟩) lr cr] 36 (0, 0))) := hz5.alloc hz5.size _
          try simp only [Act.put, List.setIfInBounds_toArray, List.set_cons_zero, List.set_cons_succ]
          have hownA := own_later HOw.out hzA
          have hA1 : w2.heap.size + 1 ≤ (w5.alloc (.cells #[.string nm, .slice (some ⟨gs, 0, none⟩) ls cs, .slice (some ⟨gr, 0, none⟩) lr cr] 36 (0, 0))).heap.size := by have := hzA.size; omega
          have hvb := fun b hb => HOw.out.lt b hb
          refine wpAnyH_ready (rs := [24]) (by kernel_rfl) (by simp) ?_
          refine AllReadyH.cons (by simp only [List.getElem?_toArray, List.getElem?_cons_succ, List.getElem?_cons_zero]; rfl) (fun K hK => ?_) AllReadyH.nil
          refine step_append_lies _ rfl (.tmp 18) (.tmp 40) 25 rfl (w2.heap.size + 1) 36 i1 (.agg #[.string ⟨#[]⟩, .slice none 0 0, .slice none 0 0]) 3 64 Try.underlying25 hi1 hy0 hy1 hy2 rfl (by decide) _ _ _ rfl hownA ⟨w5.heap.size, 0, none⟩ 1 1 [.string nm, .slice (some ⟨gs, 0, none⟩) ls cs, .slice (some ⟨gr, 0, none⟩) lr cr] rfl rfl (news5 _ _ _ _) (by intro u hu; simp at hu; rcases hu with rfl | rfl | rfl <;> rfl) (by omega) (by unfold maxLen; omega) (by omega) hA1 _ rfl ?_
          intro gN cN w6 hown6 hgr6 hat6 hlt6
          have hne6 : ∀ q, q ≤ w2.heap.size → some q ≠ (Value.slice oa k oc).ownBlock := fun q hq e => by have := (hvb q e.symm).1; omega
          have hc6 : ∀ (p : Addr) (x : Value), (w5.alloc (.cells #[.string nm, .slice (some ⟨gs, 0, none⟩) ls cs, .slice (some ⟨gr, 0, none⟩) lr cr] 36 (0, 0))).cell? p = some x → p.block ≤ w2.heap.size → w6.cell? p = some x := fun p x hp hq => hgr6.cell hp (hne6 _ hq)
          have hbw6 : Below w.heap.size w w6 := (belL5 hH3).grown hgr6 (by have := hzA.size; omega) (fun b hb => by have := (hvb b hb).1; omega)
          have pc6 := hc6 _ _ pc3 (Nat.le_refl _)
          have hz6 : (w5.alloc (.cells #[.string nm, .slice (some ⟨gs, 0, none⟩) ls cs, .slice (some ⟨gr, 0, none⟩) lr cr] 36 (0, 0))).heap.size ≤ w6.heap.size := hgr6.size
          have hbk : ∀ u q, q < w2.heap.size → (w6.setCell ⟨w2.heap.size, 1, none⟩ u).heap[q]? = wr.heap[q]? := fun u q hq => by
            rw [Below.heap_setCell _ _ _ _ (by show q ≠ w2.heap.size; omega), hgr6.block q (by have := hzA.size; omega) (hne6 q (by omega)), hzA.block q (by omega)]
          have hfz6 : ∀ o, w6.frozen? ⟨w2.heap.size, o, none⟩ = false := fun o => by
            rw [hgr6.frozen_far ⟨w2.heap.size, o, none⟩ (by have := hzA.size; show w2.heap.size < _; omega) (hne6 _ (Nat.le_refl _)), hzA.frozen (p := ⟨w2.heap.size, o, none⟩) (by show w2.heap.size < _; omega)]
            exact HX.out.2.2 o
          have hs1 := HLn.out.1
          have hs2 := HLn.out.2
          have HNew : Hid (OwnLs (w2.heap.size + 1) w6 (.slice (some ⟨gN, 0, none⟩) (k + 1) cN) (n.lines.take k ++ [⟨nm, st, rn⟩])) := by
            have := OwnLs.snoc5 (l := ⟨nm, st, rn⟩) (by rw [hkl]; exact HVs.out.1) (by rw [hkl]; exact HOw.out) (fun j hj hj' => HVs.out.2 j hj hj') (by omega) hzA (by rw [← hs1]; exact HGs.out.alloc _) (by rw [← hs2]; exact HGr.out.alloc _) (by rw [hkl]; exact hown6) hgr6 hat6
            rw [hkl] at this
            exact this
          have hp06 := hc6 _ _ (bkeep hzA p0) (Nat.le_refl _)
          go_wp2_with fail
          refine hK.out _ _ ?_ (fun hH6 => ?_)
          · exact ⟨hc6 _ _ hH3.1 (by show w.heap.size ≤ _; omega), hc6 _ _ hH3.2.1 (by show lb ≤ _; omega), hc6 _ _ hH3.2.2.1 (by show lb ≤ _; omega), hc6 _ _ hH3.2.2.2.1 (by show lb ≤ _; omega), hbw6⟩
          clear hK K
          try simp only [Act.put, List.setIfInBounds_toArray, List.set_cons_zero, List.set_cons_succ]
          refine wpAnyH_take (i := 25) (v := ?_) (by simp only [List.getElem?_toArray, List.getElem?_cons_succ, List.getElem?_cons_zero]; rfl) (by kernel_rfl) (by kernel_rfl) (by kernel_rfl) (by exact fun _ _ _ h => h) (Or.inl ⟨by rfl, ?_⟩) (by assumption) ?_
          rotate_left
          · intro w' hSw; obtain ⟨e2, e3, e4, e5, _⟩ := hSw
            go_simp; try with_reducible rfl
          try simp only [Act.put, List.setIfInBounds_toArray, List.set_cons_zero, List.set_cons_succ]
          refine wpAnyH_ready (rs := [26]) (by kernel_rfl) (by simp) ?_
          refine AllReadyH.cons (by simp only [List.getElem?_toArray, List.getElem?_cons_succ, List.getElem?_cons_zero]; rfl) (fun K hK => ?_) AllReadyH.nil
          go_simp
          refine hK.out _ _ ?_ (fun hH7 => ?_)
          · exact ⟨(set_otherB5 (by omega)).trans hH6.1, (set_otherB5 (by omega)).trans hH6.2.1, (set_otherB5 (by omega)).trans hH6.2.2.1, (set_otherB5 (by omega)).trans hH6.2.2.2.1, hbw6.setCell (p := ⟨w2.heap.size, 1, none⟩) (by show w.heap.size ≤ w2.heap.size; omega) _⟩
          clear hK K
          try simp only [Act.put, List.setIfInBounds_toArray, List.set_cons_zero, List.set_cons_succ]
          refine wpAnyH_done (by kernel_rfl) ?_ _
          go_wp2_with fail
          go_roundw
          case rel =>
            refine ⟨k + 1, by omega, by go_num, ⟨_, World.cell?_setCell_same _ _ _ pc6, ?_⟩, (World.cell?_setCell_other _ _ _ _ (fun e => by simp at e)).trans hp06, hH7.1, ⟨own_block HX.out.1 (fun g hg => hbk _ g (by simp [Value.ownBlock] at hg; omega)), (hbk _ _ (by omega)).trans HX.out.2.1, fun o => by rw [World.frozen?_setCell]; exact hfz6 o⟩, ⟨hH7.2.2.2.2, by simp [World.setCell]; have := hzA.size; omega⟩⟩
            show OwnLs _ _ _ _
            rw [HTk.out]
            exact HNew.out.set (p := ⟨w2.heap.size, 1, none⟩) (by show w2.heap.size < _; omega) _
          case measure => simp [RowKit.intOf]; omega
        · go_simp
          go_at_call 99
          refine (HRn.out _ (belL5 hH1)).mono ?_
          rintro e w5 ⟨gr, cr, rfl, hor, hbr⟩
          have pc2 := bkeep hbr pc1
          have hz5 : Below wr.heap.size wr w5 := hz4.trans (hbr.mono hz4.size)
          have HGs := Lib.hid (own_base (own_later hos hbr) (Nat.le_refl wr.heap.size))
          have HGr := Lib.hid (own_base hor hz4.size)
          go_wp2_with fail
          refine hK.out _ _ ?_ (fun hH2 => ?_)
          · exact keepL5 hbr hH1
          clear hK K
          try simp only [Act.put, List.setIfInBounds_toArray, List.set_cons_zero, List.set_cons_succ]
          refine wpAnyH_take (i := 22) (v := ?_) (by simp only [List.getElem?_toArray, List.getElem?_cons_succ, List.getElem?_cons_zero]; rfl) (by kernel_rfl) (by kernel_rfl) (by kernel_rfl) (by exact fun _ _ _ h => h) (Or.inl ⟨by rfl, ?_⟩) (by assumption) ?_
          rotate_left
          · intro w' hSw; obtain ⟨e2, e3, e4, e5, _⟩ := hSw
            go_simp; try with_reducible rfl
          try simp only [Act.put, List.setIfInBounds_toArray, List.set_cons_zero, List.set_cons_succ]
          refine wpAnyH_ready (rs := [1, 23]) (by kernel_rfl) (by simp) ?_
          refine AllReadyH.cons (by simp only [List.getElem?_toArray, List.getElem?_cons_succ, List.getElem?_cons_zero]; rfl) (fun K hK => ?_) (AllReadyH.cons (by simp only [List.getElem?_toArray, List.getElem?_cons_succ, List.getElem?_cons_zero]; rfl) (fun K hK => ?_) AllReadyH.nil)
          · go_simp
            refine hK.out _ _ ?_ (fun _ => ?_)
            · exact hH2
            clear hK K
            try simp only [Act.put, List.setIfInBounds_toArray, List.set_cons_zero, List.set_cons_succ]
            refine wpAnyH_ready (rs := [23]) (by kernel_rfl) (by simp) ?_
            refine AllReadyH.cons (by simp only [List.getElem?_toArray, List.getElem?_cons_succ, List.getElem?_cons_zero]; rfl) (fun K hK => ?_) AllReadyH.nil
            go_simp
            refine hK.out _ _ ?_ (fun hH3 => ?_)
            · exact keepL5 ((Below.refl _ _).alloc (Nat.le_refl _) _) hH2
            clear hK K
            have pc3 := acell pc2 (.cells #[.string nm, .slice (some ⟨gs, 0, none⟩) ls cs, .slice (some ⟨gr, 0, none⟩) lr cr] 36 (0, 0))
            have hzA : Below wr.heap.size wr (w5.alloc (.cells #[.string nm, .slice (some ⟨gs, 0, none⟩) ls cs, .slice (some ⟨gr, 0, none⟩) lr cr] 36 (0, 0))) := hz5.alloc hz5.size _
            try simp only [Act.put, List.setIfInBounds_toArray, List.set_cons_zero, List.set_cons_succ]
            have hownA := own_later HOw.out hzA
            have hA1 : w2.heap.size + 1 ≤ (w5.alloc (.cells #[.string nm, .slice (some ⟨gs, 0, none⟩) ls cs, .slice (some ⟨gr, 0, none⟩) lr cr] 36 (0, 0))).heap.size := by have := hzA.size; omega
            have hvb := fun b hb => HOw.out.lt b hb
            refine wpAnyH_ready (rs := [24]) (by kernel_rfl) (by simp) ?_
            refine AllReadyH.cons (by simp only [List.getElem?_toArray, List.getElem?_cons_succ, List.getElem?_cons_zero]; rfl) (fun K hK => ?_) AllReadyH.nil
            refine step_append_lies _ rfl (.tmp 18) (.tmp 40) 25 rfl (w2.heap.size + 1) 36 i1 (.agg #[.string ⟨#[]⟩, .slice none 0 0, .slice none 0 0]) 3 64 Try.underlying25 hi1 hy0 hy1 hy2 rfl (by decide) _ _ _ rfl hownA ⟨w5.heap.size, 0, none⟩ 1 1 [.string nm, .slice (some ⟨gs, 0, none⟩) ls cs, .slice (some ⟨gr, 0, none⟩) lr cr] rfl rfl (news5 _ _ _ _) (by intro u hu; simp at hu; rcases hu with rfl | rfl | rfl <;> rfl) (by omega) (by unfold maxLen; omega) (by omega) hA1 _ rfl ?_
            intro gN cN w6 hown6 hgr6 hat6 hlt6
            have hne6 : ∀ q, q ≤ w2.heap.size → some q ≠ (Value.slice oa k oc).ownBlock := fun q hq e => by have := (hvb q e.symm).1; omega
            have hc6 : ∀ (p : Addr) (x : Value), (w5.alloc (.cells #[.string nm, .slice (some ⟨gs, 0, none⟩) ls cs, .slice (some ⟨gr, 0, none⟩) lr cr] 36 (0, 0))).cell? p = some x → p.block ≤ w2.heap.size → w6.cell? p = some x := fun p x hp hq => hgr6.cell hp (hne6 _ hq)
            have hbw6 : Below w.heap.size w w6 := (belL5 hH3).grown hgr6 (by have := hzA.size; omega) (fun b hb => by have := (hvb b hb).1; omega)
            have pc6 := hc6 _ _ pc3 (Nat.le_refl _)
            have hz6 : (w5.alloc (.cells #[.string nm, .slice (some ⟨gs, 0, none⟩) ls cs, .slice (some ⟨gr, 0, none⟩) lr cr] 36 (0, 0))).heap.size ≤ w6.heap.size := hgr6.size
            have hbk : ∀ u q, q < w2.heap.size → (w6.setCell ⟨w2.heap.size, 1, none⟩ u).heap[q]? = wr.heap[q]? := fun u q hq => by
              rw [Below.heap_setCell _ _ _ _ (by show q ≠ w2.heap.size; omega), hgr6.block q (by have := hzA.size; omega) (hne6 q (by omega)), hzA.block q (by omega)]
            have hfz6 : ∀ o, w6.frozen? ⟨w2.heap.size, o, none⟩ = false := fun o => by
              rw [hgr6.frozen_far ⟨w2.heap.size, o, none⟩ (by have := hzA.size; show w2.heap.size < _; omega) (hne6 _ (Nat.le_refl _)), hzA.frozen (p := ⟨w2.heap.size, o, none⟩) (by show w2.heap.size < _; omega)]
              exact HX.out.2.2 o
            have hs1 := HLn.out.1
            have hs2 := HLn.out.2
            have HNew : Hid (OwnLs (w2.heap.size + 1) w6 (.slice (some ⟨gN, 0, none⟩) (k + 1) cN) (n.lines.take k ++ [⟨nm, st, rn⟩])) := by
              have := OwnLs.snoc5 (l := ⟨nm, st, rn⟩) (by rw [hkl]; exact HVs.out.1) (by rw [hkl]; exact HOw.out) (fun j hj hj' => HVs.out.2 j hj hj') (by omega) hzA (by rw [← hs1]; exact HGs.out.alloc _) (by rw [← hs2]; exact HGr.out.alloc _) (by rw [hkl]; exact hown6) hgr6 hat6
              rw [hkl] at this
              exact this
            have hp06 := hc6 _ _ (bkeep hzA p0) (Nat.le_refl _)
            go_wp2_with fail
            refine hK.out _ _ ?_ (fun hH6 => ?_)
            · exact ⟨hc6 _ _ hH3.1 (by show w.heap.size ≤ _; omega), hc6 _ _ hH3.2.1 (by show lb ≤ _; omega), hc6 _ _ hH3.2.2.1 (by show lb ≤ _; omega), hc6 _ _ hH3.2.2.2.1 (by show lb ≤ _; omega), hbw6⟩
            clear hK K
            try simp only [Act.put, List.setIfInBounds_toArray, List.set_cons_zero, List.set_cons_succ]
            refine wpAnyH_take (i := 25) (v := ?_) (by simp only [List.getElem?_toArray, List.getElem?_cons_succ, List.getElem?_cons_zero]; rfl) (by kernel_rfl) (by kernel_rfl) (by kernel_rfl) (by exact fun _ _ _ h => h) (Or.inl ⟨by rfl, ?_⟩) (by assumption) ?_
            rotate_left
            · intro w' hSw; obtain ⟨e2, e3, e4, e5, _⟩ := hSw
              go_simp; try with_reducible rfl
            try simp only [Act.put, List.setIfInBounds_toArray, List.set_cons_zero, List.set_cons_succ]
            refine wpAnyH_ready (rs := [26]) (by kernel_rfl) (by simp) ?_
            refine AllReadyH.cons (by simp only [List.getElem?_toArray, List.getElem?_cons_succ, List.getElem?_cons_zero]; rfl) (fun K hK => ?_) AllReadyH.nil
            go_simp
            refine hK.out _ _ ?_ (fun hH7 => ?_)
            · exact ⟨(set_otherB5 (by omega)).trans hH6.1, (set_otherB5 (by omega)).trans hH6.2.1, (set_otherB5 (by omega)).trans hH6.2.2.1, (set_otherB5 (by omega)).trans hH6.2.2.2.1, hbw6.setCell (p := ⟨w2.heap.size, 1, none⟩) (by show w.heap.size ≤ w2.heap.size; omega) _⟩
            clear hK K
            try simp only [Act.put, List.setIfInBounds_toArray, List.set_cons_zero, List.set_cons_succ]
            refine wpAnyH_done (by kernel_rfl) ?_ _
            go_wp2_with fail
            go_roundw
            case rel =>
              refine ⟨k + 1, by omega, by go_num, ⟨_, World.cell?_setCell_same _ _ _ pc6, ?_⟩, (World.cell?_setCell_other _ _ _ _ (fun e => by simp at e)).trans hp06, hH7.1, ⟨own_block HX.out.1 (fun g hg => hbk _ g (by simp [Value.ownBlock] at hg; omega)), (hbk _ _ (by omega)).trans HX.out.2.1, fun o => by rw [World.frozen?_setCell]; exact hfz6 o⟩, ⟨hH7.2.2.2.2, by simp [World.setCell]; have := hzA.size; omega⟩⟩
              show OwnLs _ _ _ _
              rw [HTk.out]
              exact HNew.out.set (p := ⟨w2.heap.size, 1, none⟩) (by show w2.heap.size < _; omega) _
            case measure => simp [RowKit.intOf]; omega
          · go_simp
            refine hK.out _ _ ?_ (fun hH3 => ?_)
            · exact keepL5 ((Below.refl _ _).alloc (Nat.le_refl _) _) hH2
            clear hK K
            have pc3 := acell pc2 (.cells #[.string nm, .slice (some ⟨gs, 0, none⟩) ls cs, .slice (some ⟨gr, 0, none⟩) lr cr] 36 (0, 0))
            have hzA : Below wr.heap.size wr (w5.alloc (.cells #[.string nm, .slice (some ⟨gs, 0, none⟩) ls cs, .slice (some ⟨gr, 0, none⟩) lr cr] 36 (0, 0))) := hz5.alloc hz5.size _
            try simp only [Act.put, List.setIfInBounds_toArray, List.set_cons_zero, List.set_cons_succ]
            refine wpAnyH_ready (rs := [1]) (by kernel_rfl) (by simp) ?_
            refine AllReadyH.cons (by simp only [List.getElem?_toArray, List.getElem?_cons_succ, List.getElem?_cons_zero]; rfl) (fun K hK => ?_) AllReadyH.nil
            go_simp
            refine hK.out _ _ ?_ (fun _ => ?_)
            · exact hH3
            clear hK K
            try simp only [Act.put, List.setIfInBounds_toArray, List.set_cons_zero, List.set_cons_succ]
            have hownA := own_later HOw.out hzA
            have hA1 : w2.heap.size + 1 ≤ (w5.alloc (.cells #[.string nm, .slice (some ⟨gs, 0, none⟩) ls cs, .slice (some ⟨gr, 0, none⟩) lr cr] 36 (0, 0))).heap.size := by have := hzA.size; omega
            have hvb := fun b hb => HOw.out.lt b hb
            refine wpAnyH_ready (rs := [24]) (by kernel_rfl) (by simp) ?_
            refine AllReadyH.cons (by simp only [List.getElem?_toArray, List.getElem?_cons_succ, List.getElem?_cons_zero]; rfl) (fun K hK => ?_) AllReadyH.nil
            refine step_append_lies _ rfl (.tmp 18) (.tmp 40) 25 rfl (w2.heap.size + 1) 36 i1 (.agg #[.string ⟨#[]⟩, .slice none 0 0, .slice none 0 0]) 3 64 Try.underlying25 hi1 hy0 hy1 hy2 rfl (by decide) _ _ _ rfl hownA ⟨w5.heap.size, 0, none⟩ 1 1 [.string nm, .slice (some ⟨gs, 0, none⟩) ls cs, .slice (some ⟨gr, 0, none⟩) lr cr] rfl rfl (news5 _ _ _ _) (by intro u hu; simp at hu; rcases hu with rfl | rfl | rfl <;> rfl) (by omega) (by unfold maxLen; omega) (by omega) hA1 _ rfl ?_
            intro gN cN w6 hown6 hgr6 hat6 hlt6
            have hne6 : ∀ q, q ≤ w2.heap.size → some q ≠ (Value.slice oa k oc).ownBlock := fun q hq e => by have := (hvb q e.symm).1; omega
            have hc6 : ∀ (p : Addr) (x : Value), (w5.alloc (.cells #[.string nm, .slice (some ⟨gs, 0, none⟩) ls cs, .slice (some ⟨gr, 0, none⟩) lr cr] 36 (0, 0))).cell? p = some x → p.block ≤ w2.heap.size → w6.cell? p = some x := fun p x hp hq => hgr6.cell hp (hne6 _ hq)
            have hbw6 : Below w.heap.size w w6 := (belL5 hH3).grown hgr6 (by have := hzA.size; omega) (fun b hb => by have := (hvb b hb).1; omega)
            have pc6 := hc6 _ _ pc3 (Nat.le_refl _)
            have hz6 : (w5.alloc (.cells #[.string nm, .slice (some ⟨gs, 0, none⟩) ls cs, .slice (some ⟨gr, 0, none⟩) lr cr] 36 (0, 0))).heap.size ≤ w6.heap.size := hgr6.size
            have hbk : ∀ u q, q < w2.heap.size → (w6.setCell ⟨w2.heap.size, 1, none⟩ u).heap[q]? = wr.heap[q]? := fun u q hq => by
              rw [Below.heap_setCell _ _ _ _ (by show q ≠ w2.heap.size; omega), hgr6.block q (by have := hzA.size; omega) (hne6 q (by omega)), hzA.block q (by omega)]
            have hfz6 : ∀ o, w6.frozen? ⟨w2.heap.size, o, none⟩ = false := fun o => by
              rw [hgr6.frozen_far ⟨w2.heap.size, o, none⟩ (by have := hzA.size; show w2.heap.size < _; omega) (hne6 _ (Nat.le_refl _)), hzA.frozen (p := ⟨w2.heap.size, o, none⟩) (by show w2.heap.size < _; omega)]
              exact HX.out.2.2 o
            have hs1 := HLn.out.1
            have hs2 := HLn.out.2
            have HNew : Hid (OwnLs (w2.heap.size + 1) w6 (.slice (some ⟨gN, 0, none⟩) (k + 1) cN) (n.lines.take k ++ [⟨nm, st, rn⟩])) := by
              have := OwnLs.snoc5 (l := ⟨nm, st, rn⟩) (by rw [hkl]; exact HVs.out.1) (by rw [hkl]; exact HOw.out) (fun j hj hj' => HVs.out.2 j hj hj') (by omega) hzA (by rw [← hs1]; exact HGs.out.alloc _) (by rw [← hs2]; exact HGr.out.alloc _) (by rw [hkl]; exact hown6) hgr6 hat6
              rw [hkl] at this
              exact this
            have hp06 := hc6 _ _ (bkeep hzA p0) (Nat.le_refl _)
            go_wp2_with fail
            refine hK.out _ _ ?_ (fun hH6 => ?_)
            · exact ⟨hc6 _ _ hH3.1 (by show w.heap.size ≤ _; omega), hc6 _ _ hH3.2.1 (by show lb ≤ _; omega), hc6 _ _ hH3.2.2.1 (by show lb ≤ _; omega), hc6 _ _ hH3.2.2.2.1 (by show lb ≤ _; omega), hbw6⟩
            clear hK K
            try simp only [Act.put, List.setIfInBounds_toArray, List.set_cons_zero, List.set_cons_succ]
            refine wpAnyH_take (i := 25) (v := ?_) (by simp only [List.getElem?_toArray, List.getElem?_cons_succ, List.getElem?_cons_zero]; rfl) (by kernel_rfl) (by kernel_rfl) (by kernel_rfl) (by exact fun _ _ _ h => h) (Or.inl ⟨by rfl, ?_⟩) (by assumption) ?_
            rotate_left
            · intro w' hSw; obtain ⟨e2, e3, e4, e5, _⟩ := hSw
              go_simp; try with_reducible rfl
            try simp only [Act.put, List.setIfInBounds_toArray, List.set_cons_zero, List.set_cons_succ]
            refine wpAnyH_ready (rs := [26]) (by kernel_rfl) (by simp) ?_
            refine AllReadyH.cons (by simp only [List.getElem?_toArray, List.getElem?_cons_succ, List.getElem?_cons_zero]; rfl) (fun K hK => ?_) AllReadyH.nil
            go_simp
            refine hK.out _ _ ?_ (fun hH7 => ?_)
            · exact ⟨(set_otherB5 (by omega)).trans hH6.1, (set_otherB5 (by omega)).trans hH6.2.1, (set_otherB5 (by omega)).trans hH6.2.2.1, (set_otherB5 (by omega)).trans hH6.2.2.2.1, hbw6.setCell (p := ⟨w2.heap.size, 1, none⟩) (by show w.heap.size ≤ w2.heap.size; omega) _⟩
            clear hK K
            try simp only [Act.put, List.setIfInBounds_toArray, List.set_cons_zero, List.set_cons_succ]
            refine wpAnyH_done (by kernel_rfl) ?_ _
            go_wp2_with fail
            go_roundw
            case rel =>
              refine ⟨k + 1, by omega, by go_num, ⟨_, World.cell?_setCell_same _ _ _ pc6, ?_⟩, (World.cell?_setCell_other _ _ _ _ (fun e => by simp at e)).trans hp06, hH7.1, ⟨own_block HX.out.1 (fun g hg => hbk _ g (by simp [Value.ownBlock] at hg; omega)), (hbk _ _ (by omega)).trans HX.out.2.1, fun o => by rw [World.frozen?_setCell]; exact hfz6 o⟩, ⟨hH7.2.2.2.2, by simp [World.setCell]; have := hzA.size; omega⟩⟩
              show OwnLs _ _ _ _
              rw [HTk.out]
              exact HNew.out.set (p := ⟨w2.heap.size, 1, none⟩) (by show w2.heap.size < _; omega) _
            case measure => simp [RowKit.intOf]; omega
    · obtain rfl : k = n.lines.length := by omega
      have hlt1 : ¬ (n.lines.length : Int) < (n.lines.length : Int) := by omega
      have r0 : wr.cell? ⟨w.heap.size + 1, 0, none⟩ = some (.slice none 0 0) := cell_heap5 HX.out.2.1 rfl
      have r1 : wr.cell? ⟨w.heap.size + 1, 1, none⟩ = some (.slice none 0 0) := cell_heap5 HX.out.2.1 rfl
      have hfz : ∀ o, wr.frozen? ⟨w.heap.size + 1, o, none⟩ = false := fun o => by simp [World.frozen?, HX.out.2.1]
      have HLs2 := HLs.out
      rw [List.take_length] at HLs2
      obtain ⟨oa, oc, he⟩ : ∃ oa oc, lv = .slice oa n.lines.length oc := by
        obtain ⟨vs, _, ho, _⟩ := HLs2
        exact own_shape ho
      subst he
      have HLs3 := Lib.hid HLs2
      clear HLs2
      go_wp2_with fail
      refine bodyPost_ret (v := .agg #[.slice (some ⟨gS, 0, none⟩) n.stops.length cS, .slice oa n.lines.length oc]) (by simp only [results, Try.results50]; go_simp) rfl ?_
      have hq : ∀ (u0 u1 : Value), Out (w.heap.size + 1) (w.heap.size + 2) wr ((wr.setCell ⟨w.heap.size + 1, 0, none⟩ u0).setCell ⟨w.heap.size + 1, 1, none⟩ u1) := fun u0 u1 => ((Out.refl _ _ _).setCell (p := ⟨_, _, none⟩) (by simp) (by simp) _).setCell (p := ⟨_, _, none⟩) (by simp) (by simp) _
      have hne2 : w.heap.size + 1 < w2.heap.size + 1 := by omega
      refine ⟨gS, cS, oa, oc, rfl, own_block HX.out.1 (fun g hg => (hq _ _).block (by simp [Value.ownBlock] at hg; omega) (HX.out.1.lt g hg).2), w2.heap.size + 1, (HLs3.out.set (p := ⟨w.heap.size + 1, 0, none⟩) hne2 _).set (p := ⟨w.heap.size + 1, 1, none⟩) hne2 _, by omega, by omega, HB.out.1.trans ((hq _ _).below.mono (by omega))⟩
end Go.Proofs.Ytemejcbilhcebaa
