import Derived.Test.YtfgkfdkdjegaiaaBestM
namespace Go.Proofs.Ytfgkfdkdjegaiaa
open Go.RowKit
set_option linter.unusedVariables false
set_option linter.unusedSimpArgs false

def KP (G : Nat) (W W' : World) : Prop := W.heap.size ≤ W'.heap.size ∧ ∀ q, q < W.heap.size → q ≠ G → q ≠ G + 1 → W'.heap[q]? = W.heap[q]?
theorem KP.of_below {G : Nat} {W W' : World} (h : Below W.heap.size W W') : KP G W W' := ⟨h.size, fun q hq _ _ => h.block q hq⟩
theorem KP.cell {G : Nat} {W W' : World} (h : KP G W W') {q o : Nat} {v : Value} (hc : W.cell? ⟨q, o, none⟩ = some v) (h1 : q ≠ G) (h2 : q ≠ G + 1) : W'.cell? ⟨q, o, none⟩ = some v := by
  have hl := World.block_lt_of_cell? W _ hc
  exact (World.cell?_of_block (h.2 q hl h1 h2)).trans hc
theorem KP.trans {G : Nat} {W W' W'' : World} (h : KP G W W') (h' : KP G W' W'') : KP G W W'' :=
  ⟨Nat.le_trans h.1 h'.1, fun q hq h1 h2 => (h'.2 q (Nat.lt_of_lt_of_le hq h.1) h1 h2).trans (h.2 q hq h1 h2)⟩
theorem KP.set {G : Nat} {W W' : World} (h : KP G W W') {q o : Nat} {u : Value} (hq : q = G ∨ q = G + 1) : KP G W (W'.setCell ⟨q, o, none⟩ u) :=
  ⟨by simp [World.setCell]; exact h.1, fun r hr h1 h2 => by
    rw [Below.heap_setCell _ _ _ _ (fun e => by dsimp only at e; omega)]; exact h.2 r hr h1 h2⟩
theorem KP.own {G : Nat} {W W' : World} (h : KP G W W') {B : Nat} {e : TypeId} {sz : Nat} {q n c : Nat} {xs : List Value} (ho : W.ownsRow B e sz (.slice (some ⟨q, 0, none⟩) n c) n xs) (h1 : q ≠ G) (h2 : q ≠ G + 1) : W'.ownsRow B e sz (.slice (some ⟨q, 0, none⟩) n c) n xs :=
  own_block ho (fun g hg => by
    simp [Value.ownBlock] at hg; subst hg
    exact h.2 _ (ho.lt _ rfl).2 h1 h2)
theorem setX {w : World} {b b' i o : Nat} {u v : Value} (hc : w.cell? ⟨b', o, none⟩ = some v) (h : b' ≠ b) : (w.setCell ⟨b, i, none⟩ u).cell? ⟨b', o, none⟩ = some v :=
  (World.cell?_of_block (Below.heap_setCell _ _ _ _ (fun e => h (by simpa using e)))).trans hc

theorem EB.put {w W : World} {nv0 nv1 lst : Value} {p stop sml : Int} {G : Nat} {bs : List PatternD} (h : EB w nv0 nv1 lst p stop G bs sml W) (hbs : bs.length = 3) (x y z : PatternD) (g : Int) :
    EB w nv0 nv1 lst p stop G [x, y, z] g (((((((W.setCell ⟨G, 0, none⟩ (.int .i64 x.line)).setCell ⟨G, 1, none⟩ (.int .i64 x.offs)).setCell ⟨G, 2, none⟩ (.int .i64 y.line)).setCell ⟨G, 3, none⟩ (.int .i64 y.offs)).setCell ⟨G, 4, none⟩ (.int .i64 z.line)).setCell ⟨G, 5, none⟩ (.int .i64 z.offs)).setCell ⟨G + 1, 0, none⟩ (.int .i64 g)) := by
  have hG := h.hG
  have hW : ∀ {q : Nat} {o : Nat} {v : Value}, q < G → W.cell? ⟨q, o, none⟩ = some v → (((((((W.setCell ⟨G, 0, none⟩ (.int .i64 x.line)).setCell ⟨G, 1, none⟩ (.int .i64 x.offs)).setCell ⟨G, 2, none⟩ (.int .i64 y.line)).setCell ⟨G, 3, none⟩ (.int .i64 y.offs)).setCell ⟨G, 4, none⟩ (.int .i64 z.line)).setCell ⟨G, 5, none⟩ (.int .i64 z.offs)).setCell ⟨G + 1, 0, none⟩ (.int .i64 g)).cell? ⟨q, o, none⟩ = some v := fun hq hc =>
    setX (setX (setX (setX (setX (setX (setX hc (by omega)) (by omega)) (by omega)) (by omega)) (by omega)) (by omega)) (by omega)
  have s0 := h.be.stored 0 (.int .i64 x.line)
  have s1 := s0.1.stored 1 (.int .i64 x.offs)
  have s2 := s1.1.stored 2 (.int .i64 y.line)
  have s3 := s2.1.stored 3 (.int .i64 y.offs)
  have s4 := s3.1.stored 4 (.int .i64 z.line)
  have s5 := s4.1.stored 5 (.int .i64 z.offs)
  have ne1 : (Value.slice (some ⟨G + 1, 0, none⟩) 1 1).ownBlock ≠ some G := fun e => by simp [Value.ownBlock] at e
  have m6 := (((((h.sm.kept s0.2 (.inr ne1)).kept s1.2 (.inr ne1)).kept s2.2 (.inr ne1)).kept s3.2 (.inr ne1)).kept s4.2 (.inr ne1)).kept s5.2 (.inr ne1)
  have s6 := m6.stored 0 (.int .i64 g)
  have ne2 : (Value.slice (some ⟨G, 0, none⟩) 3 3).ownBlock ≠ some (G + 1) := fun e => by simp [Value.ownBlock] at e
  have hbe := s5.1.kept s6.2 (.inr ne2)
  have hl : ((((((patC bs).set 0 (.int .i64 x.line)).set 1 (.int .i64 x.offs)).set 2 (.int .i64 y.line)).set 3 (.int .i64 y.offs)).set 4 (.int .i64 z.line)).set 5 (.int .i64 z.offs) = patC [x, y, z] := by
    match bs, hbs with
    | [b0, b1, b2], _ => rfl
  rw [hl] at hbe
  exact ⟨((((((h.bel.setCell (p := ⟨G, 0, none⟩) (by show w.heap.size ≤ G; omega) _).setCell (p := ⟨G, 1, none⟩) (by show w.heap.size ≤ G; omega) _).setCell (p := ⟨G, 2, none⟩) (by show w.heap.size ≤ G; omega) _).setCell (p := ⟨G, 3, none⟩) (by show w.heap.size ≤ G; omega) _).setCell (p := ⟨G, 4, none⟩) (by show w.heap.size ≤ G; omega) _).setCell (p := ⟨G, 5, none⟩) (by show w.heap.size ≤ G; omega) _).setCell (p := ⟨G + 1, 0, none⟩) (by show w.heap.size ≤ G + 1; omega) _,
    hG, by have := h.sz; simp [World.setCell]; omega, hW (by omega) h.n0, hW (by omega) h.n1, hW (by omega) h.pe, hW (by omega) h.li, hW (by omega) h.sp, hbe, by simpa using s6.1⟩
theorem arr_pats {W : World} {Z L : Nat} {ms : List PatternD} (hl : ms.length = 3) (hL : L ≤ 3) (hz : Z < W.heap.size) (hc : ∀ j u, (patC ms)[j]? = some u → W.cell? ⟨Z, j, none⟩ = some u) : PatternsAt W (.slice (some ⟨Z, 0, none⟩) L 3) (ms.take L) := by
  refine ⟨_, 3, by rw [List.length_take, hl, Nat.min_eq_left hL], by rw [List.length_take]; omega, by decide, fun k hk => ⟨Z, 0, rfl, hz, ?_, ?_⟩⟩
  · have hk' : k < ms.length := by rw [List.length_take] at hk; omega
    rw [Nat.zero_add, List.getElem_take]; exact hc _ _ (patC_get0 ms k hk')
  · have hk' : k < ms.length := by rw [List.length_take] at hk; omega
    rw [Nat.zero_add, List.getElem_take]; exact hc _ _ (patC_get1 ms k hk')

set_option maxRecDepth 100000 in
set_option maxHeartbeats 8000000 in
theorem see_any (n : NetD) (a a' : Option Addr) (c c' g go d : Nat) (p stop : Int) (xs : List PatternD) (w W : World) (G k : Nat) (bs ms : List PatternD) (sml : Int)
    (hn : NetAt w (.agg #[.slice a n.stops.length c, .slice a' n.lines.length c']) n) (hgood : PatsGood n p xs) (hxd : xs.length ≤ d) (h0 : 0 < (restS n p xs stop).length)
    (hE : EB w (.slice a n.stops.length c) (.slice a' n.lines.length c') (.slice (some ⟨g, go, none⟩) xs.length d) p stop G bs sml W) (hA : AccB n p xs stop k bs sml) (hM : Mt xs p k xs.length ms) (x y z : PatternD) (hms : ms = [x, y, z]) :
    Calls Try.prog 73 #[.agg #[.int .i64 x.line, .int .i64 x.offs, .int .i64 y.line, .int .i64 y.offs, .int .i64 z.line, .int .i64 z.offs], .pointer (some ⟨w.heap.size, 0, none⟩), .pointer (some ⟨w.heap.size + 1, 0, none⟩), .pointer (some ⟨w.heap.size + 2, 0, none⟩), .pointer (some ⟨w.heap.size + 3, 0, none⟩), .pointer (some ⟨G + 1, 0, none⟩), .pointer (some ⟨G, 0, none⟩)] W
      fun e w' => e = .returned (.tuple #[]) ∧ (∃ bs' sml', EB w (.slice a n.stops.length c) (.slice a' n.lines.length c') (.slice (some ⟨g, go, none⟩) xs.length d) p stop G bs' sml' w' ∧ AccB n p xs stop (k + 1) bs' sml') ∧ KP G W w' := by
  have hp1 := hgood.2.1.1
  have hL := hgood.2.2.1
  have hAll := hM.all hL.2
  have hbl := hA.1
  have HSee := Lib.hid (hA.see hp1 h0 hL.2 hM (gapT n p (tT xs p k) stop) rfl)
  have HGt : Hid (lgV (gaps (restS n p (tT xs p k) stop) p) = gapT n p (tT xs p k) stop) := rfl
  have hlen0 : 0 < (restS n p (tT xs p k) stop).length := by rw [restS_same hp1 (tT_same xs p k)]; exact h0
  have hlr := restS_len n p (tT xs p k) stop
  rw [tT_len] at hlr
  have hmem := restS_mem (n := n) (xs := tT xs p k) (stop := stop) hp1
  have hp60 := hgood.2.1.2
  obtain ⟨W1, hW1⟩ : ∃ W1 : World, W1 = W.alloc (.cells #[.int .i64 x.line, .int .i64 x.offs, .int .i64 y.line, .int .i64 y.offs, .int .i64 z.line, .int .i64 z.offs] 89) := ⟨_, rfl⟩
  have hb1 : Below W.heap.size W W1 := by rw [hW1]; exact (Below.refl _ _).alloc (Nat.le_refl _) _
  have hE1 := hE.later hb1
  have k0 : W1.cell? ⟨W.heap.size, 0, none⟩ = some (.int .i64 x.line) := by rw [hW1]; go_simp
  have k1 : W1.cell? ⟨W.heap.size, 1, none⟩ = some (.int .i64 x.offs) := by rw [hW1]; go_simp
  have k2 : W1.cell? ⟨W.heap.size, 2, none⟩ = some (.int .i64 y.line) := by rw [hW1]; go_simp
  have k3 : W1.cell? ⟨W.heap.size, 3, none⟩ = some (.int .i64 y.offs) := by rw [hW1]; go_simp
  have k4 : W1.cell? ⟨W.heap.size, 4, none⟩ = some (.int .i64 z.line) := by rw [hW1]; go_simp
  have k5 : W1.cell? ⟨W.heap.size, 5, none⟩ = some (.int .i64 z.offs) := by rw [hW1]; go_simp
  have hz1 : W.heap.size < W1.heap.size := by rw [hW1]; simp
  have hPA : PatternsAt W1 (.slice (some ⟨W.heap.size, 0, none⟩) xs.length 3) (tT xs p k) := by
    rw [← hAll]
    refine arr_pats hM.1 hL.2 hz1 (fun j u hu => ?_)
    rw [hms] at hu
    match j, hu with
    | 0, hu => simp [patC] at hu; rw [← hu]; exact k0
    | 1, hu => simp [patC] at hu; rw [← hu]; exact k1
    | 2, hu => simp [patC] at hu; rw [← hu]; exact k2
    | 3, hu => simp [patC] at hu; rw [← hu]; exact k3
    | 4, hu => simp [patC] at hu; rw [← hu]; exact k4
    | 5, hu => simp [patC] at hu; rw [← hu]; exact k5
    | j + 6, hu => simp [patC] at hu
  have HC1 := Lib.hid (fun V (hV : Below W1.heap.size W1 V) => restsAt_any _ _ n p (tT xs p k) stop V (hn.below rfl (hE1.bel.trans (hV.mono hE1.bel.size))) (hPA.below rfl hV) (tT_good hgood k))
  have n0 := hE1.n0
  have n1 := hE1.n1
  have pe := hE1.pe
  have li := hE1.li
  have sp := hE1.sp
  have HE1 := Lib.hid hE1
  have HK1 : Hid (KP G W W1) := KP.of_below hb1
  have hGz := hE.sz
  have hll : (xs.length : Int) ≤ 3 := by omega
  have hl0 : (0 : Int) ≤ (xs.length : Int) := by omega
  have hms2 := Lib.hid hms
  clear hn hgood hE hA hM hAll hE1 hb1 hPA hms
  go_enter Try.func73, Try.ntmps73
  go_wp2_with fail
  rw [← hW1]
  clear hW1
  refine wp_region_held_drew (S := (fun w' => w'.cell? ⟨w.heap.size, 0, none⟩ = some (.slice a n.stops.length c) ∧ w'.cell? ⟨w.heap.size, 1, none⟩ = some (.slice a' n.lines.length c') ∧ w'.cell? ⟨w.heap.size + 1, 0, none⟩ = some (.int .i64 p) ∧ w'.cell? ⟨w.heap.size + 2, 0, none⟩ = some (.slice (some ⟨g, go, none⟩) xs.length d) ∧ w'.cell? ⟨w.heap.size + 3, 0, none⟩ = some (.int .i64 stop))) (by kernel_rfl) ?_ (fun hHeld => ?_)
  · exact ⟨n0, n1, pe, li, sp⟩
  refine wpAnyH_take (i := 0) (v := ?_) (by simp only [List.getElem?_toArray, List.getElem?_cons_zero]; rfl) (by kernel_rfl) (by kernel_rfl) (by kernel_rfl) (by exact fun _ _ _ h => h) (Or.inl ⟨by rfl, ?_⟩) (by assumption) ?_
  rotate_left
  · intro w' hSw; (try dsimp only at hSw); obtain ⟨e0, e1, e2, e3, e4⟩ := hSw
    go_simp; try with_reducible rfl
  try simp only [Act.put, List.setIfInBounds_toArray, List.set_cons_zero, List.set_cons_succ]
  refine wpAnyH_take (i := 1) (v := ?_) (by simp only [List.getElem?_toArray, List.getElem?_cons_succ, List.getElem?_cons_zero]; rfl) (by kernel_rfl) (by kernel_rfl) (by kernel_rfl) (by exact fun _ _ _ h => h) (Or.inl ⟨by rfl, ?_⟩) (by assumption) ?_
  rotate_left
  · intro w' hSw; (try dsimp only at hSw); obtain ⟨e0, e1, e2, e3, e4⟩ := hSw
    go_simp; try with_reducible rfl
  try simp only [Act.put, List.setIfInBounds_toArray, List.set_cons_zero, List.set_cons_succ]
  refine wpAnyH_take (i := 2) (v := ?_) (by simp only [List.getElem?_toArray, List.getElem?_cons_succ, List.getElem?_cons_zero]; rfl) (by kernel_rfl) (by kernel_rfl) (by kernel_rfl) (by exact fun _ _ _ h => h) (Or.inl ⟨by rfl, ?_⟩) (by assumption) ?_
  rotate_left
  · intro w' hSw; (try dsimp only at hSw); obtain ⟨e0, e1, e2, e3, e4⟩ := hSw
    go_simp; try with_reducible rfl
  try simp only [Act.put, List.setIfInBounds_toArray, List.set_cons_zero, List.set_cons_succ]
  refine wpAnyH_take (i := 3) (v := ?_) (by simp only [List.getElem?_toArray, List.getElem?_cons_succ, List.getElem?_cons_zero]; rfl) (by kernel_rfl) (by kernel_rfl) (by kernel_rfl) (by exact fun _ _ _ h => h) (Or.inl ⟨by rfl, ?_⟩) (by assumption) ?_
  rotate_left
  · intro w' hSw; (try dsimp only at hSw); obtain ⟨e0, e1, e2, e3, e4⟩ := hSw
    go_simp; try with_reducible rfl
  try simp only [Act.put, List.setIfInBounds_toArray, List.set_cons_zero, List.set_cons_succ]
  refine wpAnyH_take (i := 4) (v := ?_) (by simp only [List.getElem?_toArray, List.getElem?_cons_succ, List.getElem?_cons_zero]; rfl) (by kernel_rfl) (by kernel_rfl) (by kernel_rfl) (by exact fun _ _ _ h => h) (Or.inl ⟨by rfl, ?_⟩) (by assumption) ?_
  rotate_left
  · intro w' hSw; (try dsimp only at hSw); obtain ⟨e0, e1, e2, e3, e4⟩ := hSw
    go_simp; try with_reducible rfl
  try simp only [Act.put, List.setIfInBounds_toArray, List.set_cons_zero, List.set_cons_succ]
  refine wpAnyH_take (i := 5) (v := ?_) (by simp only [List.getElem?_toArray, List.getElem?_cons_succ, List.getElem?_cons_zero]; rfl) (by kernel_rfl) (by kernel_rfl) (by kernel_rfl) (by exact fun _ _ _ h => h) (Or.inl ⟨by rfl, ?_⟩) (by assumption) ?_
  rotate_left
  · intro w' hSw; (try dsimp only at hSw); obtain ⟨e0, e1, e2, e3, e4⟩ := hSw
    go_simp; try with_reducible rfl
  try simp only [Act.put, List.setIfInBounds_toArray, List.set_cons_zero, List.set_cons_succ]
  refine wpAnyH_take (i := 7) (v := ?_) (by simp only [List.getElem?_toArray, List.getElem?_cons_succ, List.getElem?_cons_zero]; rfl) (by kernel_rfl) (by kernel_rfl) (by kernel_rfl) (by exact fun _ _ _ h => h) (Or.inl ⟨by rfl, ?_⟩) (by assumption) ?_
  rotate_left
  · intro w' hSw; (try dsimp only at hSw); obtain ⟨e0, e1, e2, e3, e4⟩ := hSw
    go_simp; try with_reducible rfl
  try simp only [Act.put, List.setIfInBounds_toArray, List.set_cons_zero, List.set_cons_succ]
  refine wpAnyH_ready (rs := [6]) (by kernel_rfl) (by simp) ?_
  refine AllReadyH.cons (by simp only [List.getElem?_toArray, List.getElem?_cons_succ, List.getElem?_cons_zero]; rfl) (fun K hK => ?_) AllReadyH.nil
  go_simp
  go_at_call 62
  refine (HC1.out _ (Below.refl _ _).drew).mono ?_
  rintro e w5 ⟨⟨v5, rfl, ho5⟩, hb5⟩
  have hb5 : Below W1.heap.size W1 w5 := (Below.refl _ _).drew.trans hb5
  have HC2 := Lib.hid (largestGap_any v5 _ p w5 (rowAt_own ho5) (by omega) (by omega) (fun x hx => by have := hmem x hx; omega) (fun _ => by omega))
  rw [HGt.out] at HC2
  obtain ⟨_, _, rfl⟩ := own_shape ho5
  have HB5 := Lib.hid hb5
  have hS5 : w5.cell? ⟨w.heap.size, 0, none⟩ = some (.slice a n.stops.length c) ∧ w5.cell? ⟨w.heap.size, 1, none⟩ = some (.slice a' n.lines.length c') ∧ w5.cell? ⟨w.heap.size + 1, 0, none⟩ = some (.int .i64 p) ∧ w5.cell? ⟨w.heap.size + 2, 0, none⟩ = some (.slice (some ⟨g, go, none⟩) xs.length d) ∧ w5.cell? ⟨w.heap.size + 3, 0, none⟩ = some (.int .i64 stop) := ⟨bkeep hb5 n0, bkeep hb5 n1, bkeep hb5 pe, bkeep hb5 li, bkeep hb5 sp⟩
  clear ho5 hb5
  go_wp2_with fail
  refine hK.out _ _ hS5 (fun hH6 => ?_)
  clear hK K
  try simp only [Act.put, List.setIfInBounds_toArray, List.set_cons_zero, List.set_cons_succ]
  refine wpAnyH_ready (rs := [8]) (by kernel_rfl) (by simp) ?_
  refine AllReadyH.cons (by simp only [List.getElem?_toArray, List.getElem?_cons_succ, List.getElem?_cons_zero]; rfl) (fun K hK => ?_) AllReadyH.nil
  go_simp
  go_at_call 64
  refine HC2.out.mono ?_
  rintro e w7 ⟨rfl, hb7⟩
  have HB7 : Hid (Below W1.heap.size W1 w7) := HB5.out.trans (hb7.mono HB5.out.size)
  have hS7 : w7.cell? ⟨w.heap.size, 0, none⟩ = some (.slice a n.stops.length c) ∧ w7.cell? ⟨w.heap.size, 1, none⟩ = some (.slice a' n.lines.length c') ∧ w7.cell? ⟨w.heap.size + 1, 0, none⟩ = some (.int .i64 p) ∧ w7.cell? ⟨w.heap.size + 2, 0, none⟩ = some (.slice (some ⟨g, go, none⟩) xs.length d) ∧ w7.cell? ⟨w.heap.size + 3, 0, none⟩ = some (.int .i64 stop) := ⟨bkeep HB7.out n0, bkeep HB7.out n1, bkeep HB7.out pe, bkeep HB7.out li, bkeep HB7.out sp⟩
  clear hb7
  go_wp2_with fail
  refine hK.out _ _ hS7 (fun hH8 => ?_)
  clear hK K
  try simp only [Act.put, List.setIfInBounds_toArray, List.set_cons_zero, List.set_cons_succ]
  refine wpAnyH_take (i := 9) (v := ?_) (by simp only [List.getElem?_toArray, List.getElem?_cons_succ, List.getElem?_cons_zero]; rfl) (by kernel_rfl) (by kernel_rfl) (by kernel_rfl) (by exact fun _ _ _ h => h) (Or.inl ⟨by rfl, ?_⟩) (by assumption) ?_
  rotate_left
  · intro w' hSw; (try dsimp only at hSw); obtain ⟨e0, e1, e2, e3, e4⟩ := hSw
    go_simp; try with_reducible rfl
  try simp only [Act.put, List.setIfInBounds_toArray, List.set_cons_zero, List.set_cons_succ]
  refine wpAnyH_take (i := 10) (v := ?_) (by simp only [List.getElem?_toArray, List.getElem?_cons_succ, List.getElem?_cons_zero]; rfl) (by kernel_rfl) (by kernel_rfl) (by kernel_rfl) (by exact fun _ _ _ h => h) (Or.inl ⟨by rfl, ?_⟩) (by assumption) ?_
  rotate_left
  · intro w' hSw; (try dsimp only at hSw); obtain ⟨e0, e1, e2, e3, e4⟩ := hSw
    go_simp; try with_reducible rfl
  try simp only [Act.put, List.setIfInBounds_toArray, List.set_cons_zero, List.set_cons_succ]
  refine wpAnyH_take (i := 11) (v := ?_) (by simp only [List.getElem?_toArray, List.getElem?_cons_succ, List.getElem?_cons_zero]; rfl) (by kernel_rfl) (by kernel_rfl) (by kernel_rfl) (by exact fun _ _ _ h => h) (Or.inl ⟨by rfl, ?_⟩) (by assumption) ?_
  rotate_left
  · intro w' hSw; (try dsimp only at hSw); obtain ⟨e0, e1, e2, e3, e4⟩ := hSw
    go_simp; try with_reducible rfl
  try simp only [Act.put, List.setIfInBounds_toArray, List.set_cons_zero, List.set_cons_succ]
  refine wpAnyH_take (i := 12) (v := ?_) (by simp only [List.getElem?_toArray, List.getElem?_cons_succ, List.getElem?_cons_zero]; rfl) (by kernel_rfl) (by kernel_rfl) (by kernel_rfl) (by exact fun _ _ _ h => h) (Or.inl ⟨by rfl, ?_⟩) (by assumption) ?_
  rotate_left
  · intro w' hSw; (try dsimp only at hSw); obtain ⟨e0, e1, e2, e3, e4⟩ := hSw
    go_simp; try with_reducible rfl
  try simp only [Act.put, List.setIfInBounds_toArray, List.set_cons_zero, List.set_cons_succ]
  refine wpAnyH_take (i := 13) (v := ?_) (by simp only [List.getElem?_toArray, List.getElem?_cons_succ, List.getElem?_cons_zero]; rfl) (by kernel_rfl) (by kernel_rfl) (by kernel_rfl) (by exact fun _ _ _ h => h) (Or.inl ⟨by rfl, ?_⟩) (by assumption) ?_
  rotate_left
  · intro w' hSw; (try dsimp only at hSw); obtain ⟨e0, e1, e2, e3, e4⟩ := hSw
    go_simp; try with_reducible rfl
  try simp only [Act.put, List.setIfInBounds_toArray, List.set_cons_zero, List.set_cons_succ]
  refine wpAnyH_done (by kernel_rfl) ?_ _
  clear hHeld hH6 hH8 hS5 hS7 n0 n1 pe li sp HC1 HC2 HB5
  have HE7 := Lib.hid (HE1.out.later HB7.out)
  have HK7 : Hid (KP G W w7) := HK1.out.trans (KP.of_below HB7.out)
  have k0 := bkeep HB7.out k0
  have k1 := bkeep HB7.out k1
  have k2 := bkeep HB7.out k2
  have k3 := bkeep HB7.out k3
  have k4 := bkeep HB7.out k4
  have k5 := bkeep HB7.out k5
  have hsm := HE7.out.sm.cellAt 0 (by omega)
  have hsf := fun o => HE7.out.sm.frozenAt o
  have hbc : ∀ j (hj : j < 6), w7.cell? ⟨G, j, none⟩ = some ((patC bs)[j]'(by rw [patC_len]; omega)) := fun j hj => by
    have h := HE7.out.be.cellAt j (by omega)
    rw [h]; exact List.getElem?_eq_getElem _
  have hbf := fun o => HE7.out.be.frozenAt o
  have b0 := hbc 0 (by omega)
  have b1 := hbc 1 (by omega)
  have b2 := hbc 2 (by omega)
  have b3 := hbc 3 (by omega)
  have b4 := hbc 4 (by omega)
  have b5 := hbc 5 (by omega)
  simp only [List.getElem?_cons_zero] at hsm
  clear hbc
  generalize gapT n p (tT xs p k) stop = gp at *
  generalize (patC bs)[0]'_ = o0 at *
  generalize (patC bs)[1]'_ = o1 at *
  generalize (patC bs)[2]'_ = o2 at *
  generalize (patC bs)[3]'_ = o3 at *
  generalize (patC bs)[4]'_ = o4 at *
  generalize (patC bs)[5]'_ = o5 at *
  by_cases hc : gp < sml
  · have hd : decide (gp < sml) = true := decide_eq_true hc
    simp only [if_pos hc] at HSee
    have HEf := Lib.hid (HE7.out.put hbl x y z gp)
    have HKf := Lib.hid (((((((HK7.out.set (q := G) (o := 0) (u := .int .i64 x.line) (.inl rfl)).set (q := G) (o := 1) (u := .int .i64 x.offs) (.inl rfl)).set (q := G) (o := 2) (u := .int .i64 y.line) (.inl rfl)).set (q := G) (o := 3) (u := .int .i64 y.offs) (.inl rfl)).set (q := G) (o := 4) (u := .int .i64 z.line) (.inl rfl)).set (q := G) (o := 5) (u := .int .i64 z.offs) (.inl rfl)).set (q := G + 1) (o := 0) (u := .int .i64 gp) (.inr rfl))
    clear HE7 HK7
    go_wp2_with fail
    go_end0
    exact ⟨rfl, ⟨_, _, HEf.out, hms2.out ▸ HSee.out⟩, HKf.out⟩
  · have hd : decide (gp < sml) = false := decide_eq_false hc
    simp only [if_neg hc] at HSee
    go_wp2_with fail
    go_end0
    exact ⟨rfl, ⟨_, _, HE7.out, HSee.out⟩, HK7.out⟩

end Go.Proofs.Ytfgkfdkdjegaiaa
