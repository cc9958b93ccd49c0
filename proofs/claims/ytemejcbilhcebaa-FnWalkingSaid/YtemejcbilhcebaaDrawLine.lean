import Derived.Test.YtemejcbilhcebaaMk05
import Derived.Test.YtemejcbilhcebaaMk07
import Derived.Test.YtemejcbilhcebaaMk16
namespace Go.Proofs.Ytemejcbilhcebaa
open Go.RowKit
set_option linter.unusedVariables false
set_option linter.unusedSimpArgs false

theorem lit_row (w : World) (z : Int) : RowAt (w.alloc (.cells #[.int .i64 z] 3)) (.slice (some ⟨w.heap.size, 0, none⟩) 1 1) (ints [z]) := by
  have h := World.ownsRow_lit (base := 0) (e := 3) (size := 1) w #[.int .i64 z] 1 (Nat.zero_le _) (by decide) (by simp)
  exact rowAt_own (B := 0) (n := 1) (e := 3) (by simpa [ints] using h)
theorem _root_.Go.Proofs.Ytemejcbilhcebaa.RowAt.drewR {w : World} {v : Value} {xs : List Value} (h : RowAt w v xs) : RowAt w.drew v xs := h.below rfl (Below.refl _ _).drew
structure LnSt (w : World) (b n : Nat) (v : Value) (name : ByteArray) (xs rs : List Int) (sv rv : Value) (W : World) : Prop where
  cur : CurPost w b n v W
  c0 : W.cell? ⟨w.heap.size + 1, 0, none⟩ = some (.string name)
  c1 : W.cell? ⟨w.heap.size + 1, 1, none⟩ = some sv
  c2 : W.cell? ⟨w.heap.size + 1, 2, none⟩ = some rv
  f : ∀ o, W.frozen? ⟨w.heap.size + 1, o, none⟩ = false
  z : Z3 W w.heap.size
  rowS : W.ownsRow (w.heap.size + 2) 3 1 sv xs.length (ints xs)
  rowR : W.ownsRow (w.heap.size + 2) 3 1 rv rs.length (ints rs)
  ap : sv.ownBlock = none ∨ sv.ownBlock ≠ rv.ownBlock
theorem LnSt.lt {w : World} {b n : Nat} {v : Value} {name : ByteArray} {xs rs : List Int} {sv rv : Value} {W : World} (h : LnSt w b n v name xs rs sv rv W) : w.heap.size + 2 ≤ W.heap.size := by
  have := World.block_lt_of_cell? W _ h.c0; dsimp only at this; omega
theorem app_shape {w : World} {B : Nat} {e : TypeId} {sz : Nat} {v' : Value} {xs : List Int} {z : Int} {L : List Value} (h : w.ownsRow B e sz v' (xs ++ [z]).length L) : ∃ va vc, v' = .slice va (xs.length + 1) vc := by
  obtain ⟨va, vc, rfl⟩ := own_shape h
  exact ⟨va, vc, by simp⟩

theorem LnSt.keep {w : World} {b n m : Nat} {v : Value} {name : ByteArray} {xs rs : List Int} {sv rv : Value} {W W' : World} (h : LnSt w b n v name xs rs sv rv W) (hc : CurPost w b m v W') (hz : W.heap.size ≤ W'.heap.size) (hk : ∀ q, w.heap.size ≤ q → q < W.heap.size → W'.heap[q]? = W.heap[q]?) : LnSt w b m v name xs rs sv rv W' := by
  have hl := h.lt
  have cell : ∀ o u, W.cell? ⟨w.heap.size + 1, o, none⟩ = some u → W'.cell? ⟨w.heap.size + 1, o, none⟩ = some u := fun o u hu => by rw [World.cell?_of_block (hk (w.heap.size + 1) (by omega) (by omega))]; exact hu
  have cell0 : ∀ o u, W.cell? ⟨w.heap.size, o, none⟩ = some u → W'.cell? ⟨w.heap.size, o, none⟩ = some u := fun o u hu => by rw [World.cell?_of_block (hk w.heap.size (by omega) (by omega))]; exact hu
  refine ⟨hc, cell _ _ h.c0, cell _ _ h.c1, cell _ _ h.c2, fun o => by rw [World.frozen?_of_block (a := ⟨w.heap.size + 1, o, none⟩) (hk (w.heap.size + 1) (by omega) (by omega))]; exact h.f o, ?_, own_block h.rowS (fun g hg => hk g (by have := (h.rowS.lt g hg).1; omega) (h.rowS.lt g hg).2), own_block h.rowR (fun g hg => hk g (by have := (h.rowR.lt g hg).1; omega) (h.rowR.lt g hg).2), h.ap⟩
  obtain ⟨z0, z1, z2, zl, zf⟩ := h.z
  exact ⟨cell0 _ _ z0, cell0 _ _ z1, cell0 _ _ z2, by omega, fun o => by rw [World.frozen?_of_block (a := ⟨w.heap.size, o, none⟩) (hk w.heap.size (by omega) (by omega))]; exact zf o⟩
theorem LnSt.cur' {w : World} {b n m : Nat} {v : Value} {name : ByteArray} {xs rs : List Int} {sv rv : Value} {W W' : World} (h : LnSt w b n v name xs rs sv rv W) (hb : b < w.heap.size) (hp : CurPost W b m v W') : LnSt w b m v name xs rs sv rv W' :=
  h.keep (curPost_trans h.cur hp) hp.2.2.size (fun q h1 h2 => hp.2.2.block q h2 (by simp; omega))
theorem LnSt.later {w : World} {b n : Nat} {v : Value} {name : ByteArray} {xs rs : List Int} {sv rv : Value} {W W' : World} (h : LnSt w b n v name xs rs sv rv W) (hv : CodeOff w b v) (hb : b < w.heap.size) (hW : Below W.heap.size W W') : LnSt w b n v name xs rs sv rv W' :=
  h.keep (curPost_later hv hb h.cur hW) hW.size (fun q _ h2 => hW.block q h2)
theorem LnSt.alloc {w : World} {b n : Nat} {v : Value} {name : ByteArray} {xs rs : List Int} {sv rv : Value} {W : World} (h : LnSt w b n v name xs rs sv rv W) (o : Obj) : LnSt w b n v name xs rs sv rv (W.alloc o) :=
  h.keep (curPost_alloc h.cur o) (by simp) (fun q _ h2 => Below.heap_alloc _ _ _ h2)
theorem LnSt.drew {w : World} {b n : Nat} {v : Value} {name : ByteArray} {xs rs : List Int} {sv rv : Value} {W : World} (h : LnSt w b n v name xs rs sv rv W) : LnSt w b n v name xs rs sv rv W.drew :=
  h.keep (W' := W.drew) ⟨curAt_drewN (m := 1) h.cur.1, codeOff_grown h.cur.2.1 (grown_drewN (m := 1) (r := some b)), grown_trans h.cur.2.2 (grown_drewN (m := 1))⟩ (Nat.le_refl _) (fun q _ _ => rfl)

theorem LnSt.appS {w : World} {b n : Nat} {v : Value} {name : ByteArray} {xs rs : List Int} {sv rv : Value} {W : World} (h : LnSt w b n v name xs rs sv rv W) (hv : CodeOff w b v) (hb : b < w.heap.size) {g : Nat} {z : Int} (hy : RowAt W (.slice (some ⟨g, 0, none⟩) 1 1) (ints [z])) (hx : xs.length ≤ 100) :
    ∃ v' W2, (Builtin.append_ #[34, 34] 34 #[sv, .slice (some ⟨g, 0, none⟩) 1 1]).run Try.prog W = .ok v' W2 ∧ LnSt w b n v name (xs ++ [z]) rs v' rv (W2.setCell ⟨w.heap.size + 1, 1, none⟩ v') ∧ W2.cell? ⟨w.heap.size + 1, 1, none⟩ = some sv ∧ (∀ o, W2.frozen? ⟨w.heap.size + 1, o, none⟩ = false) ∧ W.grownBy W2 sv.ownBlock ∧ W2.ownsRow (w.heap.size + 2) 3 1 v' (xs ++ [z]).length (ints (xs ++ [z])) ∧ (v'.ownBlock = sv.ownBlock ∨ v'.ownBlock = some W.heap.size) := by
  have hl := h.lt
  obtain ⟨v', W2, h1, h2, h3, h5⟩ := run_append_ints W (w.heap.size + 2) xs.length sv xs h.rowS g 0 1 [z] hy (by simp; omega) hl
  have far : ∀ q, q < w.heap.size + 2 → some q ≠ sv.ownBlock := fun q hq e => by have := (h.rowS.lt q e.symm).1; omega
  have c0 := h3.cell (a := ⟨w.heap.size + 1, 0, none⟩) h.c0 (far _ (by dsimp only; omega))
  have c1 := h3.cell (a := ⟨w.heap.size + 1, 1, none⟩) h.c1 (far _ (by dsimp only; omega))
  have c2 := h3.cell (a := ⟨w.heap.size + 1, 2, none⟩) h.c2 (far _ (by dsimp only; omega))
  have hf : ∀ o, W2.frozen? ⟨w.heap.size + 1, o, none⟩ = false := fun o => by rw [h3.frozen_far ⟨w.heap.size + 1, o, none⟩ (by dsimp only; omega) (far _ (by dsimp only; omega))]; exact h.f o
  have hO : W2.ownsRow (w.heap.size + 2) 3 1 v' (xs ++ [z]).length (ints (xs ++ [z])) := by rw [List.length_append]; exact h2
  have hR : W2.ownsRow (w.heap.size + 2) 3 1 rv rs.length (ints rs) := h.rowR.kept h3 (by
    rcases h.ap with e | e
    · rcases hr : rv.ownBlock with _ | q
      · exact .inl rfl
      · exact .inr (by rw [e]; simp)
    · exact .inr (fun h => e h.symm))
  obtain ⟨z0, z1, z2, zl, zf⟩ := h.z
  have hC : CurPost w b n v W2 := cur_grown hv hb h.cur h3 (fun q hq => by have := (h.rowS.lt q hq).1; omega)
  refine ⟨v', W2, h1, ⟨curPost_set hv hC (by omega) (by omega), ?_, ?_, ?_, ?_, ⟨?_, ?_, ?_, ?_, ?_⟩, ownsRow_setCell_below hO (by dsimp only; omega) _, ownsRow_setCell_below hR (by dsimp only; omega) _, ?_⟩, c1, hf, h3, hO, h5⟩
  · rw [World.cell?_setCell_other _ _ _ _ (fun e => by simp at e)]; exact c0
  · exact World.cell?_setCell_same _ _ _ c1
  · rw [World.cell?_setCell_other _ _ _ _ (fun e => by simp at e)]; exact c2
  · intro o; rw [World.frozen?_setCell]; exact hf o
  · rw [World.cell?_setCell_other _ _ _ _ (fun e => by simp at e)]; exact h3.cell (a := ⟨w.heap.size, 0, none⟩) z0 (far _ (by dsimp only; omega))
  · rw [World.cell?_setCell_other _ _ _ _ (fun e => by simp at e)]; exact h3.cell (a := ⟨w.heap.size, 1, none⟩) z1 (far _ (by dsimp only; omega))
  · rw [World.cell?_setCell_other _ _ _ _ (fun e => by simp at e)]; exact h3.cell (a := ⟨w.heap.size, 2, none⟩) z2 (far _ (by dsimp only; omega))
  · have := h3.size; simp [World.setCell]; omega
  · intro o; rw [World.frozen?_setCell, h3.frozen_far ⟨w.heap.size, o, none⟩ (by dsimp only; omega) (far _ (by dsimp only; omega))]; exact zf o
  · rcases h5 with e | e
    · rw [e]; exact h.ap
    · refine .inr (fun h' => ?_)
      have := (h.rowR.lt W.heap.size (by rw [← h', e])).2
      omega
theorem LnSt.appR {w : World} {b n : Nat} {v : Value} {name : ByteArray} {xs rs : List Int} {sv rv : Value} {W : World} (h : LnSt w b n v name xs rs sv rv W) (hv : CodeOff w b v) (hb : b < w.heap.size) {g : Nat} {z : Int} (hy : RowAt W (.slice (some ⟨g, 0, none⟩) 1 1) (ints [z])) (hx : rs.length ≤ 100) :
    ∃ v' W2, (Builtin.append_ #[34, 34] 34 #[rv, .slice (some ⟨g, 0, none⟩) 1 1]).run Try.prog W = .ok v' W2 ∧ LnSt w b n v name xs (rs ++ [z]) sv v' (W2.setCell ⟨w.heap.size + 1, 2, none⟩ v') ∧ W2.cell? ⟨w.heap.size + 1, 2, none⟩ = some rv ∧ (∀ o, W2.frozen? ⟨w.heap.size + 1, o, none⟩ = false) := by
  have hl := h.lt
  obtain ⟨v', W2, h1, h2, h3, h5⟩ := run_append_ints W (w.heap.size + 2) rs.length rv rs h.rowR g 0 1 [z] hy (by simp; omega) hl
  have far : ∀ q, q < w.heap.size + 2 → some q ≠ rv.ownBlock := fun q hq e => by have := (h.rowR.lt q e.symm).1; omega
  have c0 := h3.cell (a := ⟨w.heap.size + 1, 0, none⟩) h.c0 (far _ (by dsimp only; omega))
  have c1 := h3.cell (a := ⟨w.heap.size + 1, 1, none⟩) h.c1 (far _ (by dsimp only; omega))
  have c2 := h3.cell (a := ⟨w.heap.size + 1, 2, none⟩) h.c2 (far _ (by dsimp only; omega))
  have hf : ∀ o, W2.frozen? ⟨w.heap.size + 1, o, none⟩ = false := fun o => by rw [h3.frozen_far ⟨w.heap.size + 1, o, none⟩ (by dsimp only; omega) (far _ (by dsimp only; omega))]; exact h.f o
  have hO : W2.ownsRow (w.heap.size + 2) 3 1 v' (rs ++ [z]).length (ints (rs ++ [z])) := by rw [List.length_append]; exact h2
  have hS : W2.ownsRow (w.heap.size + 2) 3 1 sv xs.length (ints xs) := h.rowS.kept h3 h.ap
  obtain ⟨z0, z1, z2, zl, zf⟩ := h.z
  have hC : CurPost w b n v W2 := cur_grown hv hb h.cur h3 (fun q hq => by have := (h.rowR.lt q hq).1; omega)
  refine ⟨v', W2, h1, ⟨curPost_set hv hC (by omega) (by omega), ?_, ?_, ?_, ?_, ⟨?_, ?_, ?_, ?_, ?_⟩, ownsRow_setCell_below hS (by dsimp only; omega) _, ownsRow_setCell_below hO (by dsimp only; omega) _, ?_⟩, c2, hf⟩
  · rw [World.cell?_setCell_other _ _ _ _ (fun e => by simp at e)]; exact c0
  · rw [World.cell?_setCell_other _ _ _ _ (fun e => by simp at e)]; exact c1
  · exact World.cell?_setCell_same _ _ _ c2
  · intro o; rw [World.frozen?_setCell]; exact hf o
  · rw [World.cell?_setCell_other _ _ _ _ (fun e => by simp at e)]; exact h3.cell (a := ⟨w.heap.size, 0, none⟩) z0 (far _ (by dsimp only; omega))
  · rw [World.cell?_setCell_other _ _ _ _ (fun e => by simp at e)]; exact h3.cell (a := ⟨w.heap.size, 1, none⟩) z1 (far _ (by dsimp only; omega))
  · rw [World.cell?_setCell_other _ _ _ _ (fun e => by simp at e)]; exact h3.cell (a := ⟨w.heap.size, 2, none⟩) z2 (far _ (by dsimp only; omega))
  · have := h3.size; simp [World.setCell]; omega
  · intro o; rw [World.frozen?_setCell, h3.frozen_far ⟨w.heap.size, o, none⟩ (by dsimp only; omega) (far _ (by dsimp only; omega))]; exact zf o
  · rcases h5 with e | e
    · rw [e]; exact h.ap
    · rcases hs : sv.ownBlock with _ | q
      · exact .inl rfl
      · refine .inr (fun h' => ?_)
        have := (h.rowS.lt q hs).2
        rw [e] at h'
        simp at h'
        omega

theorem LnSt.fin {w : World} {b n : Nat} {v : Value} {name : ByteArray} {xs rs : List Int} {sv rv : Value} {W : World} (h : LnSt w b n v name xs rs sv rv W) (hv : CodeOff w b v) (hb : b < w.heap.size) (u0 u1 u2 : Value) :
    (((W.setCell ⟨w.heap.size, 0, none⟩ u0).setCell ⟨w.heap.size, 1, none⟩ u1).setCell ⟨w.heap.size, 2, none⟩ u2).ownsRow w.heap.size 3 1 sv xs.length (ints xs) ∧
    (((W.setCell ⟨w.heap.size, 0, none⟩ u0).setCell ⟨w.heap.size, 1, none⟩ u1).setCell ⟨w.heap.size, 2, none⟩ u2).ownsRow w.heap.size 3 1 rv rs.length (ints rs) ∧ (sv.ownBlock = none ∨ sv.ownBlock ≠ rv.ownBlock) ∧
    CurPost w b n v (((W.setCell ⟨w.heap.size, 0, none⟩ u0).setCell ⟨w.heap.size, 1, none⟩ u1).setCell ⟨w.heap.size, 2, none⟩ u2) := by
  have hne : ∀ q, w.heap.size + 2 ≤ q → q ≠ w.heap.size := fun q hq => by omega
  have st : ∀ {e : Value} {m : Nat} {zs : List Value} (V : World) (o : Nat) (u : Value), V.ownsRow (w.heap.size + 2) 3 1 e m zs → (V.setCell ⟨w.heap.size, o, none⟩ u).ownsRow (w.heap.size + 2) 3 1 e m zs := fun V o u ho => ownsRow_setCell_below ho (by dsimp only; omega) u
  exact ⟨own_base (st _ _ _ (st _ _ _ (st _ _ _ h.rowS))) (by omega), own_base (st _ _ _ (st _ _ _ (st _ _ _ h.rowR))) (by omega), h.ap,
    curPost_set hv (curPost_set hv (curPost_set hv h.cur (Nat.le_refl _) (by omega)) (Nat.le_refl _) (by omega)) (Nat.le_refl _) (by omega)⟩
theorem okL {name : ByteArray} {xs rs : List Int} {N : Nat} (h1 : 2 ≤ xs.length) (h2 : xs.length ≤ 6) (h3 : xs.Nodup) (h4 : ∀ s ∈ xs, 0 ≤ s ∧ s < (N : Int)) (h5 : rs.length + 1 = xs.length) (h6 : ∀ x ∈ rs, 3 ≤ x ∧ x ≤ 14) : LineOk ⟨name, xs, rs⟩ N :=
  ⟨⟨h1, h2, h5⟩, h4, h3, fun r hr => by have := h6 r hr; omega⟩
theorem snoc_nodup {xs : List Int} {a : Int} (h : xs.Nodup) (ha : a ∉ xs) : (xs ++ [a]).Nodup := by
  rw [List.nodup_append]
  exact ⟨h, by simp, fun x hx y hy => by simp at hy; subst hy; exact fun e => ha (e ▸ hx)⟩

set_option maxRecDepth 100000 in
set_option maxHeartbeats 8000000 in
theorem line_any (b n : Nat) (v : Value) (name : ByteArray) (N : Nat) (w : World) (hc : CurAt w b v n) (hv : CodeOff w b v) (hn : n ≤ 500000) (hN : 2 ≤ N) (hN6 : N ≤ 8) :
    Calls Try.prog 92 #[.pointer (some ⟨b, 0, none⟩), .string name, .int .i64 (N : Int)] w fun e w' => (∃ (l : LineD) (sv rv : Value), e = .returned (.agg #[.string name, sv, rv]) ∧ l.name = name ∧ LineOk l N ∧ w'.ownsRow w.heap.size 3 1 sv l.stops.length (ints l.stops) ∧ w'.ownsRow w.heap.size 3 1 rv l.runs.length (ints l.runs) ∧ (sv.ownBlock = none ∨ sv.ownBlock ≠ rv.ownBlock)) ∧ CurPost w b (n + 40) v w' := by
  have hlt := curAt_lt hc
  have HV := Lib.hid hv
  have hbn : ∀ W : World, (Instr.build 36 #[(0, .string name)]).run Try.prog W = .ok (.agg #[.string name, .slice none 0 0, .slice none 0 0]) W := fun W => run_build W 36 #[(0, .string name)] #[.string name, .slice none 0 0, .slice none 0 0] (by kernel_rfl)
  obtain ⟨wa, hwa⟩ : ∃ wa : World, wa = (w.alloc (.cells #[.string ⟨#[]⟩, .slice none 0 0, .slice none 0 0] 36)).alloc (.cells #[.string name, .slice none 0 0, .slice none 0 0] 36) := ⟨_, rfl⟩
  have HL0 : Hid (LnSt w b n v name [] [] (.slice none 0 0) (.slice none 0 0) wa) := by
    show LnSt _ _ _ _ _ _ _ _ _ _
    rw [hwa]
    refine ⟨curPost_alloc (curPost_start hc hv _) _, by go_simp, by go_simp, by go_simp, fun o => by go_simp, ?_, World.ownsRow_nil _ _ _ _, World.ownsRow_nil _ _ _ _, .inl rfl⟩
    exact (Z3.new w).later ((Below.refl _ _).alloc (Nat.le_refl _) _)
  have H1 := Lib.hid (pick_any b n v (N : Int) wa HL0.out.cur.1 HL0.out.cur.2.1 (by omega) (by omega))
  have HWA := Lib.hid hwa
  clear hc hv hwa
  go_enter Try.func92, Try.ntmps92
  go_wp2_with fail
  rw [← HWA.out]
  go_at_call 42
  refine H1.out.mono ?_
  rintro e w1 ⟨⟨a0, rfl, ha0, ha1⟩, hp⟩
  have ha2 := ha1 (by omega)
  have HL1 := Lib.hid (HL0.out.cur' hlt hp)
  clear hp H1 ha1 HL0 HWA
  have H2 := Lib.hid (pick_any b (n + 2) v 3 w1 HL1.out.cur.1 HL1.out.cur.2.1 (by omega) (by omega))
  go_wp2_with fail
  go_at_call 42
  refine H2.out.mono ?_
  rintro e w2 ⟨⟨k0, rfl, hk0, hk1⟩, hp⟩
  have hk2 := hk1 (by omega)
  have HL2 := Lib.hid (HL1.out.cur' hlt hp)
  obtain ⟨kn, rfl⟩ := Int.eq_ofNat_of_zero_le hk0
  clear hp H2 hk1 HL1
  go_wp2_with fail
  go_loopw [8, 9] (fun p q wr => ∃ (k : Nat) (a : Int) (xs : List Int) (sv : Value) (m : Nat), k ≤ 4 ∧ xs.length + k ≤ 4 ∧ (2 ≤ k ∨ 1 ≤ xs.length) ∧ m ≤ n + 4 + 2 * (4 - k) ∧ q = .int .i64 (k : Int) ∧ p = .int .i64 a ∧ 0 ≤ a ∧ a < (N : Int) ∧ Hid xs.Nodup ∧ Hid (∀ s ∈ xs, 0 ≤ s ∧ s < (N : Int)) ∧ Hid (LnSt w b m v name xs [] sv (.slice none 0 0) wr)) (fun _ q _ => (RowKit.intOf q).toNat)
  case atStart => exact ⟨2 + kn, a0, [], .slice none 0 0, n + 2 + 2, by omega, by simp; omega, by omega, by omega, by go_num, rfl, ha0, ha2, List.nodup_nil, (fun s hs => by simp at hs), HL2⟩
  case round =>
    clear HL2 ha0 ha2
    obtain ⟨wo, rfl⟩ : ∃ wo : World, wo = wr := ⟨_, rfl⟩
    obtain ⟨k, a, xs, sv, m, hk4, hxk, hk2x, hm, rfl, rfl, ha0, ha1, HNd, HIn, HL⟩ := hrel
    have b0 := HL.out.c0
    have b1 := HL.out.c1
    have b2 := HL.out.c2
    have hf := HL.out.f
    obtain ⟨sa, sc, rfl⟩ := own_shape HL.out.rowS
    by_cases hk : 0 < k
    · have hk1 : (0 : Int) < (k : Int) := by omega
      have HPl := Lib.hid (l2Place_any (.agg #[.string name, .slice sa xs.length sc, .slice none 0 0]) ⟨name, xs, []⟩ a wo ⟨_, _, rfl, rowAt_own HL.out.rowS, rowAt_own HL.out.rowR⟩)
      have e0 := Int.emod_nonneg (a + 1) (b := (N : Int)) (by omega)
      go_wp2_with fail
      go_at_call 114
      refine HPl.out.mono ?_
      rintro e w3 ⟨rfl, hb⟩
      have HL3 := Lib.hid (HL.out.later HV.out hlt hb)
      clear hb HL HPl b0 b1 b2 hf e0
      by_cases hmem : a ∈ xs
      · obtain ⟨j, hj, -⟩ := fstIdx_get a xs hmem
        rw [hj]
        have hj1 : ¬ (j : Int) < 0 := by omega
        have hxl := List.length_pos_of_mem hmem
        have H4 := Lib.hid (pick_any b m v 2 w3 HL3.out.cur.1 HL3.out.cur.2.1 (by omega) (by omega))
        go_wp2_with fail
        go_at_call 42
        refine H4.out.mono ?_
        rintro e w6 ⟨⟨r, rfl, r0, r1⟩, hp⟩
        have hr := r1 (by omega)
        have HL6 := Lib.hid (HL3.out.cur' hlt hp)
        clear hp r1 H4
        have e0 := Int.emod_nonneg (a + 1 + r) (b := (N : Int)) (by omega)
        have e1 := Int.emod_lt_of_pos (a + 1 + r) (b := (N : Int)) (by omega)
        go_wp2_with fail
        go_roundw
        case rel => exact ⟨k - 1, _, xs, .slice sa xs.length sc, m + 2, by omega, by first | omega | (simp; done) | (simp; omega), by first | omega | (simp; done) | (simp; omega), by omega, by rw [show ((k - 1 : Nat) : Int) = (k : Int) - 1 by omega], rfl, by omega, by omega, HNd, HIn, HL6⟩
        case measure => simp [RowKit.intOf]; omega
      · rw [fstIdx_none hmem]
        have b1 := HL3.out.c1
        obtain ⟨v', w4, hrun, hL4, c1', hf', -⟩ := (HL3.out.alloc (.cells #[.int .i64 a] 3)).appS HV.out hlt (lit_row w3 a) (by omega)
        obtain ⟨va, vc, rfl⟩ := app_shape hL4.rowS
        obtain ⟨w5, hw5⟩ : ∃ w5 : World, w5 = w4.setCell ⟨w.heap.size + 1, 1, none⟩ (.slice va (xs.length + 1) vc) := ⟨_, rfl⟩
        rw [← hw5] at hL4
        have HL4 := Lib.hid hL4
        have HW5 := Lib.hid hw5
        have H4 := Lib.hid (pick_any b m v 2 w5 hL4.cur.1 hL4.cur.2.1 (by omega) (by omega))
        have HNd2 := Lib.hid (snoc_nodup HNd.out hmem)
        have HIn2 : Hid (∀ s ∈ xs ++ [a], 0 ≤ s ∧ s < (N : Int)) := fun s hs => by
          rcases List.mem_append.1 hs with hs | hs
          · exact HIn.out s hs
          · simp at hs; subst hs; exact ⟨ha0, ha1⟩
        clear hL4 hw5 hmem HL3
        go_wp2_with (at_builtin; refine wpList_append_run rfl (.tmp 28) (.tmp 30) 34 rfl rfl rfl hrun ?_)
        rw [← HW5.out]
        go_at_call 42
        refine H4.out.mono ?_
        rintro e w6 ⟨⟨r, rfl, r0, r1⟩, hp⟩
        have hr := r1 (by omega)
        have HL6 := Lib.hid (HL4.out.cur' hlt hp)
        clear hp r1 H4
        have e0 := Int.emod_nonneg (a + 1 + r) (b := (N : Int)) (by omega)
        have e1 := Int.emod_lt_of_pos (a + 1 + r) (b := (N : Int)) (by omega)
        go_wp2_with fail
        go_roundw
        case rel => exact ⟨k - 1, _, xs ++ [a], .slice va (xs.length + 1) vc, m + 2, by omega, by first | omega | (simp; done) | (simp; omega), by first | omega | (simp; done) | (simp; omega), by omega, by rw [show ((k - 1 : Nat) : Int) = (k : Int) - 1 by omega], rfl, by omega, by omega, HNd2, HIn2, HL6⟩
        case measure => simp [RowKit.intOf]; omega
    · obtain rfl : k = 0 := by omega
      have hk1 : ¬ (0 : Int) < ((0 : Nat) : Int) := by omega
      have hxl : 1 ≤ xs.length := by omega
      obtain ⟨g, rfl⟩ : ∃ g, sa = some ⟨g, 0, none⟩ := by
        rcases HL.out.rowS.2 with ⟨hv, h0⟩ | ⟨g, cap, cur, hv, _⟩
        · omega
        · simp at hv; exact ⟨g, hv.1⟩
      by_cases hx2 : xs.length < 2
      · have hx3 : (xs.length : Int) < 2 := by omega
        obtain ⟨s, rfl⟩ : ∃ s, xs = [s] := by
          match xs, hxl, hx2 with
          | [s], _, _ => exact ⟨s, rfl⟩
        have hs := HIn.out s (by simp)
        have q0 : wo.cell? ⟨g, 0, none⟩ = some (.int .i64 s) := by
          have := HL.out.rowS.cellAt 0 (by simp); simpa [ints] using this
        obtain ⟨z, hz⟩ : ∃ z, z = (s + 1) % (N : Int) := ⟨_, rfl⟩
        have hz0 := Int.emod_nonneg (s + 1) (b := (N : Int)) (by omega)
        have hz1 := Int.emod_lt_of_pos (s + 1) (b := (N : Int)) (by omega)
        have hzs : z ≠ s := by
          by_cases h : s + 1 < (N : Int)
          · rw [hz, Int.emod_eq_of_lt (by omega) h]; omega
          · have : s + 1 = (N : Int) := by omega
            rw [hz, this, Int.emod_self]; omega
        have HNd2 : Hid ([s] ++ [z]).Nodup := snoc_nodup HNd.out (by simpa using hzs)
        have HIn2 : Hid (∀ y ∈ [s] ++ [z], 0 ≤ y ∧ y < (N : Int)) := fun y hy => by
          rcases List.mem_append.1 hy with hy | hy
          · exact HIn.out y hy
          · simp at hy; subst hy; rw [hz]; exact ⟨hz0, hz1⟩
        have htm : (s + 1).tmod (N : Int) = z := by rw [hz, Int.tmod_eq_emod_of_nonneg (by omega)]
        have hw1 : IntKind.i64.wrap (s + 1) = s + 1 := IntWalk.i64_in _ (by omega)
        have HZ := Lib.hid hz
        have hN0 : ¬ N = 0 := by omega
        clear hz hz0 hz1 hzs
        go_wp2_with fail
        refine wp_region_until 12 (S := (fun w' => w'.cell? ⟨w.heap.size + 1, 1, none⟩ = some (.slice (some ⟨g, 0, none⟩) 1 sc))) (by kernel_rfl) ?_ (fun hHeld => ?_)
        · exact b1
        refine wpAnyU_take (i := 0) (v := ?_) (by simp only [List.getElem?_toArray, List.getElem?_cons_zero]; rfl) (by kernel_rfl) (by kernel_rfl) (by kernel_rfl) (by kernel_rfl) (by kernel_rfl) (by exact fun _ _ _ h => h) (Or.inl ⟨by rfl, ?_⟩) (by assumption) ?_
        rotate_left
        · intro w' hSw; go_simp; try with_reducible rfl
        try simp only [Act.put, List.setIfInBounds_toArray, List.set_cons_zero, List.set_cons_succ]
        refine wpAnyU_take (i := 1) (v := ?_) (by simp only [List.getElem?_toArray, List.getElem?_cons_succ, List.getElem?_cons_zero]; rfl) (by kernel_rfl) (by kernel_rfl) (by kernel_rfl) (by kernel_rfl) (by kernel_rfl) (by exact fun _ _ _ h => h) (Or.inl ⟨by rfl, ?_⟩) (by assumption) ?_
        rotate_left
        · intro w' hSw; go_simp; try with_reducible rfl
        try simp only [Act.put, List.setIfInBounds_toArray, List.set_cons_zero, List.set_cons_succ]
        refine wpAnyU_take (i := 2) (v := ?_) (by simp only [List.getElem?_toArray, List.getElem?_cons_succ, List.getElem?_cons_zero]; rfl) (by kernel_rfl) (by kernel_rfl) (by kernel_rfl) (by kernel_rfl) (by kernel_rfl) (by exact fun _ _ _ h => h) (Or.inl ⟨by rfl, ?_⟩) (by assumption) ?_
        rotate_left
        · intro w' hSw; go_simp; try with_reducible rfl
        try simp only [Act.put, List.setIfInBounds_toArray, List.set_cons_zero, List.set_cons_succ]
        refine wpAnyU_take (i := 3) (v := ?_) (by simp only [List.getElem?_toArray, List.getElem?_cons_succ, List.getElem?_cons_zero]; rfl) (by kernel_rfl) (by kernel_rfl) (by kernel_rfl) (by kernel_rfl) (by kernel_rfl) (by exact fun _ _ _ h => h) (Or.inl ⟨by rfl, ?_⟩) (by assumption) ?_
        rotate_left
        · intro w' hSw; go_simp; try with_reducible rfl
        try simp only [Act.put, List.setIfInBounds_toArray, List.set_cons_zero, List.set_cons_succ]
        refine wpAnyU_take (i := 4) (v := ?_) (by simp only [List.getElem?_toArray, List.getElem?_cons_succ, List.getElem?_cons_zero]; rfl) (by kernel_rfl) (by kernel_rfl) (by kernel_rfl) (by kernel_rfl) (by kernel_rfl) (by exact fun _ _ _ h => h) (Or.inl ⟨by rfl, ?_⟩) (by assumption) ?_
        rotate_left
        · intro w' hSw; go_simp; try with_reducible rfl
        try simp only [Act.put, List.setIfInBounds_toArray, List.set_cons_zero, List.set_cons_succ]
        refine wpAnyU_take (i := 7) (v := ?_) (by simp only [List.getElem?_toArray, List.getElem?_cons_succ, List.getElem?_cons_zero]; rfl) (by kernel_rfl) (by kernel_rfl) (by kernel_rfl) (by kernel_rfl) (by kernel_rfl) (by exact fun _ _ _ h => h) (Or.inl ⟨by rfl, ?_⟩) (by assumption) ?_
        rotate_left
        · intro w' hSw; go_simp; try with_reducible rfl
        try simp only [Act.put, List.setIfInBounds_toArray, List.set_cons_zero, List.set_cons_succ]
        refine wpAnyU_ready (rs := [5]) (by kernel_rfl) (by simp) ?_
        refine AllReadyU.cons (by simp only [List.getElem?_toArray, List.getElem?_cons_succ, List.getElem?_cons_zero]; rfl) (fun K hK => ?_) AllReadyU.nil
        go_simp
        refine hK.out _ _ hHeld (fun hH5 => ?_)
        clear hK K
        try simp only [Act.put, List.setIfInBounds_toArray, List.set_cons_zero, List.set_cons_succ]
        refine wpAnyU_take (i := 6) (v := ?_) (by simp only [List.getElem?_toArray, List.getElem?_cons_succ, List.getElem?_cons_zero]; rfl) (by kernel_rfl) (by kernel_rfl) (by kernel_rfl) (by kernel_rfl) (by kernel_rfl) (by exact fun _ _ _ h => h) (Or.inl ⟨by rfl, ?_⟩) (by assumption) ?_
        rotate_left
        · intro w' hSw; go_simp; try with_reducible rfl
        try simp only [Act.put, List.setIfInBounds_toArray, List.set_cons_zero, List.set_cons_succ]
        refine wpAnyU_take (i := 8) (v := ?_) (by simp only [List.getElem?_toArray, List.getElem?_cons_succ, List.getElem?_cons_zero]; rfl) (by kernel_rfl) (by kernel_rfl) (by kernel_rfl) (by kernel_rfl) (by kernel_rfl) (by exact fun _ _ _ h => h) (Or.inl ⟨by rfl, ?_⟩) (by assumption) ?_
        rotate_left
        · intro w' hSw; go_simp; try with_reducible rfl
        try simp only [Act.put, List.setIfInBounds_toArray, List.set_cons_zero, List.set_cons_succ]
        refine wpAnyU_ready (rs := [9]) (by kernel_rfl) (by simp) ?_
        refine AllReadyU.cons (by simp only [List.getElem?_toArray, List.getElem?_cons_succ, List.getElem?_cons_zero]; rfl) (fun K hK => ?_) AllReadyU.nil
        go_simp
        have HLA := Lib.hid ((HL.out.alloc (.cells #[.int .i64 z] 3)).drew)
        have hyA := (lit_row wo z).drewR
        have hSA : (wo.alloc (.cells #[.int .i64 z] 3)).drew.cell? ⟨w.heap.size + 1, 1, none⟩ = some (.slice (some ⟨g, 0, none⟩) 1 sc) := HLA.out.c1
        obtain ⟨wA, hwA⟩ : ∃ wA : World, wA = (wo.alloc (.cells #[.int .i64 z] 3)).drew := ⟨_, rfl⟩
        rw [← hwA] at HLA hyA hSA
        have HY := Lib.hid hyA
        try rw [← hwA]
        clear hyA hwA
        refine hK.out _ _ hSA (fun hH9 => ?_)
        clear hK K
        try simp only [Act.put, List.setIfInBounds_toArray, List.set_cons_zero, List.set_cons_succ]
        refine wpAnyU_ready (rs := [10]) (by kernel_rfl) (by simp) ?_
        refine AllReadyU.cons (by simp only [List.getElem?_toArray, List.getElem?_cons_succ, List.getElem?_cons_zero]; rfl) (fun K hK => ?_) AllReadyU.nil
        obtain ⟨v', w2, hrun, HL2, b1, hf, -, hO2, h52⟩ := HLA.out.appS HV.out hlt HY.out (by simp)
        obtain ⟨va, vc, rfl⟩ := app_shape HL2.rowS
        have HL3 : Hid (LnSt w b m v name ([s] ++ [z]) [] (.slice va 2 vc) (.slice none 0 0) (w2.setCell ⟨w.heap.size + 1, 1, none⟩ (.slice va 2 vc))) := HL2
        clear hO2 h52
        refine step_append_run rfl (.tmp 45) (.tmp 53) 34 rfl rfl rfl hrun ?_
        clear hrun HL2
        refine hK.out _ _ b1 (fun hH10 => ?_)
        clear hK K
        try simp only [Act.put, List.setIfInBounds_toArray, List.set_cons_zero, List.set_cons_succ]
        refine wpAnyU_take (i := 11) (v := ?_) (by simp only [List.getElem?_toArray, List.getElem?_cons_succ, List.getElem?_cons_zero]; rfl) (by kernel_rfl) (by kernel_rfl) (by kernel_rfl) (by kernel_rfl) (by kernel_rfl) (by exact fun _ _ _ h => h) (Or.inl ⟨by rfl, ?_⟩) (by assumption) ?_
        rotate_left
        · intro w' hSw; go_simp; try with_reducible rfl
        try simp only [Act.put, List.setIfInBounds_toArray, List.set_cons_zero, List.set_cons_succ]
        refine wpAnyU_ready (rs := [12]) (by kernel_rfl) (by simp) ?_
        refine AllReadyU.last (by simp only [List.getElem?_toArray, List.getElem?_cons_succ, List.getElem?_cons_zero]; rfl) (by kernel_rfl) (fun K hK => ?_)
        go_simp
        refine hK.out _ _ ?_
        clear hK K
        try simp only [Act.put, List.setIfInBounds_toArray, List.set_cons_zero, List.set_cons_succ]
        refine wpAnyU_done (by kernel_rfl) ?_ _
        clear hH5 hH9 hH10 hSA hHeld b1 hf
        obtain ⟨w3, hw3⟩ : ∃ w3 : World, w3 = w2.setCell ⟨w.heap.size + 1, 1, none⟩ (.slice va 2 vc) := ⟨_, rfl⟩
        rw [← hw3] at HL3 ⊢
        clear hw3
        have HLS : Hid (LnSt w b m v name ([s] ++ [z]) [] (.slice va 2 vc) (.slice none 0 0) w3) := HL3
        have HOk : Hid (∀ rs : List Int, rs.length + 1 = ([s] ++ [z]).length → (∀ x ∈ rs, 3 ≤ x ∧ x ≤ 14) → LineOk ⟨name, [s] ++ [z], rs⟩ N) := fun rs h1 h2 => okL (by simp) (by simp) HNd2.out HIn2.out h1 h2
        clear HL HLA HY HL3 HNd2 HIn2
        generalize hys : [s] ++ [z] = ys at HLS HOk
        have hyl : ys.length = 2 := by rw [← hys]; rfl
        have hyl2 : 2 ≤ ys.length ∧ ys.length ≤ 6 := by omega
        have hxs2 : Hid (ys.length = 2) := hyl
        clear hys hyl
        obtain ⟨svv, hsvv⟩ : ∃ svv : Value, svv = .slice va 2 vc := ⟨_, rfl⟩
        have HSV := Lib.hid hsvv
        rw [← hsvv] at HLS
        clear hsvv
        go_wp2_with fail
        go_loopw [10] (fun q wr => ∃ (rs : List Int) (rv : Value) (p : Nat), rs.length + 1 ≤ ys.length ∧ p ≤ m + 2 * rs.length ∧ q = .int .i64 ((rs.length : Int) + 1) ∧ Hid (∀ x ∈ rs, 3 ≤ x ∧ x ≤ 14) ∧ Hid (LnSt w b p v name ys rs svv rv wr)) (fun q _ => ys.length - (RowKit.intOf q).toNat)
        case atStart => exact ⟨[], .slice none 0 0, m, by simp; omega, by simp, by simp, (fun x hx => by simp at hx), HLS⟩
        case round =>
          clear HLS HSV
          obtain ⟨wp, rfl⟩ : ∃ wp : World, wp = wr := ⟨_, rfl⟩
          obtain ⟨rs, rv, p, hrl, hp2, rfl, HRs, HL⟩ := hrel
          have b1 := HL.out.c1
          have b2 := HL.out.c2
          have hf := HL.out.f
          obtain ⟨sa2, sc2, rfl⟩ := own_shape HL.out.rowS
          obtain ⟨ra, rc, rfl⟩ := own_shape HL.out.rowR
          by_cases hgo : rs.length + 1 < ys.length
          · have hg1 : (rs.length : Int) + 1 < (ys.length : Int) := by omega
            have hrs6 : rs.length ≤ 6 := by omega
            go_wp2_with fail
            refine wp_region_until 8 (S := (fun w' => w'.cell? ⟨w.heap.size + 1, 2, none⟩ = some (.slice ra rs.length rc))) (by kernel_rfl) ?_ (fun hHeld => ?_)
            · exact b2
            refine wpAnyU_take (i := 0) (v := ?_) (by simp only [List.getElem?_toArray, List.getElem?_cons_zero]; rfl) (by kernel_rfl) (by kernel_rfl) (by kernel_rfl) (by kernel_rfl) (by kernel_rfl) (by exact fun _ _ _ h => h) (Or.inl ⟨by rfl, ?_⟩) (by assumption) ?_
            rotate_left
            · intro w' hSw; go_simp; try with_reducible rfl
            try simp only [Act.put, List.setIfInBounds_toArray, List.set_cons_zero, List.set_cons_succ]
            refine wpAnyU_take (i := 1) (v := ?_) (by simp only [List.getElem?_toArray, List.getElem?_cons_succ, List.getElem?_cons_zero]; rfl) (by kernel_rfl) (by kernel_rfl) (by kernel_rfl) (by kernel_rfl) (by kernel_rfl) (by exact fun _ _ _ h => h) (Or.inl ⟨by rfl, ?_⟩) (by assumption) ?_
            rotate_left
            · intro w' hSw; go_simp; try with_reducible rfl
            try simp only [Act.put, List.setIfInBounds_toArray, List.set_cons_zero, List.set_cons_succ]
            refine wpAnyU_take (i := 2) (v := ?_) (by simp only [List.getElem?_toArray, List.getElem?_cons_succ, List.getElem?_cons_zero]; rfl) (by kernel_rfl) (by kernel_rfl) (by kernel_rfl) (by kernel_rfl) (by kernel_rfl) (by exact fun _ _ _ h => h) (Or.inl ⟨by rfl, ?_⟩) (by assumption) ?_
            rotate_left
            · intro w' hSw; go_simp; try with_reducible rfl
            try simp only [Act.put, List.setIfInBounds_toArray, List.set_cons_zero, List.set_cons_succ]
            refine wpAnyU_ready (rs := [3]) (by kernel_rfl) (by simp) ?_
            refine AllReadyU.cons (by simp only [List.getElem?_toArray, List.getElem?_cons_succ, List.getElem?_cons_zero]; rfl) (fun K hK => ?_) AllReadyU.nil
            go_simp
            go_at_call 42
            refine (pick_any b p v 12 wp.drew HL.out.drew.cur.1 HL.out.drew.cur.2.1 (by omega) (by omega)).mono ?_
            rintro e w1 ⟨⟨r, rfl, r0, r1⟩, hp⟩
            have hr := r1 (by omega)
            have HL1 := Lib.hid (HL.out.drew.cur' hlt hp)
            clear hp r1
            have hw3r : IntKind.i64.wrap (3 + r) = 3 + r := IntWalk.i64_in _ (by omega)
            have hS1 : w1.cell? ⟨w.heap.size + 1, 2, none⟩ = some (.slice ra rs.length rc) := HL1.out.c2
            go_wp2_with fail
            refine hK.out _ _ hS1 (fun hH3 => ?_)
            clear hK K
            try simp only [Act.put, List.setIfInBounds_toArray, List.set_cons_zero, List.set_cons_succ]
            refine wpAnyU_take (i := 4) (v := ?_) (by simp only [List.getElem?_toArray, List.getElem?_cons_succ, List.getElem?_cons_zero]; rfl) (by kernel_rfl) (by kernel_rfl) (by kernel_rfl) (by kernel_rfl) (by kernel_rfl) (by exact fun _ _ _ h => h) (Or.inl ⟨by rfl, ?_⟩) (by assumption) ?_
            rotate_left
            · intro w' hSw; go_simp; try with_reducible rfl
            try simp only [Act.put, List.setIfInBounds_toArray, List.set_cons_zero, List.set_cons_succ]
            refine wpAnyU_ready (rs := [5]) (by kernel_rfl) (by simp) ?_
            refine AllReadyU.cons (by simp only [List.getElem?_toArray, List.getElem?_cons_succ, List.getElem?_cons_zero]; rfl) (fun K hK => ?_) AllReadyU.nil
            go_simp
            have HLA := Lib.hid (HL1.out.alloc (.cells #[.int .i64 (3 + r)] 3))
            have HY := Lib.hid (lit_row w1 (3 + r))
            have hSA : (w1.alloc (.cells #[.int .i64 (3 + r)] 3)).cell? ⟨w.heap.size + 1, 2, none⟩ = some (.slice ra rs.length rc) := HLA.out.c2
            refine hK.out _ _ hSA (fun hH5 => ?_)
            clear hK K
            try simp only [Act.put, List.setIfInBounds_toArray, List.set_cons_zero, List.set_cons_succ]
            refine wpAnyU_ready (rs := [6]) (by kernel_rfl) (by simp) ?_
            refine AllReadyU.cons (by simp only [List.getElem?_toArray, List.getElem?_cons_succ, List.getElem?_cons_zero]; rfl) (fun K hK => ?_) AllReadyU.nil
            obtain ⟨v', w2, hrun, HL2, b2, hf⟩ := HLA.out.appR HV.out hlt HY.out (by omega)
            obtain ⟨va, vc, rfl⟩ := app_shape HL2.rowR
            have HL3 := Lib.hid HL2
            refine step_append_run rfl (.tmp 64) (.tmp 68) 34 rfl rfl rfl hrun ?_
            clear hrun HL2
            refine hK.out _ _ b2 (fun hH6 => ?_)
            clear hK K
            try simp only [Act.put, List.setIfInBounds_toArray, List.set_cons_zero, List.set_cons_succ]
            refine wpAnyU_take (i := 7) (v := ?_) (by simp only [List.getElem?_toArray, List.getElem?_cons_succ, List.getElem?_cons_zero]; rfl) (by kernel_rfl) (by kernel_rfl) (by kernel_rfl) (by kernel_rfl) (by kernel_rfl) (by exact fun _ _ _ h => h) (Or.inl ⟨by rfl, ?_⟩) (by assumption) ?_
            rotate_left
            · intro w' hSw; go_simp; try with_reducible rfl
            try simp only [Act.put, List.setIfInBounds_toArray, List.set_cons_zero, List.set_cons_succ]
            refine wpAnyU_ready (rs := [8]) (by kernel_rfl) (by simp) ?_
            refine AllReadyU.last (by simp only [List.getElem?_toArray, List.getElem?_cons_succ, List.getElem?_cons_zero]; rfl) (by kernel_rfl) (fun K hK => ?_)
            go_simp
            refine hK.out _ _ ?_
            clear hK K
            try simp only [Act.put, List.setIfInBounds_toArray, List.set_cons_zero, List.set_cons_succ]
            refine wpAnyU_done (by kernel_rfl) ?_ _
            clear hH3 hH5 hH6 hS1 hSA hHeld b2 hf
            obtain ⟨w3, hw3⟩ : ∃ w3 : World, w3 = w2.setCell ⟨w.heap.size + 1, 2, none⟩ (.slice va (rs.length + 1) vc) := ⟨_, rfl⟩
            rw [← hw3] at HL3 ⊢
            clear hw3
            go_wp2_with fail
            go_roundw
            case rel => exact ⟨rs ++ [3 + r], .slice va (rs.length + 1) vc, p + 2, by simp; omega, by simp; omega, by simp, (fun x hx => by rcases List.mem_append.1 hx with hx | hx; exact HRs.out x hx; simp at hx; subst hx; omega), HL3⟩
            case measure => simp [RowKit.intOf]; omega
          · have hg1 : ¬ (rs.length : Int) + 1 < (ys.length : Int) := by omega
            have b0 := HL.out.c0
            obtain ⟨z0, z1, z2, zl, zf⟩ := HL.out.z
            have HFin := Lib.hid (HL.out.fin HV.out hlt (.string name) (.slice sa2 ys.length sc2) (.slice ra rs.length rc))
            go_wp2_with fail
            exact bodyPost_ret (v := .agg #[.string name, .slice sa2 ys.length sc2, .slice ra rs.length rc]) (by simp only [results, Try.results92]; go_simp) rfl ⟨⟨⟨name, ys, rs⟩, _, _, rfl, rfl, HOk.out rs (by omega) HRs.out, HFin.out.1, HFin.out.2.1, HFin.out.2.2.1⟩, curPost_mono HFin.out.2.2.2 (by omega)⟩
      · have hx3 : ¬ (xs.length : Int) < 2 := by omega
        have HLS := HL
        have HOk : Hid (∀ rs : List Int, rs.length + 1 = xs.length → (∀ x ∈ rs, 3 ≤ x ∧ x ≤ 14) → LineOk ⟨name, xs, rs⟩ N) := fun rs h1 h2 => okL (by show 2 ≤ xs.length; omega) (by show xs.length ≤ 6; omega) HNd.out HIn.out h1 h2
        have hyl2 : 2 ≤ xs.length ∧ xs.length ≤ 6 := by omega
        clear HL
        obtain ⟨svv, hsvv⟩ : ∃ svv : Value, svv = .slice (some ⟨g, 0, none⟩) xs.length sc := ⟨_, rfl⟩
        have HSV := Lib.hid hsvv
        rw [← hsvv] at HLS
        clear hsvv
        go_wp2_with fail
        go_loopw [10] (fun q wr => ∃ (rs : List Int) (rv : Value) (p : Nat), rs.length + 1 ≤ xs.length ∧ p ≤ m + 2 * rs.length ∧ q = .int .i64 ((rs.length : Int) + 1) ∧ Hid (∀ x ∈ rs, 3 ≤ x ∧ x ≤ 14) ∧ Hid (LnSt w b p v name xs rs svv rv wr)) (fun q _ => xs.length - (RowKit.intOf q).toNat)
        case atStart => exact ⟨[], .slice none 0 0, m, by simp; omega, by simp, by simp, (fun x hx => by simp at hx), HLS⟩
        case round =>
          clear HLS HSV
          obtain ⟨wp, rfl⟩ : ∃ wp : World, wp = wr := ⟨_, rfl⟩
          obtain ⟨rs, rv, p, hrl, hp2, rfl, HRs, HL⟩ := hrel
          have b1 := HL.out.c1
          have b2 := HL.out.c2
          have hf := HL.out.f
          obtain ⟨sa2, sc2, rfl⟩ := own_shape HL.out.rowS
          obtain ⟨ra, rc, rfl⟩ := own_shape HL.out.rowR
          by_cases hgo : rs.length + 1 < xs.length
          · have hg1 : (rs.length : Int) + 1 < (xs.length : Int) := by omega
            have hrs6 : rs.length ≤ 6 := by omega
            go_wp2_with fail
            refine wp_region_until 8 (S := (fun w' => w'.cell? ⟨w.heap.size + 1, 2, none⟩ = some (.slice ra rs.length rc))) (by kernel_rfl) ?_ (fun hHeld => ?_)
            · exact b2
            refine wpAnyU_take (i := 0) (v := ?_) (by simp only [List.getElem?_toArray, List.getElem?_cons_zero]; rfl) (by kernel_rfl) (by kernel_rfl) (by kernel_rfl) (by kernel_rfl) (by kernel_rfl) (by exact fun _ _ _ h => h) (Or.inl ⟨by rfl, ?_⟩) (by assumption) ?_
            rotate_left
            · intro w' hSw; go_simp; try with_reducible rfl
            try simp only [Act.put, List.setIfInBounds_toArray, List.set_cons_zero, List.set_cons_succ]
            refine wpAnyU_take (i := 1) (v := ?_) (by simp only [List.getElem?_toArray, List.getElem?_cons_succ, List.getElem?_cons_zero]; rfl) (by kernel_rfl) (by kernel_rfl) (by kernel_rfl) (by kernel_rfl) (by kernel_rfl) (by exact fun _ _ _ h => h) (Or.inl ⟨by rfl, ?_⟩) (by assumption) ?_
            rotate_left
            · intro w' hSw; go_simp; try with_reducible rfl
            try simp only [Act.put, List.setIfInBounds_toArray, List.set_cons_zero, List.set_cons_succ]
            refine wpAnyU_take (i := 2) (v := ?_) (by simp only [List.getElem?_toArray, List.getElem?_cons_succ, List.getElem?_cons_zero]; rfl) (by kernel_rfl) (by kernel_rfl) (by kernel_rfl) (by kernel_rfl) (by kernel_rfl) (by exact fun _ _ _ h => h) (Or.inl ⟨by rfl, ?_⟩) (by assumption) ?_
            rotate_left
            · intro w' hSw; go_simp; try with_reducible rfl
            try simp only [Act.put, List.setIfInBounds_toArray, List.set_cons_zero, List.set_cons_succ]
            refine wpAnyU_ready (rs := [3]) (by kernel_rfl) (by simp) ?_
            refine AllReadyU.cons (by simp only [List.getElem?_toArray, List.getElem?_cons_succ, List.getElem?_cons_zero]; rfl) (fun K hK => ?_) AllReadyU.nil
            go_simp
            go_at_call 42
            refine (pick_any b p v 12 wp.drew HL.out.drew.cur.1 HL.out.drew.cur.2.1 (by omega) (by omega)).mono ?_
            rintro e w1 ⟨⟨r, rfl, r0, r1⟩, hp⟩
            have hr := r1 (by omega)
            have HL1 := Lib.hid (HL.out.drew.cur' hlt hp)
            clear hp r1
            have hw3r : IntKind.i64.wrap (3 + r) = 3 + r := IntWalk.i64_in _ (by omega)
            have hS1 : w1.cell? ⟨w.heap.size + 1, 2, none⟩ = some (.slice ra rs.length rc) := HL1.out.c2
            go_wp2_with fail
            refine hK.out _ _ hS1 (fun hH3 => ?_)
            clear hK K
            try simp only [Act.put, List.setIfInBounds_toArray, List.set_cons_zero, List.set_cons_succ]
            refine wpAnyU_take (i := 4) (v := ?_) (by simp only [List.getElem?_toArray, List.getElem?_cons_succ, List.getElem?_cons_zero]; rfl) (by kernel_rfl) (by kernel_rfl) (by kernel_rfl) (by kernel_rfl) (by kernel_rfl) (by exact fun _ _ _ h => h) (Or.inl ⟨by rfl, ?_⟩) (by assumption) ?_
            rotate_left
            · intro w' hSw; go_simp; try with_reducible rfl
            try simp only [Act.put, List.setIfInBounds_toArray, List.set_cons_zero, List.set_cons_succ]
            refine wpAnyU_ready (rs := [5]) (by kernel_rfl) (by simp) ?_
            refine AllReadyU.cons (by simp only [List.getElem?_toArray, List.getElem?_cons_succ, List.getElem?_cons_zero]; rfl) (fun K hK => ?_) AllReadyU.nil
            go_simp
            have HLA := Lib.hid (HL1.out.alloc (.cells #[.int .i64 (3 + r)] 3))
            have HY := Lib.hid (lit_row w1 (3 + r))
            have hSA : (w1.alloc (.cells #[.int .i64 (3 + r)] 3)).cell? ⟨w.heap.size + 1, 2, none⟩ = some (.slice ra rs.length rc) := HLA.out.c2
            refine hK.out _ _ hSA (fun hH5 => ?_)
            clear hK K
            try simp only [Act.put, List.setIfInBounds_toArray, List.set_cons_zero, List.set_cons_succ]
            refine wpAnyU_ready (rs := [6]) (by kernel_rfl) (by simp) ?_
            refine AllReadyU.cons (by simp only [List.getElem?_toArray, List.getElem?_cons_succ, List.getElem?_cons_zero]; rfl) (fun K hK => ?_) AllReadyU.nil
            obtain ⟨v', w2, hrun, HL2, b2, hf⟩ := HLA.out.appR HV.out hlt HY.out (by omega)
            obtain ⟨va, vc, rfl⟩ := app_shape HL2.rowR
            have HL3 := Lib.hid HL2
            refine step_append_run rfl (.tmp 64) (.tmp 68) 34 rfl rfl rfl hrun ?_
            clear hrun HL2
            refine hK.out _ _ b2 (fun hH6 => ?_)
            clear hK K
            try simp only [Act.put, List.setIfInBounds_toArray, List.set_cons_zero, List.set_cons_succ]
            refine wpAnyU_take (i := 7) (v := ?_) (by simp only [List.getElem?_toArray, List.getElem?_cons_succ, List.getElem?_cons_zero]; rfl) (by kernel_rfl) (by kernel_rfl) (by kernel_rfl) (by kernel_rfl) (by kernel_rfl) (by exact fun _ _ _ h => h) (Or.inl ⟨by rfl, ?_⟩) (by assumption) ?_
            rotate_left
            · intro w' hSw; go_simp; try with_reducible rfl
            try simp only [Act.put, List.setIfInBounds_toArray, List.set_cons_zero, List.set_cons_succ]
            refine wpAnyU_ready (rs := [8]) (by kernel_rfl) (by simp) ?_
            refine AllReadyU.last (by simp only [List.getElem?_toArray, List.getElem?_cons_succ, List.getElem?_cons_zero]; rfl) (by kernel_rfl) (fun K hK => ?_)
            go_simp
            refine hK.out _ _ ?_
            clear hK K
            try simp only [Act.put, List.setIfInBounds_toArray, List.set_cons_zero, List.set_cons_succ]
            refine wpAnyU_done (by kernel_rfl) ?_ _
            clear hH3 hH5 hH6 hS1 hSA hHeld b2 hf
            obtain ⟨w3, hw3⟩ : ∃ w3 : World, w3 = w2.setCell ⟨w.heap.size + 1, 2, none⟩ (.slice va (rs.length + 1) vc) := ⟨_, rfl⟩
            rw [← hw3] at HL3 ⊢
            clear hw3
            go_wp2_with fail
            go_roundw
            case rel => exact ⟨rs ++ [3 + r], .slice va (rs.length + 1) vc, p + 2, by simp; omega, by simp; omega, by simp, (fun x hx => by rcases List.mem_append.1 hx with hx | hx; exact HRs.out x hx; simp at hx; subst hx; omega), HL3⟩
            case measure => simp [RowKit.intOf]; omega
          · have hg1 : ¬ (rs.length : Int) + 1 < (xs.length : Int) := by omega
            have b0 := HL.out.c0
            obtain ⟨z0, z1, z2, zl, zf⟩ := HL.out.z
            have HFin := Lib.hid (HL.out.fin HV.out hlt (.string name) (.slice sa2 xs.length sc2) (.slice ra rs.length rc))
            go_wp2_with fail
            exact bodyPost_ret (v := .agg #[.string name, .slice sa2 xs.length sc2, .slice ra rs.length rc]) (by simp only [results, Try.results92]; go_simp) rfl ⟨⟨⟨name, xs, rs⟩, _, _, rfl, rfl, HOk.out rs (by omega) HRs.out, HFin.out.1, HFin.out.2.1, HFin.out.2.2.1⟩, curPost_mono HFin.out.2.2.2 (by omega)⟩
end Go.Proofs.Ytemejcbilhcebaa
