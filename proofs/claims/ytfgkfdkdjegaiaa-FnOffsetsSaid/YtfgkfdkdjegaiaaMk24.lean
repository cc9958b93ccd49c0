/-
  JOINED TEXTS, each under its own namespace line: DrawPatP, PatternX.
-/
import Derived.Test.YtfgkfdkdjegaiaaAnyNet
import Derived.Test.YtfgkfdkdjegaiaaHeadP
import Derived.Test.YtfgkfdkdjegaiaaMk11
import Derived.Test.YtfgkfdkdjegaiaaRows
import Derived.Test.YtfgkfdkdjegaiaaMk22
import Derived.LoopTactic
import Derived.WalkLawsBesides
import Derived.BigQuiet
import Derived.Deep.RegionHeld3
import Derived.Deep.QuietTactic
import Derived.Laws.Entries
namespace Go.Proofs.Ytfgkfdkdjegaiaa
open Go.RowKit
set_option linter.unusedVariables false
set_option linter.unusedSimpArgs false

def PtIn (x : PatternD) : Prop := (-1 ≤ x.line ∧ x.line ≤ 100) ∧ (-1 ≤ x.offs ∧ x.offs ≤ 100)
structure PtSt (w : World) (b : Nat) (v : Value) (nb B : Nat) (nv0 nv1 : Value) (d : NetD) (m : Nat) (o : Value) (xs : List PatternD) (W : World) : Prop where
  cur : CurPost w b m v W
  hb : b < w.heap.size
  hv : CodeOff w b v
  hn : w.heap.size < nb
  hB : nb < B
  lB : B ≤ W.heap.size
  net : NetL (w.heap.size + 1) nb W (.agg #[nv0, nv1]) d
  c0 : W.cell? ⟨nb, 0, none⟩ = some nv0
  c1 : W.cell? ⟨nb, 1, none⟩ = some nv1
  z0 : W.cell? ⟨w.heap.size, 0, none⟩ = some (.slice none 0 0)
  z1 : W.cell? ⟨w.heap.size, 1, none⟩ = some (.slice none 0 0)
  zf : ∀ o, W.frozen? ⟨w.heap.size, o, none⟩ = false
  row : W.ownsRow B 45 2 o xs.length (patC xs)
  ok : ∀ x ∈ xs, PtIn x
variable {w W W' : World} {b nb B m m' : Nat} {v nv0 nv1 o o' : Value} {d : NetD} {xs : List PatternD}
theorem PtSt.keep (h : PtSt w b v nb B nv0 nv1 d m o xs W) (hc : CurPost w b m' v W') (hz : W.heap.size ≤ W'.heap.size) (hk : ∀ q, w.heap.size ≤ q → q < W.heap.size → W'.heap[q]? = W.heap[q]?) : PtSt w b v nb B nv0 nv1 d m' o xs W' := by
  have h1 := h.hn
  have h2 := h.hB
  have h3 := h.lB
  exact ⟨hc, h.hb, h.hv, h.hn, h.hB, by omega, h.net.keep hz (fun q a1 a2 a3 => hk q (by omega) a3), (World.cell?_of_block (hk nb (by omega) (by omega))).trans h.c0, (World.cell?_of_block (hk nb (by omega) (by omega))).trans h.c1,
    (World.cell?_of_block (hk w.heap.size (Nat.le_refl _) (by omega))).trans h.z0, (World.cell?_of_block (hk w.heap.size (Nat.le_refl _) (by omega))).trans h.z1, fun o => by rw [World.frozen?_of_block (a := ⟨w.heap.size, o, none⟩) (hk w.heap.size (Nat.le_refl _) (by omega))]; exact h.zf o,
    own_block h.row (fun g hg => hk g (by have := (h.row.lt g hg).1; omega) (h.row.lt g hg).2), h.ok⟩
theorem PtSt.cur' (h : PtSt w b v nb B nv0 nv1 d m o xs W) (hp : CurPost W b m' v W') : PtSt w b v nb B nv0 nv1 d m' o xs W' :=
  h.keep (curPost_trans h.cur hp) hp.2.2.size (fun q hq hl => hp.2.2.block q hl (by have := h.hb; simp; omega))
theorem PtSt.later (h : PtSt w b v nb B nv0 nv1 d m o xs W) (hW : Below W.heap.size W W') : PtSt w b v nb B nv0 nv1 d m o xs W' :=
  h.keep (curPost_later h.hv h.hb h.cur hW) hW.size (fun q _ hl => hW.block q hl)
theorem PtSt.alloc (h : PtSt w b v nb B nv0 nv1 d m o xs W) (x : Obj) : PtSt w b v nb B nv0 nv1 d m o xs (W.alloc x) := h.later ((Below.refl _ _).alloc (Nat.le_refl _) _)
theorem PtSt.mono (h : PtSt w b v nb B nv0 nv1 d m o xs W) (hm : m ≤ m') : PtSt w b v nb B nv0 nv1 d m' o xs W :=
  h.keep (curPost_mono h.cur hm) (Nat.le_refl _) (fun _ _ _ => rfl)

theorem PtSt.turn (h : PtSt w b v nb B nv0 nv1 d m o xs W) {r : Option Nat} (hg : W.grownBy W' r) (hr : ∀ g, r = some g → B ≤ g) {ys : List PatternD} (hrow : W'.ownsRow B 45 2 o' ys.length (patC ys)) (hok : ∀ x ∈ ys, PtIn x) : PtSt w b v nb B nv0 nv1 d m o' ys W' := by
  have h1 := h.hn
  have h2 := h.hB
  have h3 := h.lB
  have hk : ∀ q, q < B → q < W.heap.size → W'.heap[q]? = W.heap[q]? := fun q hq hl => hg.block q hl (fun e => by have := hr q e.symm; omega)
  exact ⟨cur_grown h.hv h.hb h.cur hg (fun g e => by have := hr g e; omega), h.hb, h.hv, h.hn, h.hB, by have := hg.size; omega, h.net.keep hg.size (fun q a1 a2 a3 => hk q (by omega) a3), (World.cell?_of_block (hk nb (by omega) (by omega))).trans h.c0, (World.cell?_of_block (hk nb (by omega) (by omega))).trans h.c1,
    (World.cell?_of_block (hk w.heap.size (by omega) (by omega))).trans h.z0, (World.cell?_of_block (hk w.heap.size (by omega) (by omega))).trans h.z1, fun o => by rw [World.frozen?_of_block (a := ⟨w.heap.size, o, none⟩) (hk w.heap.size (by omega) (by omega))]; exact h.zf o, hrow, hok⟩
theorem PtSt.app (h : PtSt w b v nb B nv0 nv1 d m o xs W) (x : PatternD) (hx : PtIn x) (hrow : W'.ownsRow B 45 2 o' (xs.length + 1) (patC xs ++ [.int .i64 x.line, .int .i64 x.offs])) (hg : W.grownBy W' o.ownBlock) : PtSt w b v nb B nv0 nv1 d m o' (xs ++ [x]) W' :=
  h.turn hg (fun g e => (h.row.lt g e).1) (by rw [List.length_append, patC_append]; exact hrow) (fun y hy => by
    rcases List.mem_append.1 hy with hy | hy
    · exact h.ok y hy
    · simp at hy; rw [hy]; exact hx)
theorem PtSt.setAt {g c : Nat} (h : PtSt w b v nb B nv0 nv1 d m (.slice (some ⟨g, 0, none⟩) xs.length c) xs W) (k : Nat) (hk : k < xs.length) (x : PatternD) (hx : PtIn x) :
    PtSt w b v nb B nv0 nv1 d m (.slice (some ⟨g, 0, none⟩) xs.length c) (xs.set k x) ((W.setCell ⟨g, k * 2, none⟩ (.int .i64 x.line)).setCell ⟨g, k * 2 + 1, none⟩ (.int .i64 x.offs)) := by
  have s1 := h.row.stored (k * 2) (.int .i64 x.line)
  have s2 := s1.1.stored (k * 2 + 1) (.int .i64 x.offs)
  have hl := patC_set xs k x hk
  have hr := s2.1
  rw [hl] at hr
  refine h.turn (s1.2.trans s2.2) (fun q e => by cases e; exact (h.row.lt g rfl).1) (by rw [List.length_set]; exact hr) (fun y hy => ?_)
  rcases List.mem_or_eq_of_mem_set hy with hy | hy
  · exact h.ok y hy
  · rw [hy]; exact hx

theorem PtSt.fin (h : PtSt w b v nb B nv0 nv1 d m o xs W) (u0 u1 : Value) : CurPost w b m v ((W.setCell ⟨w.heap.size, 0, none⟩ u0).setCell ⟨w.heap.size, 1, none⟩ u1) ∧
    NetL (w.heap.size + 1) nb ((W.setCell ⟨w.heap.size, 0, none⟩ u0).setCell ⟨w.heap.size, 1, none⟩ u1) (.agg #[nv0, nv1]) d ∧ ((W.setCell ⟨w.heap.size, 0, none⟩ u0).setCell ⟨w.heap.size, 1, none⟩ u1).ownsRow B 45 2 o xs.length (patC xs) := by
  have h1 := h.hb
  have h2 := h.hn
  have h3 := h.hB
  refine ⟨curPost_set h.hv (curPost_set h.hv h.cur (Nat.le_refl _) (by omega)) (Nat.le_refl _) (by omega), h.net.keep (by simp [World.setCell]) (fun q a1 a2 a3 => ?_), ownsRow_setCell_below (ownsRow_setCell_below h.row (by dsimp only; omega) _) (by dsimp only; omega) _⟩
  rw [Below.heap_setCell _ _ _ _ (by dsimp only; omega), Below.heap_setCell _ _ _ _ (by dsimp only; omega)]
end Go.Proofs.Ytfgkfdkdjegaiaa

namespace Go.Proofs.Ytfgkfdkdjegaiaa
open Go.RowKit
set_option linter.unusedVariables false

theorem infoPattern : (Try.prog.info? 45).map (fun i => (i.zero, i.size, i.bytes)) = some (some (.agg #[.int .i64 0, .int .i64 0]), 2, 16) := by kernel_rfl
def PatternsSmall (xs : List PatternD) : Prop := xs.length ≤ 1048576
end Go.Proofs.Ytfgkfdkdjegaiaa
