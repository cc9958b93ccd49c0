import Derived.Test.YtemejcbilhcebaaCurAmong
import Derived.Test.YtemejcbilhcebaaIntsLaw
namespace Go.Proofs.Ytemejcbilhcebaa
open Go.RowKit
set_option linter.unusedVariables false

theorem curPost_alloc {w w1 : World} {b n : Nat} {v : Value} (h : CurPost w b n v w1) (o : Obj) : CurPost w b n v (w1.alloc o) := ⟨curAt_alloc h.1 o, codeOff_grown h.2.1 grown_alloc, grown_trans h.2.2 grown_alloc⟩
theorem curPost_start {w : World} {b n : Nat} {v : Value} (hc : CurAt w b v n) (hv : CodeOff w b v) (o : Obj) : CurPost w b n v (w.alloc o) := ⟨curAt_alloc hc o, codeOff_grown hv grown_alloc, grown_alloc⟩
theorem curPost_set {w w1 : World} {b n c o : Nat} {v u : Value} (hv : CodeOff w b v) (h : CurPost w b n v w1) (hc : w.heap.size ≤ c) (hbc : c ≠ b) : CurPost w b n v (w1.setCell ⟨c, o, none⟩ u) := by
  have hg : w.grownBy (w1.setCell ⟨c, o, none⟩ u) (some b) := ⟨h.2.2.os, h.2.2.tape, h.2.2.output, by have := h.2.2.size; simp [World.setCell]; exact this, fun k hk hr => (Below.heap_setCell _ _ _ _ (show k ≠ c by omega)).trans (h.2.2.block k hk hr)⟩
  obtain ⟨k, s, h1, h2⟩ := h.1
  exact ⟨⟨k, s, (Below.heap_setCell _ _ _ _ (show b ≠ c from fun e => hbc e.symm)).trans h1, h2⟩, codeOff_grown hv hg, hg⟩
theorem curPost_mono {w w1 : World} {b n m : Nat} {v : Value} (h : CurPost w b n v w1) (hn : n ≤ m) : CurPost w b m v w1 := ⟨curAt_mono h.1 hn, h.2⟩
theorem own_cur {w w1 : World} {b n : Nat} {v : Value} {B : Nat} {e : TypeId} {sz : Nat} {vl : Value} {m : Nat} {xs : List Value} (h : w.ownsRow B e sz vl m xs) (hB : b < B) (hp : CurPost w b n v w1) : w1.ownsRow B e sz vl m xs :=
  own_block h (fun g hg => hp.2.2.block g (h.lt g hg).2 (by have := (h.lt g hg).1; simp; omega))

theorem cur_grown {w w1 w2 : World} {b n : Nat} {v : Value} {r : Option Nat} (hv : CodeOff w b v) (hb : b < w.heap.size) (h : CurPost w b n v w1) (hg : w1.grownBy w2 r) (hr : ∀ g, r = some g → w.heap.size ≤ g) : CurPost w b n v w2 := by
  have hgg : w.grownBy w2 (some b) := ⟨hg.os.trans h.2.2.os, hg.tape.trans h.2.2.tape, hg.output.trans h.2.2.output, Nat.le_trans h.2.2.size hg.size, fun k hk hne => (hg.block k (Nat.lt_of_lt_of_le hk h.2.2.size) (fun e => by have := hr k e.symm; omega)).trans (h.2.2.block k hk hne)⟩
  obtain ⟨k, s, h1, h2⟩ := h.1
  exact ⟨⟨k, s, (hg.block b (Nat.lt_of_lt_of_le hb h.2.2.size) (fun e => by have := hr b e.symm; omega)).trans h1, h2⟩, codeOff_grown hv hgg, hgg⟩
theorem curPost_later {w w1 w2 : World} {b n : Nat} {v : Value} (hv : CodeOff w b v) (hb : b < w.heap.size) (h : CurPost w b n v w1) (hg : Below w1.heap.size w1 w2) : CurPost w b n v w2 :=
  cur_grown hv hb h (r := none) ⟨hg.os, hg.tape, hg.output, hg.size, fun k hk _ => hg.block k hk⟩ (fun g e => by cases e)
end Go.Proofs.Ytemejcbilhcebaa
