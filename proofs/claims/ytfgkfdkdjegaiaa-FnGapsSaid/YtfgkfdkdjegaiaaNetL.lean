/-
  PLAIN WORDS, of no program: a network wherever it lies in blocks from l to u (NetL), a timetable so (TTL); the zero box of a result.
-/
import Derived.Test.YtfgkfdkdjegaiaaL2Own
import Derived.Test.YtfgkfdkdjegaiaaTTX
namespace Go.Proofs.Ytfgkfdkdjegaiaa
open Go.RowKit
set_option linter.unusedVariables false

theorem NetL.at {l u : Nat} {w : World} {v : Value} {n : NetD} (h : NetL l u w v n) : NetAt w v n := h w (Nat.le_refl _) fun _ _ _ _ => rfl
theorem NetL.keep {l u : Nat} {w w' : World} {v : Value} {n : NetD} (h : NetL l u w v n) (hz : w.heap.size ≤ w'.heap.size) (hq : ∀ q, l ≤ q → q < u → q < w.heap.size → w'.heap[q]? = w.heap[q]?) : NetL l u w' v n :=
  fun W hW hqW => h W (Nat.le_trans hz hW) fun q h1 h2 h3 => (hqW q h1 h2 (by omega)).trans (hq q h1 h2 h3)
theorem NetL.base {l l' u u' : Nat} {w : World} {v : Value} {n : NetD} (h : NetL l u w v n) (hl : l' ≤ l) (hu : u ≤ u') : NetL l' u' w v n :=
  fun W hW hqW => h W hW fun q h1 h2 h3 => hqW q (by omega) (by omega) h3
theorem NetL.later {l u : Nat} {w w' : World} {v : Value} {n : NetD} (h : NetL l u w v n) (hb : Below w.heap.size w w') : NetL l u w' v n := h.keep hb.size fun q _ _ h3 => hb.block q h3
theorem NetL.out {l u lo hi : Nat} {w w' : World} {v : Value} {n : NetD} (h : NetL l u w v n) (ho : Out lo hi w w') (hs : u ≤ lo ∨ hi ≤ l) : NetL l u w' v n :=
  h.keep ho.below.size fun q h1 h2 h3 => ho.block (by omega) h3
/-- a box of three zero slices -/
def Rz (w : World) (b : Nat) : Prop := w.cell? ⟨b, 0, none⟩ = some (.slice none 0 0) ∧ w.cell? ⟨b, 1, none⟩ = some (.slice none 0 0) ∧ w.cell? ⟨b, 2, none⟩ = some (.slice none 0 0) ∧ b < w.heap.size ∧ ∀ o, w.frozen? ⟨b, o, none⟩ = false
theorem Rz.later {w w' : World} {b : Nat} (h : Rz w b) (hb : Below w.heap.size w w') : Rz w' b :=
  ⟨bkeep hb h.1, bkeep hb h.2.1, bkeep hb h.2.2.1, Nat.lt_of_lt_of_le h.2.2.2.1 hb.size, fun o => by rw [hb.frozen (p := ⟨b, o, none⟩) h.2.2.2.1]; exact h.2.2.2.2 o⟩
theorem Rz.grown {w w' : World} {b : Nat} {row : Option Nat} (h : Rz w b) (hg : w.grownBy w' row) (hne : some b ≠ row) (hlt : b < w.heap.size) : Rz w' b :=
  ⟨hg.cell h.1 hne, hg.cell h.2.1 hne, hg.cell h.2.2.1 hne, Nat.lt_of_lt_of_le h.2.2.2.1 hg.size, fun o => by rw [hg.frozen_far ⟨b, o, none⟩ hlt hne]; exact h.2.2.2.2 o⟩
theorem keepT {W w w' : World} {p0 p1 p2 : Addr} {x0 x1 x2 : Value} (hb : Below w.heap.size w w') (h : w.cell? p0 = some x0 ∧ w.cell? p1 = some x1 ∧ w.cell? p2 = some x2 ∧ Below W.heap.size W w) :
    w'.cell? p0 = some x0 ∧ w'.cell? p1 = some x1 ∧ w'.cell? p2 = some x2 ∧ Below W.heap.size W w' := by
  obtain ⟨h0, h1, h2, hl⟩ := h
  exact ⟨bkeep hb h0, bkeep hb h1, bkeep hb h2, hl.trans (hb.mono hl.size)⟩
theorem belT {W w : World} {p0 p1 p2 : Addr} {x0 x1 x2 : Value} (h : w.cell? p0 = some x0 ∧ w.cell? p1 = some x1 ∧ w.cell? p2 = some x2 ∧ Below W.heap.size W w) : Below W.heap.size W w := h.2.2.2
theorem set_otherT {w : World} {b b' i o : Nat} {u : Value} (h : b' ≠ b) : (w.setCell ⟨b, i, none⟩ u).cell? ⟨b', o, none⟩ = w.cell? ⟨b', o, none⟩ :=
  World.cell?_setCell_other _ _ _ _ (fun e => h (congrArg Addr.block e).symm)
end Go.Proofs.Ytfgkfdkdjegaiaa
