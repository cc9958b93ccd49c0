/-
  WHAT THE CLOSURES OF impl.journeysTo HOLD: their boxes, the map of legs, the map of what has been found; how it is carried.
-/
import Derived.Test.YtfgkfdkdjegaiaaCmpJ
import Derived.Test.YtfgkfdkdjegaiaaLegMap
import Derived.Test.YtfgkfdkdjegaiaaKeyB
import Derived.Test.YtfgkfdkdjegaiaaLegsBy
namespace Go.Proofs.Ytfgkfdkdjegaiaa
open Go.RowKit Go.Maps Jrn
set_option linter.unusedVariables false
set_option linter.unusedSimpArgs false

theorem gr_trans {w w' w'' : World} {r : Option Nat} (h : w.grownBy w' r) (k : w'.grownBy w'' r) : w.grownBy w'' r :=
  ⟨k.os.trans h.os, k.tape.trans h.tape, k.output.trans h.output, Nat.le_trans h.size k.size, fun q hq hne => (k.block q (Nat.lt_of_lt_of_le hq h.size) hne).trans (h.block q hq hne)⟩
theorem gr_below {w w' : World} (h : Below w.heap.size w w') (r : Option Nat) : w.grownBy w' r := ⟨h.os, h.tape, h.output, h.size, fun q hq _ => h.block q hq⟩
theorem below_gr {w w' : World} {m b : Nat} (h : w.grownBy w' (some m)) (hb : b ≤ m) (hs : b ≤ w.heap.size) : Below b w w' :=
  ⟨h.os, h.tape, h.output, h.size, fun q hq => h.block q (by omega) (by simp; omega)⟩
theorem gr_cell {w w' : World} {m : Nat} {a : Addr} {v : Value} (h : w.grownBy w' (some m)) (hc : w.cell? a = some v) (hm : a.block ≠ m) : w'.cell? a = some v := by
  have hl := World.block_lt_of_cell? w _ hc
  exact (World.cell?_of_block (h.block a.block hl (by simpa using hm))).trans hc
theorem gr_own {w w' : World} {m lo : Nat} {e : TypeId} {z n : Nat} {v : Value} {xs : List Value} (h : w.grownBy w' (some m)) (ho : w.ownsRow lo e z v n xs) (hm : v.ownBlock ≠ some m) : w'.ownsRow lo e z v n xs := ho.kept h (.inr hm)

/-- how often something is stored at most -/
def cst : Nat → Nat
  | 0 => 0
  | k + 1 => 432 * cst k + 1
section
variable {b bL : Nat} {L : List LegD} {ch too : Int} {n : Nat} {w w' : World}
theorem HdrMap.mono {P : Program} {k : TypeId} {z : Value} {b n n' : Nat} {f : Lit → Value} {p : Lit → Bool} {w : World} (h : HdrMap P k z b n f p w) (hn : n ≤ n') : HdrMap P k z b n' f p w := by
  obtain ⟨D, h1, h2⟩ := h; exact ⟨D, h1.mono hn, h2⟩
end
end Go.Proofs.Ytfgkfdkdjegaiaa
