/-
  THE LAWS' HELPERS on Leg (written by gen_struct.py), in the one form that the laws' walks take.
-/
import Derived.Test.YtfgkfdkdjegaiaaRows
import Derived.Test.YtfgkfdkdjegaiaaMk05
import Derived.LoopTactic
import Derived.WalkLawsBesides
import Derived.BigQuiet
import Derived.Deep.RegionHeld3
import Derived.Deep.QuietTactic
import Derived.Laws.Entries
namespace Go.Proofs.Ytfgkfdkdjegaiaa
open Go.RowKit
set_option linter.unusedVariables false

def LegsSmall (xs : List LegD) : Prop := xs.length ≤ 1048576
def LegsFit (xs : List LegD) : Prop := ∀ s ∈ xs, LegWf s

def LegSmall (_ : LegD) : Prop := True
def LegAt (_ : World) (v : Value) (s : LegD) : Prop := v = .agg #[.int .i64 s.trip, .int .i64 s.frm, .int .i64 s.dst, .int .i64 s.dep, .int .i64 s.arr]
theorem LegAt.below {w w' : World} {v : Value} {s : LegD} (h : LegAt w v s) {B : Nat} (_hB : B = w.heap.size) (_hb : Below B w w') : LegAt w' v s := h
def LegIn (_ _ : Nat) (w : World) (v : Value) (s : LegD) : Prop := LegAt w v s
theorem LegIn.at {l u : Nat} {w : World} {v : Value} {s : LegD} (h : LegIn l u w v s) : LegAt w v s := h
theorem LegIn.later {l u : Nat} {w w' : World} {v : Value} {s : LegD} (h : LegIn l u w v s) (_hb : Below w.heap.size w w') : LegIn l u w' v s := h
theorem LegIn.out {l u lo hi : Nat} {w w' : World} {v : Value} {s : LegD} (h : LegIn l u w v s) (_ho : Out lo hi w w') (_hs : True) : LegIn l u w' v s := h
theorem LegIn.base {l l' u u' : Nat} {w : World} {v : Value} {s : LegD} (h : LegIn l u w v s) (_hl : l' ≤ l) (_hu : u ≤ u') : LegIn l' u' w v s := h
theorem Leg_open {w : World} {v : Value} {s : LegD} (h : LegAt w v s) : v = .agg #[.int .i64 s.trip, .int .i64 s.frm, .int .i64 s.dst, .int .i64 s.dep, .int .i64 s.arr] := h

theorem keepLeg2 {W w w' : World} {p0 p1 p2 p3 p4 p5 p6 p7 p8 p9 : Addr} {x0 x1 x2 x3 x4 x5 x6 x7 x8 x9 : Value} (hb : Below w.heap.size w w') (h : w.cell? p0 = some x0 ∧ w.cell? p1 = some x1 ∧ w.cell? p2 = some x2 ∧ w.cell? p3 = some x3 ∧ w.cell? p4 = some x4 ∧ w.cell? p5 = some x5 ∧ w.cell? p6 = some x6 ∧ w.cell? p7 = some x7 ∧ w.cell? p8 = some x8 ∧ w.cell? p9 = some x9 ∧ Below W.heap.size W w) : w'.cell? p0 = some x0 ∧ w'.cell? p1 = some x1 ∧ w'.cell? p2 = some x2 ∧ w'.cell? p3 = some x3 ∧ w'.cell? p4 = some x4 ∧ w'.cell? p5 = some x5 ∧ w'.cell? p6 = some x6 ∧ w'.cell? p7 = some x7 ∧ w'.cell? p8 = some x8 ∧ w'.cell? p9 = some x9 ∧ Below W.heap.size W w' := by
  obtain ⟨h0, h1, h2, h3, h4, h5, h6, h7, h8, h9, hl⟩ := h
  exact ⟨bkeep hb h0, bkeep hb h1, bkeep hb h2, bkeep hb h3, bkeep hb h4, bkeep hb h5, bkeep hb h6, bkeep hb h7, bkeep hb h8, bkeep hb h9, hl.trans (hb.mono hl.size)⟩
def upLegs (k : Int) : Nat → List LegD
  | 0 => []
  | n + 1 => upLegs k n ++ [⟨k + 5 * (n : Int), k + 5 * (n : Int) + 1, k + 5 * (n : Int) + 1 + 1, k + 5 * (n : Int) + 1 + 1 + 1, k + 5 * (n : Int) + 1 + 1 + 1 + 1⟩]
theorem upLegs_len (k : Int) : ∀ n, (upLegs k n).length = n
  | 0 => rfl
  | n + 1 => by simp [upLegs, upLegs_len k n]
theorem upLegs_get (k : Int) : ∀ n j (h : j < (upLegs k n).length), (upLegs k n)[j] = ⟨k + 5 * (j : Int), k + 5 * (j : Int) + 1, k + 5 * (j : Int) + 1 + 1, k + 5 * (j : Int) + 1 + 1 + 1, k + 5 * (j : Int) + 1 + 1 + 1 + 1⟩
  | 0, j, h => by simp [upLegs] at h
  | n + 1, j, h => by
    simp only [upLegs]
    rw [List.getElem_append]
    have hl := upLegs_len k n
    split
    · exact upLegs_get k n j (by assumption)
    · have : j = n := by simp [upLegs, hl] at h; omega
      subst this
      simp

def LegsMk (k : Int) (w : World) (v : Value) (xs : List LegD) : Prop := LegsAt w v (upLegs k xs.length)
theorem LegsMk.later {k : Int} {w w' : World} {v : Value} {xs : List LegD} (h : LegsMk k w v xs) (hb : Below w.heap.size w w') : LegsMk k w' v xs := LegsAt.below h rfl hb

end Go.Proofs.Ytfgkfdkdjegaiaa
