import Derived.Test.YtemejcbilhcebaaAnyNet
import Derived.Test.YtemejcbilhcebaaMk05
import Derived.Test.YtemejcbilhcebaaCurOf
namespace Go.Proofs.Ytemejcbilhcebaa
open Go.RowKit
set_option linter.unusedVariables false
set_option linter.unusedSimpArgs false

theorem build_curR (a : Option Addr) (n c : Nat) (w : World) : (Instr.build 75 #[(0, .slice a n c)]).run Try.prog w = .ok (.agg #[.slice a n c, .int .i64 0, .int .u64 0]) w :=
  run_build w 75 #[(0, .slice a n c)] #[.slice a n c, .int .i64 0, .int .u64 0] (by kernel_rfl)
theorem below_curR {w w0 w' : World} {B b n : Nat} {v : Value} (hB : B ≤ b) (hb : Below B w w0 ∧ B ≤ w0.heap.size) (h : CurPost w0 b n v w') : Below B w w' :=
  hb.1.grown h.2.2 hb.2 (fun k hk => by cases hk; exact hB)

def AnyN (B : Nat) (nv : Value) (d : NetD) (w' : World) : Prop :=
  ((d.stops.length ≤ 8 ∧ ∀ s ∈ d.stops, s.size ≤ 20) ∧ d.lines.length ≤ 12 ∧ (∀ l ∈ d.lines, AnyLn l)) ∧ NetL B w'.heap.size w' nv d
theorem AnyN.set {B : Nat} {nv : Value} {d : NetD} {w' : World} (h : AnyN B nv d w') (q : Nat) (hq : q < B) (u0 u1 : Value) : AnyN B nv d ((w'.setCell ⟨q, 0, none⟩ u0).setCell ⟨q, 1, none⟩ u1) := by
  obtain ⟨h1, h5⟩ := h
  refine ⟨h1, (h5.keep (by simp [World.setCell]) (fun k a1 a2 a3 => ?_)).base (Nat.le_refl _) (by simp [World.setCell])⟩
  rw [Below.heap_setCell _ _ _ _ (by dsimp only; omega), Below.heap_setCell _ _ _ _ (by dsimp only; omega)]
theorem AnyN.cur {B b n : Nat} {nv v : Value} {d : NetD} {w w' : World} (h : AnyN B nv d w) (hp : CurPost w b n v w') (hb : b < B) : AnyN B nv d w' :=
  ⟨h.1, (h.2.keep hp.2.2.size (fun q a1 a2 a3 => hp.2.2.block q a3 (by simp; omega))).base (Nat.le_refl _) hp.2.2.size⟩
theorem AnyN.later {B : Nat} {nv : Value} {d : NetD} {w w' : World} (h : AnyN B nv d w) (hb : Below w.heap.size w w') : AnyN B nv d w' :=
  ⟨h.1, (h.2.later hb).base (Nat.le_refl _) hb.size⟩

end Go.Proofs.Ytemejcbilhcebaa
