/-
  JOINED TEXTS, each under its own namespace line: MarkLines, LinesMk, RunBase, Tk, IsValidJourney, OwnI, WpRun, L8Arr, ServedS.
-/
import Derived.Test.YtemejcbilhcebaaRows
import Derived.Test.YtemejcbilhcebaaSlices
import Derived.LoopTactic
import Derived.WalkLawsBesides
import Derived.Lib.Hide
import Derived.BigQuiet
import Derived.OwnWalk
import Derived.Test.YtemejcbilhcebaaMk04
import Derived.Test.YtemejcbilhcebaaMk03
import Derived.Lib.ItoaNum
import Derived.Lib.ItoaLen
import Derived.Lib.IndexMore
import Derived.Laws.Concat
import Derived.Laws.Strings
import Derived.Laws.IdiomStrings
import Derived.Deep.RegionHeld3
import Derived.Laws.Entries
import Derived.Test.YtemejcbilhcebaaMk08
import Derived.Test.YtemejcbilhcebaaImplNet
import Derived.Deep.QuietTactic
import Derived.RegionTactic
import Derived.BigRegion
import Derived.Test.YtemejcbilhcebaaMk07
import Derived.WalkKit
import Derived.Maps.Own
import Derived.Maps.OwnSet
import Derived.Maps.Views
import Derived.Test.YtemejcbilhcebaaSet
import Derived.Maps.AppendAt
import Derived.Test.YtemejcbilhcebaaMk05
import Derived.Deep.Upon
import Derived.OrdersHeld
import Derived.Deep.RegionHeld
import Derived.Test.YtemejcbilhcebaaMk06
import Derived.Laws.StructEq
import Derived.Test.YtemejcbilhcebaaImplGood
import Derived.DeepKeys4
namespace Go.Proofs.Ytemejcbilhcebaa
open Go.RowKit
set_option linter.unusedVariables false

theorem gcell {w w' : World} {row : Option Nat} (hg : w.grownBy w' row) {g o : Nat} {x : Value} (h : w.cell? ⟨g, o, none⟩ = some x) (hne : row ≠ some g) : w'.cell? ⟨g, o, none⟩ = some x :=
  hg.cell h (fun e => hne e.symm)
end Go.Proofs.Ytemejcbilhcebaa

namespace Go.Proofs.Ytemejcbilhcebaa
open Go.RowKit
set_option linter.unusedVariables false

theorem row_grown {w w' : World} {v : Value} {xs : List Value} {row : Option Nat} (h : RowAt w v xs) (hg : w.grownBy w' row) (hne : v.ownBlock = none ∨ v.ownBlock ≠ row) : RowAt w' v xs := by
  obtain ⟨a, c, hv, h1, h2, h3⟩ := h
  refine ⟨a, c, hv, h1, h2, fun k u hu => ?_⟩
  obtain ⟨b, off, ha, hlt, hc⟩ := h3 k u hu
  have ho : v.ownBlock = some b := by rw [hv, ha]; rfl
  refine ⟨b, off, ha, Nat.lt_of_lt_of_le hlt hg.size, gcell hg hc (fun e => ?_)⟩
  rcases hne with h0 | h0
  · rw [ho] at h0; cases h0
  · exact h0 (by rw [ho, e])
theorem LineAt.grown {w w' : World} {g o : Nat} {l : LineD} {row : Option Nat} (h : LineAt w g o l) (hg : w.grownBy w' row) (hne : row ≠ some g)
    (hs : ∀ v i, (i = 1 ∨ i = 2) → w.cell? ⟨g, o + i, none⟩ = some v → v.ownBlock = none ∨ v.ownBlock ≠ row) : LineAt w' g o l := by
  obtain ⟨sv, rv, c0, c1, c2, r1, r2⟩ := h
  exact ⟨sv, rv, gcell hg c0 hne, gcell hg c1 hne, gcell hg c2 hne, row_grown r1 hg (hs sv 1 (.inl rfl) c1), row_grown r2 hg (hs rv 2 (.inr rfl) c2)⟩
end Go.Proofs.Ytemejcbilhcebaa

namespace Go.Proofs.Ytemejcbilhcebaa
open Go.RowKit
set_option linter.unusedVariables false

theorem good_line {n : NetD} (hg : NetGood n) (i : Nat) (hi : i < n.lines.length) : LineGood n.lines[i] n.stops.length := hg.2.2.2.1 _ (List.getElem_mem hi)

end Go.Proofs.Ytemejcbilhcebaa

namespace Go.Proofs.Ytemejcbilhcebaa
open Go.RowKit
set_option linter.unusedVariables false

def tk (s : Int) (rs : List Int) (k : Nat) : List Int := (List.range k).map (fun p => s + (rs.take p).sum)
end Go.Proofs.Ytemejcbilhcebaa

namespace Go.Proofs.Ytemejcbilhcebaa
open Go.RowKit Jrn Go.Maps
set_option linter.unusedVariables false
set_option linter.unusedSimpArgs false

theorem IntSet.lt {b : Nat} {S : List Int} {w : World} (h : IntSet b S w) : b < w.heap.size := SetOf.lt h
end Go.Proofs.Ytemejcbilhcebaa

namespace Go.Proofs.Ytemejcbilhcebaa
open Go.RowKit
set_option linter.unusedVariables false

theorem row_new (w : World) (B : Nat) (hB : B ≤ w.heap.size) : (w.alloc (.cells #[] 3)).ownsRow B 3 1 (.slice (some ⟨w.heap.size, 0, none⟩) 0 0) 0 (ints []) := by
  have h := World.ownsRow_lit (base := B) (e := 3) (size := 1) w #[] 0 hB (by decide) (by simp)
  simpa [ints] using h
end Go.Proofs.Ytemejcbilhcebaa

namespace Go.Proofs.Ytemejcbilhcebaa
open Go.RowKit
set_option linter.unusedVariables false

theorem wpList_append_run {P : Program} {w w' : World} {ops : Array Oper} {rest : List Oper} {o : Oper} {a : Act} {Q : Exit → Act → World → Prop} {v y v' : Value} (hg : o.guard = none) (s x : Operand) (t : TypeId)
    (ho : o.op = .call { callee := .builtin .append, args := #[s, x], argTypes := #[t, t] }) (hs : a.eval s = v) (hx : a.eval x = y) (hr : (Builtin.append_ #[t, t] o.type #[v, y]).run P w = .ok v' w')
    (hK : wpList P ops Q rest (a.put o.dst v') w') : wpList P ops Q (o :: rest) a w := by
  refine wpList_plain hg fun K' hK' => ?_
  unfold Oper.wp execOp
  simp only [ho, resolve, invoke, builtin, Sem.run_bind, Sem.run_pure, Result.andThen_ok, List.map_toArray, List.map_cons, List.map_nil, hs, hx, hr]
  exact hK' _ _ hK
end Go.Proofs.Ytemejcbilhcebaa

namespace Go.Proofs.Ytemejcbilhcebaa
open Go.RowKit Jrn
set_option linter.unusedVariables false
set_option linter.unusedSimpArgs false

theorem run_append_ints (w : World) (B n : Nat) (v : Value) (xs : List Int) (hown : w.ownsRow B 3 1 v n (ints xs)) (g off cap : Nat) (ys : List Int) (hy : RowAt w (.slice (some ⟨g, off, none⟩) ys.length cap) (ints ys)) (hn : n + ys.length ≤ 1048576) (hB : B ≤ w.heap.size) :
    ∃ v' w', (Builtin.append_ #[34, 34] 34 #[v, .slice (some ⟨g, off, none⟩) ys.length cap]).run Try.prog w = .ok v' w' ∧ w'.ownsRow B 3 1 v' (n + ys.length) (ints (xs ++ ys)) ∧ w.grownBy w' v.ownBlock ∧ (v'.ownBlock = v.ownBlock ∨ v'.ownBlock = some w.heap.size) := by
  obtain ⟨i, hi, hz0, hz1, hz2⟩ := info_parts infoInt
  obtain ⟨v', w', h1, h2, h3, -, h5⟩ := run_append_own_at (P := Try.prog) (w := w) B 34 34 3 i (.int .i64 0) 1 8 Try.underlying34 hi hz0 hz1 hz2 rfl (by decide) v n (ints xs) hown ⟨g, off, none⟩ ys.length cap (ints ys) (by rw [ints_len]; omega)
    (fun j u hu => by
      obtain ⟨_, _, he, _, _, hcell⟩ := hy
      simp [ints_len] at he
      obtain ⟨rfl, rfl⟩ := he
      obtain ⟨b', o', he, hlt, hc'⟩ := hcell j u hu
      simp at he
      obtain ⟨rfl, rfl⟩ := he
      rw [addr_add]; exact hc')
    (fun u hu => by obtain ⟨z, _, rfl⟩ := List.mem_map.1 hu; rfl) (by unfold maxLen; omega) (by omega) hB
  exact ⟨v', w', h1, by unfold ints at *; rw [List.map_append]; exact h2, h3, h5⟩

end Go.Proofs.Ytemejcbilhcebaa

namespace Go.Proofs.Ytemejcbilhcebaa
open Go.RowKit Go.Maps Jrn
set_option linter.unusedVariables false
set_option linter.unusedSimpArgs false

def Z3 (w : World) (B : Nat) : Prop := w.cell? ⟨B, 0, none⟩ = some (.string ⟨#[]⟩) ∧ w.cell? ⟨B, 1, none⟩ = some (.slice none 0 0) ∧ w.cell? ⟨B, 2, none⟩ = some (.slice none 0 0) ∧ B < w.heap.size ∧ ∀ o, w.frozen? ⟨B, o, none⟩ = false
theorem Z3.later {w w' : World} {B : Nat} (h : Z3 w B) (hb : Below w.heap.size w w') : Z3 w' B := by
  obtain ⟨h0, h1, h2, hl, hf⟩ := h
  exact ⟨bkeep hb h0, bkeep hb h1, bkeep hb h2, Nat.lt_of_lt_of_le hl hb.size, fun o => (World.frozen?_of_block (a := ⟨B, o, none⟩) (hb.block B hl)).trans (hf o)⟩
theorem Z3.new (w : World) : Z3 (w.alloc (.cells #[.string ⟨#[]⟩, .slice none 0 0, .slice none 0 0] 36)) w.heap.size :=
  ⟨by go_simp, by go_simp, by go_simp, by simp, fun o => by unfold World.frozen?; rw [(MapKept.heap_alloc w _).1]; simp⟩

end Go.Proofs.Ytemejcbilhcebaa
