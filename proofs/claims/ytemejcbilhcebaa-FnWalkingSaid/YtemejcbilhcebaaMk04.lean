/-
  JOINED TEXTS, each under its own namespace line: Ints, IntsLaw.
-/
import Derived.Test.YtemejcbilhcebaaSlices
import Derived.Test.YtemejcbilhcebaaMk03
import Derived.Lib.Hide
import Derived.OwnWalk
import Derived.Laws.NewBlocks
import Derived.Deep.Slices
import Derived.Deep.Fields
import Derived.Lib.SmallJoins
import Derived.ChangeSame
import Derived.Test.YtemejcbilhcebaaRows
import Derived.LoopTactic
import Derived.WalkLawsBesides
import Derived.BigQuiet
import Derived.Deep.RegionHeld3
import Derived.Deep.QuietTactic
import Derived.Laws.Entries
namespace Go.Proofs.Ytemejcbilhcebaa
open Go.RowKit Go.ChangeShapes Go.WideShapes Go.ChangeAt Go.Deep Go.Joins
set_option linter.unusedVariables false

def strs (xs : List ByteArray) : List Value := xs.map Value.string
def ints (zs : List Int) : List Value := zs.map (Value.int .i64)
theorem strs_len (xs : List ByteArray) : (strs xs).length = xs.length := List.length_map ..
theorem ints_len (xs : List Int) : (ints xs).length = xs.length := List.length_map ..
theorem strs_at {w : World} {a : Option Addr} {xs : List ByteArray} (h : ∀ k u, (strs xs)[k]? = some u → ∃ b off, a = some ⟨b, off, none⟩ ∧ b < w.heap.size ∧ w.cell? ⟨b, off + k, none⟩ = some u) (k : Nat) (hk : k < xs.length) :
    ∃ b off, a = some ⟨b, off, none⟩ ∧ b < w.heap.size ∧ w.cell? ⟨b, off + k, none⟩ = some (.string (xs[k]'hk)) := h k _ (by simp [strs, List.getElem?_eq_getElem hk])
theorem ints_at {w : World} {a : Option Addr} {xs : List Int} (h : ∀ k u, (ints xs)[k]? = some u → ∃ b off, a = some ⟨b, off, none⟩ ∧ b < w.heap.size ∧ w.cell? ⟨b, off + k, none⟩ = some u) (k : Nat) (hk : k < xs.length) :
    ∃ b off, a = some ⟨b, off, none⟩ ∧ b < w.heap.size ∧ w.cell? ⟨b, off + k, none⟩ = some (.int .i64 (xs[k]'hk)) := h k _ (by simp [ints, List.getElem?_eq_getElem hk])
theorem strs_open {w : World} {v : Value} {xs : List ByteArray} (h : RowAt w v (strs xs)) : ∃ a c, v = .slice a xs.length c ∧ xs.length ≤ c ∧ c ≤ 9223372036854775807 ∧
    Hid (∀ k (hk : k < xs.length), ∃ b off, a = some ⟨b, off, none⟩ ∧ b < w.heap.size ∧ w.cell? ⟨b, off + k, none⟩ = some (.string (xs[k]'hk))) := by
  obtain ⟨a, c, rfl, h1, h2, h3⟩ := h
  simp only [strs_len] at *
  exact ⟨a, c, rfl, h1, h2, strs_at h3⟩
theorem ints_open {w : World} {v : Value} {xs : List Int} (h : RowAt w v (ints xs)) : ∃ a c, v = .slice a xs.length c ∧ xs.length ≤ c ∧ c ≤ 9223372036854775807 ∧
    Hid (∀ k (hk : k < xs.length), ∃ b off, a = some ⟨b, off, none⟩ ∧ b < w.heap.size ∧ w.cell? ⟨b, off + k, none⟩ = some (.int .i64 (xs[k]'hk))) := by
  obtain ⟨a, c, rfl, h1, h2, h3⟩ := h
  simp only [ints_len] at *
  exact ⟨a, c, rfl, h1, h2, ints_at h3⟩
theorem not_take_succ {α : Type} {x : α} {xs : List α} {k : Nat} (hk : k < xs.length) (h : x ∉ xs.take k) (hne : xs[k] ≠ x) : x ∉ xs.take (k + 1) := by
  rw [List.take_succ_eq_append_getElem hk]; intro hm
  rcases List.mem_append.1 hm with g | g
  · exact h g
  · exact hne (by simpa using g : x = xs[k]).symm
theorem not_take_all {α : Type} {x : α} {xs : List α} {k : Nat} (hk : xs.length ≤ k) (h : x ∉ xs.take k) : x ∉ xs := by rwa [List.take_of_length_le hk] at h
theorem bkeep {w w' : World} {p : Addr} {x : Value} (hb : Below w.heap.size w w') (h : w.cell? p = some x) : w'.cell? p = some x := by
  rw [hb.cell (World.block_lt_of_cell? w _ h)]; exact h
theorem acell {w : World} {p : Addr} {x : Value} (h : w.cell? p = some x) (o : Obj) : (w.alloc o).cell? p = some x := by
  rw [((Below.refl w.heap.size w).alloc (Nat.le_refl _) o).cell (World.block_lt_of_cell? w _ h)]; exact h
theorem own_block {w w' : World} {B : Nat} {e : TypeId} {sz : Nat} {v : Value} {n : Nat} {xs : List Value} (h : w.ownsRow B e sz v n xs) (hb : ∀ g, v.ownBlock = some g → w'.heap[g]? = w.heap[g]?) : w'.ownsRow B e sz v n xs := by
  obtain ⟨h1, h2⟩ := h
  refine ⟨h1, ?_⟩
  rcases h2 with h2 | ⟨g, cap, cur, hv, hg, hh, r⟩
  · exact .inl h2
  · exact .inr ⟨g, cap, cur, hv, hg, (hb g (by rw [hv]; rfl)).trans hh, r⟩
theorem own_later {w w' : World} {B : Nat} {e : TypeId} {sz : Nat} {v : Value} {n : Nat} {xs : List Value} (h : w.ownsRow B e sz v n xs) (hb : Below w.heap.size w w') : w'.ownsRow B e sz v n xs :=
  own_block h (fun g hg => hb.block g (h.lt g hg).2)
theorem own_base {w : World} {B B' : Nat} {e : TypeId} {sz : Nat} {v : Value} {n : Nat} {xs : List Value} (h : w.ownsRow B e sz v n xs) (hB : B' ≤ B) : w.ownsRow B' e sz v n xs := by
  obtain ⟨h1, h2⟩ := h
  refine ⟨h1, ?_⟩
  rcases h2 with h2 | ⟨g, cap, cur, hv, hg, r⟩
  · exact .inl h2
  · exact .inr ⟨g, cap, cur, hv, Nat.le_trans hB hg, r⟩
theorem own_shape {w : World} {B : Nat} {e : TypeId} {sz : Nat} {v : Value} {n : Nat} {xs : List Value} (h : w.ownsRow B e sz v n xs) : ∃ a c, v = .slice a n c := by
  obtain ⟨_, h2⟩ := h
  rcases h2 with ⟨hv, hn⟩ | ⟨g, cap, cur, hv, _⟩
  · subst hn; exact ⟨_, _, hv⟩
  · exact ⟨_, _, hv⟩

structure Out (lo hi : Nat) (w w' : World) : Prop where
  below : Below lo w w'
  above : ∀ b, hi ≤ b → b < w.heap.size → w'.heap[b]? = w.heap[b]?
theorem Out.refl (lo hi : Nat) (w : World) : Out lo hi w w := ⟨Below.refl _ _, fun _ _ _ => rfl⟩
theorem Out.trans {lo hi : Nat} {a b c : World} (h : Out lo hi a b) (k : Out lo hi b c) : Out lo hi a c :=
  ⟨h.below.trans k.below, fun i hi' hl => (k.above i hi' (Nat.lt_of_lt_of_le hl h.below.size)).trans (h.above i hi' hl)⟩
theorem Out.of_below {lo hi : Nat} {w w' : World} (h : Below w.heap.size w w') (hl : lo ≤ w.heap.size) : Out lo hi w w' := ⟨h.mono hl, fun b _ hb => h.block b hb⟩
theorem Out.setCell {lo hi : Nat} {w w' : World} (h : Out lo hi w w') {p : Addr} (h1 : lo ≤ p.block) (h2 : p.block < hi) (u : Value) : Out lo hi w (w'.setCell p u) :=
  ⟨h.below.setCell h1 u, fun b hb hl => by rw [Below.heap_setCell _ _ _ _ (by omega)]; exact h.above b hb hl⟩
theorem Out.cell {lo hi : Nat} {w w' : World} (h : Out lo hi w w') {p : Addr} (hp : p.block < lo ∨ hi ≤ p.block) {x : Value} (hc : w.cell? p = some x) : w'.cell? p = some x := by
  have hlt := World.block_lt_of_cell? w _ hc
  rcases hp with hp | hp
  · rw [h.below.cell hp]; exact hc
  · rw [World.cell?_of_block (w := w) (h.above p.block hp hlt)]; exact hc
theorem Out.block {lo hi : Nat} {w w' : World} (h : Out lo hi w w') {b : Nat} (hb : b < lo ∨ hi ≤ b) (hl : b < w.heap.size) : w'.heap[b]? = w.heap[b]? := by
  rcases hb with hb | hb
  · exact h.below.block b hb
  · exact h.above b hb hl
theorem own_out {lo hi B : Nat} {w w' : World} {e : TypeId} {sz : Nat} {v : Value} {n : Nat} {xs : List Value} (h : w.ownsRow B e sz v n xs) (ho : Out lo hi w w') (hb : ∀ g, v.ownBlock = some g → g < lo ∨ hi ≤ g) : w'.ownsRow B e sz v n xs :=
  own_block h (fun g hg => ho.block (hb g hg) (h.lt g hg).2)

theorem RowAt.out {lo hi : Nat} {w w' : World} {v : Value} {xs : List Value} (h : RowAt w v xs) (ho : Out lo hi w w') (hb : ∀ g, v.ownBlock = some g → g < lo ∨ hi ≤ g) : RowAt w' v xs := by
  obtain ⟨a, c, hv, h1, h2, h3⟩ := h
  refine ⟨a, c, hv, h1, h2, fun k u hu => ?_⟩
  obtain ⟨b, off, ha, hlt, hc⟩ := h3 k u hu
  exact ⟨b, off, ha, Nat.lt_of_lt_of_le hlt ho.below.size, ho.cell (p := ⟨b, off + k, none⟩) (hb b (by rw [hv, ha]; rfl)) hc⟩
theorem one_new (w : World) (u : Value) {t : TypeId} : ∀ j x, [u][j]? = some x → (w.alloc (.cells #[u] t)).cell? ((⟨w.heap.size, 0, none⟩ : Addr).add j) = some x := by
  intro j x hx
  cases j with
  | zero => simp at hx; subst hx; simp [Addr.add]
  | succ j => simp at hx
theorem one_newN (w : World) (u : Value) (m : Nat) (hm : m = w.heap.size) {t : TypeId} : ∀ j x, [u][j]? = some x → (w.alloc (.cells #[u] t)).cell? ((⟨m, 0, none⟩ : Addr).add j) = some x := by
  subst hm; exact one_new w u

def IntsIn (l u : Nat) (w : World) (v : Value) (xs : List Int) : Prop := w.ownsRow l 3 1 v xs.length (ints xs) ∧ ∀ g, v.ownBlock = some g → g < u
theorem IntsIn.at {l u : Nat} {w : World} {v : Value} {xs : List Int} (h : IntsIn l u w v xs) : RowAt w v (ints xs) := rowAt_own h.1
theorem IntsIn.lo {l u : Nat} {w : World} {v : Value} {xs : List Int} (h : IntsIn l u w v xs) (g : Nat) (hg : v.ownBlock = some g) : l ≤ g := (h.1.lt g hg).1
theorem IntsIn.later {l u : Nat} {w w' : World} {v : Value} {xs : List Int} (h : IntsIn l u w v xs) (hb : Below w.heap.size w w') : IntsIn l u w' v xs := ⟨own_later h.1 hb, h.2⟩
theorem IntsIn.out {l u lo hi : Nat} {w w' : World} {v : Value} {xs : List Int} (h : IntsIn l u w v xs) (ho : Out lo hi w w') (hs : u ≤ lo ∨ hi ≤ l) : IntsIn l u w' v xs :=
  ⟨own_out h.1 ho (fun g hg => by have := h.2 g hg; have := h.lo g hg; omega), h.2⟩
theorem IntsIn.mk {l : Nat} {w : World} {v : Value} {xs : List Int} (h : w.ownsRow l 3 1 v xs.length (ints xs)) : IntsIn l w.heap.size w v xs := ⟨h, fun g hg => (h.lt g hg).2⟩
theorem IntsIn.base {l l' u u' : Nat} {w : World} {v : Value} {xs : List Int} (h : IntsIn l u w v xs) (hl : l' ≤ l) (hu : u ≤ u') : IntsIn l' u' w v xs := ⟨own_base h.1 hl, fun g hg => Nat.lt_of_lt_of_le (h.2 g hg) hu⟩
theorem IntsIn.nil (l u : Nat) (w : World) : IntsIn l u w (.slice none 0 0) [] := ⟨World.ownsRow_nil _ _ _ _, fun g hg => by simp [Value.ownBlock] at hg⟩
theorem IntS_open {w : World} {v : Value} {xs : List Int} (h : RowAt w v (ints xs)) : ∃ a c, v = .slice a xs.length c := by
  obtain ⟨a, c, hv, _⟩ := h
  rw [ints_len] at hv
  exact ⟨a, c, hv⟩

section
variable {H : Type} {enc : TypeId × Value → H} {P : Program} {w : World} {base : Nat} {spare : Nat → Bool} {held : Bool}
end
end Go.Proofs.Ytemejcbilhcebaa

namespace Go.Proofs.Ytemejcbilhcebaa
open Go.RowKit
set_option linter.unusedVariables false

theorem infoInt : (Try.prog.info? 3).map (fun i => (i.zero, i.size, i.bytes)) = some (some (.int .i64 0), 1, 8) := by kernel_rfl

end Go.Proofs.Ytemejcbilhcebaa
