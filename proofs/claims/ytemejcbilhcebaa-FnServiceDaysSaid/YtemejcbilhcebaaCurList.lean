import Derived.Test.YtemejcbilhcebaaCur
namespace Go.Proofs.Ytemejcbilhcebaa
open Go.RowKit
set_option linter.unusedVariables false

def ListOff (w : World) (b : Nat) (v : Value) (xs : List Value) : Prop := RowAt w v xs ∧ ∀ a n c, v = .slice (some a) n c → 0 < n → a.block ≠ b
theorem listOff_grown {w w' : World} {b : Nat} {v : Value} {xs : List Value} (h : ListOff w b v xs) (hg : w.grownBy w' (some b)) : ListOff w' b v xs := by
  obtain ⟨⟨a, c, hv, h1, h2, h3⟩, hoff⟩ := h
  refine ⟨⟨a, c, hv, h1, h2, fun k u hu => ?_⟩, hoff⟩
  obtain ⟨b2, off, ha, hlt, hc⟩ := h3 k u hu
  have hne : b2 ≠ b := by have := hoff ⟨b2, off, none⟩ _ _ (by rw [hv, ha]) (by have := (List.getElem?_eq_some_iff.1 hu).1; omega); exact this
  exact ⟨b2, off, ha, Nat.lt_of_lt_of_le hlt hg.size, by rw [World.cell?_of_block (hg.block b2 hlt (by simpa using hne))]; exact hc⟩

theorem listOff_built (w : World) (b : Nat) (xs : List Value) (t : TypeId) (hb : b < w.heap.size) (hm : xs.length ≤ 1000000) : ListOff (w.alloc (.cells xs.toArray t)) b (.slice (some ⟨w.heap.size, 0, none⟩) xs.length xs.length) xs := by
  refine ⟨⟨_, _, rfl, Nat.le_refl _, by unfold maxLen; omega, fun k u hu => ⟨w.heap.size, 0, rfl, by simp, ?_⟩⟩, fun a n c h _ => ?_⟩
  · rw [Nat.zero_add, cell_in (heap_alloc_new w _)]; simpa using hu
  · injection h with h1 _ _
    injection h1 with h1
    subst h1
    show w.heap.size ≠ b
    omega
theorem grown_alloc {w : World} {o : Obj} {r : Option Nat} : w.grownBy (w.alloc o) r := ⟨rfl, rfl, rfl, by simp, fun k hk _ => Below.heap_alloc _ _ _ hk⟩
theorem curAt_alloc {w : World} {b n : Nat} {v : Value} (h : CurAt w b v n) (o : Obj) : CurAt (w.alloc o) b v n := by
  obtain ⟨k, s, h1, h2⟩ := h
  refine ⟨k, s, ?_, h2⟩
  rw [Below.heap_alloc w o b (Array.getElem?_eq_some_iff.1 h1).1]; exact h1
theorem curAt_lt {w : World} {b n : Nat} {v : Value} (h : CurAt w b v n) : b < w.heap.size := by
  obtain ⟨k, s, h1, _⟩ := h; exact (Array.getElem?_eq_some_iff.1 h1).1
theorem curPost_trans {w w1 w2 : World} {b n m : Nat} {v : Value} (h : CurPost w b n v w1) (k : CurPost w1 b m v w2) : CurPost w b m v w2 := ⟨k.1, k.2.1, grown_trans h.2.2 k.2.2⟩

theorem cur_new (w : World) (v : Value) (h : CodeAt w v) :
    CurAt (w.alloc (.cells #[v, .int .i64 0, .int .u64 0] 75)) w.heap.size v 0 ∧ CodeOff (w.alloc (.cells #[v, .int .i64 0, .int .u64 0] 75)) w.heap.size v ∧
      Below w.heap.size w (w.alloc (.cells #[v, .int .i64 0, .int .u64 0] 75)) := by
  refine ⟨⟨0, 0, heap_alloc_new w _, Nat.le_refl _, by unfold SeedOk; omega⟩, ⟨?_, ?_⟩, (Below.refl _ _).alloc (Nat.le_refl _) _⟩
  · obtain ⟨l, hr⟩ := h
    exact ⟨l, hr.below rfl ((Below.refl _ _).alloc (Nat.le_refl _) _)⟩
  · intro a n c hv hn hb
    obtain ⟨l, a', c', hv', _, _, hcell⟩ := h
    rw [hv] at hv'
    injection hv' with e1 e2 _
    obtain ⟨b2, off, ha, hlt, _⟩ := hcell 0 _ (List.getElem?_eq_getElem (by omega))
    rw [ha] at e1
    injection e1 with e1
    subst e1
    simp at hb
    omega
end Go.Proofs.Ytemejcbilhcebaa
