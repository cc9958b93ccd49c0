/-
  JOINED TEXTS, each under its own namespace line: CurList, CurAmong, Plain1.
-/
import Derived.Test.YtemejcbilhcebaaCur
import Derived.WalkKit
namespace Go.Proofs.Ytemejcbilhcebaa
open Go.RowKit
set_option linter.unusedVariables false

def ListOff (w : World) (b : Nat) (v : Value) (xs : List Value) : Prop := RowAt w v xs ∧ ∀ a n c, v = .slice (some a) n c → 0 < n → a.block ≠ b
theorem listOff_grown {w w' : World} {b : Nat} {v : Value} {xs : List Value} (h : ListOff w b v xs) (hg : w.grownBy w' (some b)) : ListOff w' b v xs := by
  obtain ⟨⟨a, c, hv, h1, h2, h3⟩, hoff⟩ := h
  refine ⟨⟨a, c, hv, h1, h2, fun k u hu => ?_⟩, hoff⟩
  obtain ⟨b2, off, ha, hlt, hc⟩ := h3 k u hu
  have hne : b2 ≠ b := by have := hoff ⟨b2, off, none⟩ _ _ (by rw [hv, ha]) (by have := (List.getElem?_eq_some_iff.1 hu).1; omega); exact this
  exact ⟨b2, off, ha, Nat.lt_of_lt_of_le hlt hg.size, by rw [World.cell?_of_block (hg.block b2 hlt (by simpa using hne))]; exact hc⟩

theorem listOff_built (w : World) (b : Nat) (xs : List Value) (t : TypeId) (hb : b < w.heap.size) (hm : xs.length ≤ 1000000) : ListOff (w.alloc (.cells xs.toArray t)) b (.slice (some ⟨w.heap.size, 0, none⟩) xs.length xs.length) xs := by
  refine ⟨⟨_, _, rfl, Nat.le_refl _, by unfold maxLen; omega, fun k u hu => ⟨w.heap.size, 0, rfl, by simp, ?_⟩⟩, fun a n c h _ => ?_⟩
  · rw [Nat.zero_add, cell_in (heap_alloc_new w _)]; simpa using hu
  · injection h with h1 _ _
    injection h1 with h1
    subst h1
    show w.heap.size ≠ b
    omega
theorem grown_alloc {w : World} {o : Obj} {r : Option Nat} : w.grownBy (w.alloc o) r := ⟨rfl, rfl, rfl, by simp, fun k hk _ => Below.heap_alloc _ _ _ hk⟩
theorem curAt_alloc {w : World} {b n : Nat} {v : Value} (h : CurAt w b v n) (o : Obj) : CurAt (w.alloc o) b v n := by
  obtain ⟨k, s, h1, h2⟩ := h
  refine ⟨k, s, ?_, h2⟩
  rw [Below.heap_alloc w o b (Array.getElem?_eq_some_iff.1 h1).1]; exact h1
theorem curAt_lt {w : World} {b n : Nat} {v : Value} (h : CurAt w b v n) : b < w.heap.size := by
  obtain ⟨k, s, h1, _⟩ := h; exact (Array.getElem?_eq_some_iff.1 h1).1
theorem curPost_trans {w w1 w2 : World} {b n m : Nat} {v : Value} (h : CurPost w b n v w1) (k : CurPost w1 b m v w2) : CurPost w b m v w2 := ⟨k.1, k.2.1, grown_trans h.2.2 k.2.2⟩

theorem cur_new (w : World) (v : Value) (h : CodeAt w v) :
    CurAt (w.alloc (.cells #[v, .int .i64 0, .int .u64 0] 75)) w.heap.size v 0 ∧ CodeOff (w.alloc (.cells #[v, .int .i64 0, .int .u64 0] 75)) w.heap.size v ∧
      Below w.heap.size w (w.alloc (.cells #[v, .int .i64 0, .int .u64 0] 75)) := by
  refine ⟨⟨0, 0, heap_alloc_new w _, Nat.le_refl _, by unfold SeedOk; omega⟩, ⟨?_, ?_⟩, (Below.refl _ _).alloc (Nat.le_refl _) _⟩
  · obtain ⟨l, hr⟩ := h
    exact ⟨l, hr.below rfl ((Below.refl _ _).alloc (Nat.le_refl _) _)⟩
  · intro a n c hv hn hb
    obtain ⟨l, a', c', hv', _, _, hcell⟩ := h
    rw [hv] at hv'
    injection hv' with e1 e2 _
    obtain ⟨b2, off, ha, hlt, _⟩ := hcell 0 _ (List.getElem?_eq_getElem (by omega))
    rw [ha] at e1
    injection e1 with e1
    subst e1
    simp at hb
    omega
end Go.Proofs.Ytemejcbilhcebaa

namespace Go.Proofs.Ytemejcbilhcebaa
open Go.RowKit
set_option linter.unusedVariables false

set_option maxHeartbeats 1000000 in
theorem among_any (b n : Nat) (v vl : Value) (xs : List Int) (w : World) (hc : CurAt w b v n) (hv : CodeOff w b v) (hn : n ≤ 900000) (hl : ListOff w b vl (xs.map (.int .i64))) (h1 : 1 ≤ xs.length) (h2 : xs.length ≤ 1000000) (h3 : ∀ z ∈ xs, -1000000 ≤ z ∧ z ≤ 1000000) :
    Calls Try.prog 65 #[.pointer (some ⟨b, 0, none⟩), vl] w fun e w' => (∃ x : Int, x ∈ xs ∧ e = .returned (.int .i64 x)) ∧ CurPost w b (n + 2) v w' := by
  have HL := Lib.hid hl
  obtain ⟨⟨a, c, rfl, hl1, hl2, _⟩, _⟩ := hl
  rw [List.length_map] at *
  have H1 := Lib.hid (pick_any b n v (xs.length : Int) w hc hv hn (by omega))
  clear hc hv
  go_enter Try.func65, Try.ntmps65
  go_wp2_with fail
  go_at_call 42
  refine H1.out.mono ?_
  rintro e w1 ⟨⟨r, rfl, r0, r1⟩, hp⟩
  have hr := r1 (by omega)
  obtain ⟨k, rfl⟩ := Int.eq_ofNat_of_zero_le r0
  have hk : k < xs.length := by omega
  obtain ⟨⟨a', c', hv', _, _, hcell⟩, _⟩ := listOff_grown HL.out hp.2.2
  obtain ⟨b2, off, ha, _, hcx⟩ := hcell k (.int .i64 (xs[k]'hk)) (by simp [List.getElem?_eq_getElem hk])
  obtain rfl : a = some ⟨b2, off, none⟩ := by
    have e : a = a' := by injection hv'
    rw [e, ha]
  have HM := Lib.hid (List.getElem_mem hk)
  have hz := h3 _ (List.getElem_mem hk)
  clear hcell hv' ha r1 HL
  generalize xs[k] = x at *
  have HP := Lib.hid hp
  clear hp
  go_wp2_with fail
  go_ret
  exact ⟨⟨x, HM.out, rfl⟩, HP.out⟩

end Go.Proofs.Ytemejcbilhcebaa

namespace Go.Proofs.Ytemejcbilhcebaa
open Go.RowKit

theorem ret_int {k : IntKind} {a b : Int} (h : a = b) : Ending.returned (.int k a) = .returned (.int k b) := by rw [h]
theorem ret_bool {a b : Bool} (h : a = b) : Ending.returned (.bool a) = .returned (.bool b) := by rw [h]
end Go.Proofs.Ytemejcbilhcebaa
