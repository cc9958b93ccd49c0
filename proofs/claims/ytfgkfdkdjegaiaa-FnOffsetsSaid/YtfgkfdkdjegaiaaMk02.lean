/-
  JOINED TEXTS, each under its own namespace line: CurList, CurAmong, Plain1, Ints, IntsLaw, CurPost.
-/
import Derived.Test.YtfgkfdkdjegaiaaMk01
import Derived.WalkKit
import Derived.Lib.Hide
import Derived.OwnWalk
import Derived.Laws.NewBlocks
import Derived.Deep.Slices
import Derived.Deep.Fields
import Derived.Lib.SmallJoins
import Derived.ChangeSame
import Derived.Test.YtfgkfdkdjegaiaaRows
import Derived.LoopTactic
import Derived.WalkLawsBesides
import Derived.BigQuiet
import Derived.Deep.RegionHeld3
import Derived.Deep.QuietTactic
import Derived.Laws.Entries
namespace Go.Proofs.Ytfgkfdkdjegaiaa
open Go.RowKit
set_option linter.unusedVariables false

def ListOff (w : World) (b : Nat) (v : Value) (xs : List Value) : Prop := RowAt w v xs ∧ ∀ a n c, v = .slice (some a) n c → 0 < n → a.block ≠ b
theorem listOff_grown {w w' : World} {b : Nat} {v : Value} {xs : List Value} (h : ListOff w b v xs) (hg : w.grownBy w' (some b)) : ListOff w' b v xs := by
  obtain ⟨⟨a, c, hv, h1, h2, h3⟩, hoff⟩ := h
  refine ⟨⟨a, c, hv, h1, h2, fun k u hu => ?_⟩, hoff⟩
  obtain ⟨b2, off, ha, hlt, hc⟩ := h3 k u hu
  have hne : b2 ≠ b := by have := hoff ⟨b2, off, none⟩ _ _ (by rw [hv, ha]) (by have := (List.getElem?_eq_some_iff.1 hu).1; omega); exact this
  exact ⟨b2, off, ha, Nat.lt_of_lt_of_le hlt hg.size, by rw [World.cell?_of_block (hg.block b2 hlt (by simpa using hne))]; exact hc⟩

theorem listOff_built (w : World) (b : Nat) (xs : List Value) (t : TypeId) (hb : b < w.heap.size) (hm : xs.length ≤ 1000000) : ListOff (w.alloc (.cells xs.toArray t)) b (.slice (some ⟨w.heap.size, 0, none⟩) xs.length xs.length) xs := by
  refine ⟨⟨_, _, rfl, Nat.le_refl _, by unfold maxLen; omega, fun k u hu => ⟨w.heap.size, 0, rfl, by simp, ?_⟩⟩, fun a n c h _ => ?_⟩
  · rw [Nat.zero_add, cell_in (heap_alloc_new w _)]; simpa using hu
  · injection h with h1 _ _
    injection h1 with h1
    subst h1
    show w.heap.size ≠ b
    omega
theorem grown_alloc {w : World} {o : Obj} {r : Option Nat} : w.grownBy (w.alloc o) r := ⟨rfl, rfl, rfl, by simp, fun k hk _ => Below.heap_alloc _ _ _ hk⟩
theorem curAt_alloc {w : World} {b n : Nat} {v : Value} (h : CurAt w b v n) (o : Obj) : CurAt (w.alloc o) b v n := by
  obtain ⟨k, s, h1, h2⟩ := h
  refine ⟨k, s, ?_, h2⟩
  rw [Below.heap_alloc w o b (Array.getElem?_eq_some_iff.1 h1).1]; exact h1
theorem curAt_lt {w : World} {b n : Nat} {v : Value} (h : CurAt w b v n) : b < w.heap.size := by
  obtain ⟨k, s, h1, _⟩ := h; exact (Array.getElem?_eq_some_iff.1 h1).1
theorem curPost_trans {w w1 w2 : World} {b n m : Nat} {v : Value} (h : CurPost w b n v w1) (k : CurPost w1 b m v w2) : CurPost w b m v w2 := ⟨k.1, k.2.1, grown_trans h.2.2 k.2.2⟩

theorem cur_new (w : World) (v : Value) (h : CodeAt w v) :
    CurAt (w.alloc (.cells #[v, .int .i64 0, .int .u64 0] 84)) w.heap.size v 0 ∧ CodeOff (w.alloc (.cells #[v, .int .i64 0, .int .u64 0] 84)) w.heap.size v ∧
      Below w.heap.size w (w.alloc (.cells #[v, .int .i64 0, .int .u64 0] 84)) := by
  refine ⟨⟨0, 0, heap_alloc_new w _, Nat.le_refl _, by unfold SeedOk; omega⟩, ⟨?_, ?_⟩, (Below.refl _ _).alloc (Nat.le_refl _) _⟩
  · obtain ⟨l, hr⟩ := h
    exact ⟨l, hr.below rfl ((Below.refl _ _).alloc (Nat.le_refl _) _)⟩
  · intro a n c hv hn hb
    obtain ⟨l, a', c', hv', _, _, hcell⟩ := h
    rw [hv] at hv'
    injection hv' with e1 e2 _
    obtain ⟨b2, off, ha, hlt, _⟩ := hcell 0 _ (List.getElem?_eq_getElem (by omega))
    rw [ha] at e1
    injection e1 with e1
    subst e1
    simp at hb
    omega
theorem below_of_curPost {w w0 w' : World} {n : Nat} {v : Value} (hb : Below w.heap.size w w0) (h : CurPost w0 w.heap.size n v w') : Below w.heap.size w w' :=
  hb.grown h.2.2 hb.size (fun k hk => by cases hk; exact Nat.le_refl _)
end Go.Proofs.Ytfgkfdkdjegaiaa

namespace Go.Proofs.Ytfgkfdkdjegaiaa
open Go.RowKit
set_option linter.unusedVariables false

set_option maxHeartbeats 1000000 in
theorem among_any (b n : Nat) (v vl : Value) (xs : List Int) (w : World) (hc : CurAt w b v n) (hv : CodeOff w b v) (hn : n ≤ 900000) (hl : ListOff w b vl (xs.map (.int .i64))) (h1 : 1 ≤ xs.length) (h2 : xs.length ≤ 1000000) (h3 : ∀ z ∈ xs, -1000000 ≤ z ∧ z ≤ 1000000) :
    Calls Try.prog 76 #[.pointer (some ⟨b, 0, none⟩), vl] w fun e w' => (∃ x : Int, x ∈ xs ∧ e = .returned (.int .i64 x)) ∧ CurPost w b (n + 2) v w' := by
  have HL := Lib.hid hl
  obtain ⟨⟨a, c, rfl, hl1, hl2, _⟩, _⟩ := hl
  rw [List.length_map] at *
  have H1 := Lib.hid (pick_any b n v (xs.length : Int) w hc hv hn (by omega))
  clear hc hv
  go_enter Try.func76, Try.ntmps76
  go_wp2_with fail
  go_at_call 70
  refine H1.out.mono ?_
  rintro e w1 ⟨⟨r, rfl, r0, r1⟩, hp⟩
  have hr := r1 (by omega)
  obtain ⟨k, rfl⟩ := Int.eq_ofNat_of_zero_le r0
  have hk : k < xs.length := by omega
  obtain ⟨⟨a', c', hv', _, _, hcell⟩, _⟩ := listOff_grown HL.out hp.2.2
  obtain ⟨b2, off, ha, _, hcx⟩ := hcell k (.int .i64 (xs[k]'hk)) (by simp [List.getElem?_eq_getElem hk])
  obtain rfl : a = some ⟨b2, off, none⟩ := by
    have e : a = a' := by injection hv'
    rw [e, ha]
  have HM := Lib.hid (List.getElem_mem hk)
  have hz := h3 _ (List.getElem_mem hk)
  clear hcell hv' ha r1 HL
  generalize xs[k] = x at *
  have HP := Lib.hid hp
  clear hp
  go_wp2_with fail
  go_ret
  exact ⟨⟨x, HM.out, rfl⟩, HP.out⟩

end Go.Proofs.Ytfgkfdkdjegaiaa

namespace Go.Proofs.Ytfgkfdkdjegaiaa
open Go.RowKit

theorem ret_int {k : IntKind} {a b : Int} (h : a = b) : Ending.returned (.int k a) = .returned (.int k b) := by rw [h]
theorem ret_bool {a b : Bool} (h : a = b) : Ending.returned (.bool a) = .returned (.bool b) := by rw [h]
end Go.Proofs.Ytfgkfdkdjegaiaa

namespace Go.Proofs.Ytfgkfdkdjegaiaa
open Go.RowKit Go.ChangeShapes Go.WideShapes Go.ChangeAt Go.Deep Go.Joins
set_option linter.unusedVariables false

def strs (xs : List ByteArray) : List Value := xs.map Value.string
def ints (zs : List Int) : List Value := zs.map (Value.int .i64)
theorem strs_len (xs : List ByteArray) : (strs xs).length = xs.length := List.length_map ..
theorem ints_len (xs : List Int) : (ints xs).length = xs.length := List.length_map ..
theorem strs_at {w : World} {a : Option Addr} {xs : List ByteArray} (h : ∀ k u, (strs xs)[k]? = some u → ∃ b off, a = some ⟨b, off, none⟩ ∧ b < w.heap.size ∧ w.cell? ⟨b, off + k, none⟩ = some u) (k : Nat) (hk : k < xs.length) :
    ∃ b off, a = some ⟨b, off, none⟩ ∧ b < w.heap.size ∧ w.cell? ⟨b, off + k, none⟩ = some (.string (xs[k]'hk)) := h k _ (by simp [strs, List.getElem?_eq_getElem hk])
theorem ints_at {w : World} {a : Option Addr} {xs : List Int} (h : ∀ k u, (ints xs)[k]? = some u → ∃ b off, a = some ⟨b, off, none⟩ ∧ b < w.heap.size ∧ w.cell? ⟨b, off + k, none⟩ = some u) (k : Nat) (hk : k < xs.length) :
    ∃ b off, a = some ⟨b, off, none⟩ ∧ b < w.heap.size ∧ w.cell? ⟨b, off + k, none⟩ = some (.int .i64 (xs[k]'hk)) := h k _ (by simp [ints, List.getElem?_eq_getElem hk])
theorem strs_open {w : World} {v : Value} {xs : List ByteArray} (h : RowAt w v (strs xs)) : ∃ a c, v = .slice a xs.length c ∧ xs.length ≤ c ∧ c ≤ 9223372036854775807 ∧
    Hid (∀ k (hk : k < xs.length), ∃ b off, a = some ⟨b, off, none⟩ ∧ b < w.heap.size ∧ w.cell? ⟨b, off + k, none⟩ = some (.string (xs[k]'hk))) := by
  obtain ⟨a, c, rfl, h1, h2, h3⟩ := h
  simp only [strs_len] at *
  exact ⟨a, c, rfl, h1, h2, strs_at h3⟩
theorem ints_open {w : World} {v : Value} {xs : List Int} (h : RowAt w v (ints xs)) : ∃ a c, v = .slice a xs.length c ∧ xs.length ≤ c ∧ c ≤ 9223372036854775807 ∧
    Hid (∀ k (hk : k < xs.length), ∃ b off, a = some ⟨b, off, none⟩ ∧ b < w.heap.size ∧ w.cell? ⟨b, off + k, none⟩ = some (.int .i64 (xs[k]'hk))) := by
  obtain ⟨a, c, rfl, h1, h2, h3⟩ := h
  simp only [ints_len] at *
  exact ⟨a, c, rfl, h1, h2, ints_at h3⟩
theorem not_take_succ {α : Type} {x : α} {xs : List α} {k : Nat} (hk : k < xs.length) (h : x ∉ xs.take k) (hne : xs[k] ≠ x) : x ∉ xs.take (k + 1) := by
  rw [List.take_succ_eq_append_getElem hk]; intro hm
  rcases List.mem_append.1 hm with g | g
  · exact h g
  · exact hne (by simpa using g : x = xs[k]).symm
theorem not_take_all {α : Type} {x : α} {xs : List α} {k : Nat} (hk : xs.length ≤ k) (h : x ∉ xs.take k) : x ∉ xs := by rwa [List.take_of_length_le hk] at h
theorem bkeep {w w' : World} {p : Addr} {x : Value} (hb : Below w.heap.size w w') (h : w.cell? p = some x) : w'.cell? p = some x := by
  rw [hb.cell (World.block_lt_of_cell? w _ h)]; exact h
theorem acell {w : World} {p : Addr} {x : Value} (h : w.cell? p = some x) (o : Obj) : (w.alloc o).cell? p = some x := by
  rw [((Below.refl w.heap.size w).alloc (Nat.le_refl _) o).cell (World.block_lt_of_cell? w _ h)]; exact h
theorem own_block {w w' : World} {B : Nat} {e : TypeId} {sz : Nat} {v : Value} {n : Nat} {xs : List Value} (h : w.ownsRow B e sz v n xs) (hb : ∀ g, v.ownBlock = some g → w'.heap[g]? = w.heap[g]?) : w'.ownsRow B e sz v n xs := by
  obtain ⟨h1, h2⟩ := h
  refine ⟨h1, ?_⟩
  rcases h2 with h2 | ⟨g, cap, cur, hv, hg, hh, r⟩
  · exact .inl h2
  · exact .inr ⟨g, cap, cur, hv, hg, (hb g (by rw [hv]; rfl)).trans hh, r⟩
theorem own_later {w w' : World} {B : Nat} {e : TypeId} {sz : Nat} {v : Value} {n : Nat} {xs : List Value} (h : w.ownsRow B e sz v n xs) (hb : Below w.heap.size w w') : w'.ownsRow B e sz v n xs :=
  own_block h (fun g hg => hb.block g (h.lt g hg).2)
theorem own_base {w : World} {B B' : Nat} {e : TypeId} {sz : Nat} {v : Value} {n : Nat} {xs : List Value} (h : w.ownsRow B e sz v n xs) (hB : B' ≤ B) : w.ownsRow B' e sz v n xs := by
  obtain ⟨h1, h2⟩ := h
  refine ⟨h1, ?_⟩
  rcases h2 with h2 | ⟨g, cap, cur, hv, hg, r⟩
  · exact .inl h2
  · exact .inr ⟨g, cap, cur, hv, Nat.le_trans hB hg, r⟩
theorem own_shape {w : World} {B : Nat} {e : TypeId} {sz : Nat} {v : Value} {n : Nat} {xs : List Value} (h : w.ownsRow B e sz v n xs) : ∃ a c, v = .slice a n c := by
  obtain ⟨_, h2⟩ := h
  rcases h2 with ⟨hv, hn⟩ | ⟨g, cap, cur, hv, _⟩
  · subst hn; exact ⟨_, _, hv⟩
  · exact ⟨_, _, hv⟩

structure Out (lo hi : Nat) (w w' : World) : Prop where
  below : Below lo w w'
  above : ∀ b, hi ≤ b → b < w.heap.size → w'.heap[b]? = w.heap[b]?
theorem Out.refl (lo hi : Nat) (w : World) : Out lo hi w w := ⟨Below.refl _ _, fun _ _ _ => rfl⟩
theorem Out.trans {lo hi : Nat} {a b c : World} (h : Out lo hi a b) (k : Out lo hi b c) : Out lo hi a c :=
  ⟨h.below.trans k.below, fun i hi' hl => (k.above i hi' (Nat.lt_of_lt_of_le hl h.below.size)).trans (h.above i hi' hl)⟩
theorem Out.of_below {lo hi : Nat} {w w' : World} (h : Below w.heap.size w w') (hl : lo ≤ w.heap.size) : Out lo hi w w' := ⟨h.mono hl, fun b _ hb => h.block b hb⟩
theorem Out.setCell {lo hi : Nat} {w w' : World} (h : Out lo hi w w') {p : Addr} (h1 : lo ≤ p.block) (h2 : p.block < hi) (u : Value) : Out lo hi w (w'.setCell p u) :=
  ⟨h.below.setCell h1 u, fun b hb hl => by rw [Below.heap_setCell _ _ _ _ (by omega)]; exact h.above b hb hl⟩
theorem Out.cell {lo hi : Nat} {w w' : World} (h : Out lo hi w w') {p : Addr} (hp : p.block < lo ∨ hi ≤ p.block) {x : Value} (hc : w.cell? p = some x) : w'.cell? p = some x := by
  have hlt := World.block_lt_of_cell? w _ hc
  rcases hp with hp | hp
  · rw [h.below.cell hp]; exact hc
  · rw [World.cell?_of_block (w := w) (h.above p.block hp hlt)]; exact hc
theorem Out.block {lo hi : Nat} {w w' : World} (h : Out lo hi w w') {b : Nat} (hb : b < lo ∨ hi ≤ b) (hl : b < w.heap.size) : w'.heap[b]? = w.heap[b]? := by
  rcases hb with hb | hb
  · exact h.below.block b hb
  · exact h.above b hb hl
theorem RowAt.out {lo hi : Nat} {w w' : World} {v : Value} {xs : List Value} (h : RowAt w v xs) (ho : Out lo hi w w') (hb : ∀ g, v.ownBlock = some g → g < lo ∨ hi ≤ g) : RowAt w' v xs := by
  obtain ⟨a, c, hv, h1, h2, h3⟩ := h
  refine ⟨a, c, hv, h1, h2, fun k u hu => ?_⟩
  obtain ⟨b, off, ha, hlt, hc⟩ := h3 k u hu
  exact ⟨b, off, ha, Nat.lt_of_lt_of_le hlt ho.below.size, ho.cell (p := ⟨b, off + k, none⟩) (hb b (by rw [hv, ha]; rfl)) hc⟩
theorem one_new (w : World) (u : Value) {t : TypeId} : ∀ j x, [u][j]? = some x → (w.alloc (.cells #[u] t)).cell? ((⟨w.heap.size, 0, none⟩ : Addr).add j) = some x := by
  intro j x hx
  cases j with
  | zero => simp at hx; subst hx; simp [Addr.add]
  | succ j => simp at hx
theorem one_newN (w : World) (u : Value) (m : Nat) (hm : m = w.heap.size) {t : TypeId} : ∀ j x, [u][j]? = some x → (w.alloc (.cells #[u] t)).cell? ((⟨m, 0, none⟩ : Addr).add j) = some x := by
  subst hm; exact one_new w u

theorem IntS_open {w : World} {v : Value} {xs : List Int} (h : RowAt w v (ints xs)) : ∃ a c, v = .slice a xs.length c := by
  obtain ⟨a, c, hv, _⟩ := h
  rw [ints_len] at hv
  exact ⟨a, c, hv⟩

section
variable {H : Type} {enc : TypeId × Value → H} {P : Program} {w : World} {base : Nat} {spare : Nat → Bool} {held : Bool}
end
end Go.Proofs.Ytfgkfdkdjegaiaa

namespace Go.Proofs.Ytfgkfdkdjegaiaa
open Go.RowKit
set_option linter.unusedVariables false

theorem infoInt : (Try.prog.info? 3).map (fun i => (i.zero, i.size, i.bytes)) = some (some (.int .i64 0), 1, 8) := by kernel_rfl

end Go.Proofs.Ytfgkfdkdjegaiaa

namespace Go.Proofs.Ytfgkfdkdjegaiaa
open Go.RowKit
set_option linter.unusedVariables false

theorem curPost_alloc {w w1 : World} {b n : Nat} {v : Value} (h : CurPost w b n v w1) (o : Obj) : CurPost w b n v (w1.alloc o) := ⟨curAt_alloc h.1 o, codeOff_grown h.2.1 grown_alloc, grown_trans h.2.2 grown_alloc⟩
theorem curPost_start {w : World} {b n : Nat} {v : Value} (hc : CurAt w b v n) (hv : CodeOff w b v) (o : Obj) : CurPost w b n v (w.alloc o) := ⟨curAt_alloc hc o, codeOff_grown hv grown_alloc, grown_alloc⟩
theorem curPost_set {w w1 : World} {b n c o : Nat} {v u : Value} (hv : CodeOff w b v) (h : CurPost w b n v w1) (hc : w.heap.size ≤ c) (hbc : c ≠ b) : CurPost w b n v (w1.setCell ⟨c, o, none⟩ u) := by
  have hg : w.grownBy (w1.setCell ⟨c, o, none⟩ u) (some b) := ⟨h.2.2.os, h.2.2.tape, h.2.2.output, by have := h.2.2.size; simp [World.setCell]; exact this, fun k hk hr => (Below.heap_setCell _ _ _ _ (show k ≠ c by omega)).trans (h.2.2.block k hk hr)⟩
  obtain ⟨k, s, h1, h2⟩ := h.1
  exact ⟨⟨k, s, (Below.heap_setCell _ _ _ _ (show b ≠ c from fun e => hbc e.symm)).trans h1, h2⟩, codeOff_grown hv hg, hg⟩
theorem curPost_mono {w w1 : World} {b n m : Nat} {v : Value} (h : CurPost w b n v w1) (hn : n ≤ m) : CurPost w b m v w1 := ⟨curAt_mono h.1 hn, h.2⟩
theorem own_cur {w w1 : World} {b n : Nat} {v : Value} {B : Nat} {e : TypeId} {sz : Nat} {vl : Value} {m : Nat} {xs : List Value} (h : w.ownsRow B e sz vl m xs) (hB : b < B) (hp : CurPost w b n v w1) : w1.ownsRow B e sz vl m xs :=
  own_block h (fun g hg => hp.2.2.block g (h.lt g hg).2 (by have := (h.lt g hg).1; simp; omega))

theorem cur_grown {w w1 w2 : World} {b n : Nat} {v : Value} {r : Option Nat} (hv : CodeOff w b v) (hb : b < w.heap.size) (h : CurPost w b n v w1) (hg : w1.grownBy w2 r) (hr : ∀ g, r = some g → w.heap.size ≤ g) : CurPost w b n v w2 := by
  have hgg : w.grownBy w2 (some b) := ⟨hg.os.trans h.2.2.os, hg.tape.trans h.2.2.tape, hg.output.trans h.2.2.output, Nat.le_trans h.2.2.size hg.size, fun k hk hne => (hg.block k (Nat.lt_of_lt_of_le hk h.2.2.size) (fun e => by have := hr k e.symm; omega)).trans (h.2.2.block k hk hne)⟩
  obtain ⟨k, s, h1, h2⟩ := h.1
  exact ⟨⟨k, s, (hg.block b (Nat.lt_of_lt_of_le hb h.2.2.size) (fun e => by have := hr b e.symm; omega)).trans h1, h2⟩, codeOff_grown hv hgg, hgg⟩
theorem curPost_later {w w1 w2 : World} {b n : Nat} {v : Value} (hv : CodeOff w b v) (hb : b < w.heap.size) (h : CurPost w b n v w1) (hg : Below w1.heap.size w1 w2) : CurPost w b n v w2 :=
  cur_grown hv hb h (r := none) ⟨hg.os, hg.tape, hg.output, hg.size, fun k hk _ => hg.block k hk⟩ (fun g e => by cases e)
end Go.Proofs.Ytfgkfdkdjegaiaa
