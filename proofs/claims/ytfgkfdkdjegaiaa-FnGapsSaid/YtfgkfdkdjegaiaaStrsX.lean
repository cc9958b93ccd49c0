/-
  THE LAWS' HELPERS on slices of strings, in the one form that the laws' walks take (eqStringS, markStringS, heldStringS).
-/
import Derived.Test.YtfgkfdkdjegaiaaMarkStr
namespace Go.Proofs.Ytfgkfdkdjegaiaa
open Go.RowKit
set_option linter.unusedVariables false

def StrsSmall (xs : List ByteArray) : Prop := xs.length ≤ 1048576
/-- a row of strings of the call's own, in a block from l to u -/
def StrsIn (l u : Nat) (w : World) (v : Value) (xs : List ByteArray) : Prop := w.ownsRow l 9 1 v xs.length (strs xs) ∧ ∀ g, v.ownBlock = some g → g < u
theorem StrsIn.at {l u : Nat} {w : World} {v : Value} {xs : List ByteArray} (h : StrsIn l u w v xs) : RowAt w v (strs xs) := rowAt_own h.1
theorem StrsIn.lo {l u : Nat} {w : World} {v : Value} {xs : List ByteArray} (h : StrsIn l u w v xs) (g : Nat) (hg : v.ownBlock = some g) : l ≤ g := (h.1.lt g hg).1
theorem StrsIn.later {l u : Nat} {w w' : World} {v : Value} {xs : List ByteArray} (h : StrsIn l u w v xs) (hb : Below w.heap.size w w') : StrsIn l u w' v xs := ⟨own_later h.1 hb, h.2⟩
theorem StrsIn.out {l u lo hi : Nat} {w w' : World} {v : Value} {xs : List ByteArray} (h : StrsIn l u w v xs) (ho : Out lo hi w w') (hs : u ≤ lo ∨ hi ≤ l) : StrsIn l u w' v xs :=
  ⟨own_out h.1 ho (fun g hg => by have := h.2 g hg; have := h.lo g hg; omega), h.2⟩
theorem StrsIn.mk {l : Nat} {w : World} {v : Value} {xs : List ByteArray} (h : w.ownsRow l 9 1 v xs.length (strs xs)) : StrsIn l w.heap.size w v xs := ⟨h, fun g hg => (h.lt g hg).2⟩
theorem StrsIn.base {l l' u u' : Nat} {w : World} {v : Value} {xs : List ByteArray} (h : StrsIn l u w v xs) (hl : l' ≤ l) (hu : u ≤ u') : StrsIn l' u' w v xs := ⟨own_base h.1 hl, fun g hg => Nat.lt_of_lt_of_le (h.2 g hg) hu⟩
theorem StringS_open {w : World} {v : Value} {xs : List ByteArray} (h : RowAt w v (strs xs)) : ∃ a c, v = .slice a xs.length c := by
  obtain ⟨a, c, hv, _⟩ := h
  rw [strs_len] at hv
  exact ⟨a, c, hv⟩

theorem eqStringS_x (v v' : Value) (xs : List ByteArray) (w : World) (hr : RowAt w v (strs xs)) (hr' : RowAt w v' (strs xs)) (hs : StrsSmall xs) :
    Calls Try.prog 89 #[v, v'] w fun e w' => e = .returned (.bool true) ∧ Below w.heap.size w w' :=
  (eqStringS_same v v' xs w hr hr' hs).mono fun e w' ⟨he, m, hm⟩ => ⟨he, Dr.below ⟨m, hm⟩⟩

/-- strings that hold marks from k on -/
def StrsMk (k : Int) (w : World) (v : Value) (xs : List ByteArray) : Prop := RowAt w v (strs (marksL k.toNat xs.length))
theorem StrsMk.later {k : Int} {w w' : World} {v : Value} {xs : List ByteArray} (h : StrsMk k w v xs) (hb : Below w.heap.size w w') : StrsMk k w' v xs := RowAt.below h rfl hb

theorem markStringS_x (v : Value) (xs : List ByteArray) (k : Int) (l u : Nat) (w : World) (hr : StrsIn l u w v xs) (hl : l ≤ w.heap.size) (hs : StrsSmall xs) (hk0 : 0 < k) (hk : k ≤ 4194304) :
    Calls Try.prog 92 #[v, .int .i64 k] w fun e w' => e = .returned (.int .i64 (k + (xs.length : Int))) ∧ StrsMk k w' v xs ∧ w.grownBy w' v.ownBlock ∧ Out l u w w' := by
  obtain ⟨n, rfl⟩ := Int.eq_ofNat_of_zero_le (Int.le_of_lt hk0)
  exact (markStringS_own v xs n l w hr.1 hs (by omega) (by omega)).mono fun e w' ⟨he, ho, hg⟩ => ⟨by rw [he]; simp, by rw [StrsMk, Int.toNat_natCast]; exact rowAt_own (n := xs.length) ho, hg, Out.of_grown hg hl (fun g hg' => ⟨hr.lo g hg', hr.2 g hg'⟩)⟩

end Go.Proofs.Ytfgkfdkdjegaiaa
