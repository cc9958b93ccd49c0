/-
  JOINED TEXTS, each under its own namespace line: Slices, Plain1.
-/
import Derived.WalkKit
import Derived.SliceStrings
import Derived.Laws.OwnMore
import Derived.Below
import Derived.Deep.QuietTactic
import Derived.ProofKit
import Derived.DataReads
namespace Go.Proofs.Ytehpeifaknbcnaa
open Go.RowKit Go.ChangeShapes Go.WideShapes Go.ChangeAt

def RowAt (w : World) (v : Value) (xs : List Value) : Prop :=
  ∃ a c, v = .slice a xs.length c ∧ xs.length ≤ c ∧ c ≤ maxLen ∧ ∀ k u, xs[k]? = some u → ∃ b off, a = some ⟨b, off, none⟩ ∧ b < w.heap.size ∧ w.cell? ⟨b, off + k, none⟩ = some u

theorem RowAt.below {w w' : World} {v : Value} {xs : List Value} (h : RowAt w v xs) {B : Nat} (hB : B = w.heap.size) (hb : Below B w w') : RowAt w' v xs := by
  subst hB
  obtain ⟨a, c, hv, h1, h2, h3⟩ := h
  refine ⟨a, c, hv, h1, h2, fun k u hu => ?_⟩
  obtain ⟨b, off, ha, hlt, hc⟩ := h3 k u hu
  exact ⟨b, off, ha, Nat.lt_of_lt_of_le hlt hb.size, by rw [hb.cell (p := ⟨b, off + k, none⟩) hlt]; exact hc⟩

theorem RowAt.drewN {w : World} {v : Value} {xs : List Value} (h : RowAt w v xs) (m : Nat) : RowAt (w.drewN m) v xs := h

theorem addr_add (g o j : Nat) : (⟨g, o, none⟩ : Addr).add j = ⟨g, o + j, none⟩ := by
  by_cases h0 : j = 0
  · subst h0; simp [Addr.add]
  · simp [Addr.add, h0]

theorem rowAt_own {w : World} {B : Nat} {e : TypeId} {v : Value} {n : Nat} {xs : List Value} (h : w.ownsRow B e 1 v n xs) : RowAt w v xs := by
  have hc := fun g hg => h.cells (g := g) hg
  have hl := h.lt
  obtain ⟨hn, h2⟩ := h
  rcases h2 with ⟨hv, h0⟩ | ⟨g, cap, cur, hv, hg, hh, h1, h3, h4, h5⟩
  · subst h0
    have : xs = [] := List.eq_nil_of_length_eq_zero (by omega)
    subst this
    exact ⟨none, 0, hv, Nat.le_refl _, by decide, fun k u hu => by simp at hu⟩
  · have hn' : xs.length = n := by omega
    refine ⟨_, cap, by rw [hn']; exact hv, by omega, h3, fun k u hu => ⟨g, 0, rfl, (hl g (by rw [hv]; rfl)).2, ?_⟩⟩
    have := hc g (by rw [hv]; rfl) k u hu
    rw [addr_add] at this
    exact this

def Dr (w wr : World) : Prop := ∃ m, wr = w.drewN m
theorem Dr.refl (w : World) : Dr w w := ⟨0, rfl⟩
theorem Dr.step {w wr : World} (h : Dr w wr) (n : Nat) : Dr w (wr.drewN n) := by obtain ⟨m, rfl⟩ := h; exact ⟨m + n, by rw [World.drewN_drewN]⟩
theorem Dr.cell {w wr : World} (h : Dr w wr) (a : Addr) : wr.cell? a = w.cell? a := by obtain ⟨m, rfl⟩ := h; rfl
theorem Dr.out {w wr : World} (h : Dr w wr) : ∃ m, wr = w.drewN m := h
theorem quietL {P : Program} {f : FuncId} {args : Array Value} {w : World} {n : Nat} {v : Value} (h : Calls P f args (w.drewN n) fun e w' => e = .returned v ∧ w.drewN n = w') :
    Calls P f args (w.drewN n) fun e w'' => e = .returned v ∧ ∃ m, w'' = w.drewN m := h.mono fun _ _ ⟨he, hm⟩ => ⟨he, n, hm.symm⟩
theorem Dr.below {w wr : World} (h : Dr w wr) : Below w.heap.size w wr := by
  obtain ⟨m, rfl⟩ := h
  exact ⟨rfl, rfl, rfl, Nat.le_refl _, fun _ _ => rfl⟩
end Go.Proofs.Ytehpeifaknbcnaa

namespace Go.Proofs.Ytehpeifaknbcnaa
open Go.RowKit

theorem ret_int {k : IntKind} {a b : Int} (h : a = b) : Ending.returned (.int k a) = .returned (.int k b) := by rw [h]
theorem ret_bool {a b : Bool} (h : a = b) : Ending.returned (.bool a) = .returned (.bool b) := by rw [h]
end Go.Proofs.Ytehpeifaknbcnaa
