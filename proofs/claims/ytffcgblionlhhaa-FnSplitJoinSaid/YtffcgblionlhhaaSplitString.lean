/-
  CONTRACTS: spec.SplitString and impl.SplitString, and what both return.
-/
import Derived.Test.YtffcgblionlhhaaPieces
import Derived.Test.YtffcgblionlhhaaMb
namespace Go.Proofs.Ytffcgblionlhhaa
open Go.RowKit Go.Shelf
set_option linter.unusedVariables false

def SpOk (s sep : ByteArray) : Prop := s.size ≤ 4000 ∧ sep.size = 1
instance (s sep : ByteArray) : Decidable (SpOk s sep) := by unfold SpOk; infer_instance
def spB (s sep : ByteArray) : Bool := decide (SpOk s sep)
def spAns (s sep : ByteArray) : List ByteArray := if h : SpOk s sep then splitB (sep[0]'(by have := h.2; omega)) s else []
theorem sp_no {s sep : ByteArray} (h : ¬ SpOk s sep) : spAns s sep = [] ∧ spB s sep = false := ⟨dif_neg h, decide_eq_false h⟩
theorem sp_yes {s sep : ByteArray} (h : SpOk s sep) (h0 : 0 < sep.size) : spAns s sep = splitB sep[0] s ∧ spB s sep = true := ⟨dif_pos h, decide_eq_true h⟩
theorem spAns_len (s sep : ByteArray) : (spAns s sep).length ≤ 1048576 := by
  unfold spAns
  split
  · rename_i h
    have := splitB_len (sep[0]'(by have := h.2; omega)) s
    have := h.1; omega
  · simp

/-- a list of strings in new memory, and a bool -/
def StrsR (w : World) (res : List ByteArray) (b : Bool) (e : Ending) (w' : World) : Prop := ∃ z, e = .returned (.tuple #[z, .bool b]) ∧ StrsIn w.heap.size w'.heap.size w' z res ∧ Below w.heap.size w w'
theorem strs_lit (w : World) : (w.alloc (.cells #[] 9)).ownsRow w.heap.size 9 1 (.slice (some ⟨w.heap.size, 0, none⟩) 0 0) 0 (strs []) := by
  have h := World.ownsRow_lit (base := w.heap.size) (e := 9) (size := 1) w #[] 0 (by simp) (by decide) (by simp)
  simpa [strs] using h

theorem implSplitString_any (s sep : ByteArray) (w : World) (hs : s.size ≤ maxLen) (hp : sep.size ≤ maxLen) :
    Calls Try.prog 18 #[.string s, .string sep] w (StrsR w (spAns s sep) (spB s sep)) := by
  unfold maxLen at hs hp
  by_cases h : SpOk s sep
  · have h0 : 0 < sep.size := by have := h.2; omega
    have HE := Lib.hid (sp_yes h h0)
    have hsz := h.1
    have HC := Lib.hid (fun bs bc W g1 g2 => collectPieces_any bs bc s (sep[0]'h0) W g1 g2 hsz)
    have h1 : (s.size : Int) ≤ 4000 := by have := h.1; omega
    have h2 : ((sep.size : Int) != 1) = false := by simp; have := h.2; omega
    clear h
    go_enter Try.func18, Try.ntmps18
    go_wp2_with fail
    go_at_call 98
    refine (piecesOf_any s sep[0] _).mono ?_
    rintro e w1 ⟨rfl, hb1, hz1, c1, c2⟩
    go_wp2_with fail
    go_at_call 97
    refine (HC.out _ _ _ c1 c2).mono ?_
    rintro e w2 ⟨v, rfl, ho, hb2⟩
    have HO := Lib.hid ho
    have HB : Hid (Below w.heap.size w w2) := hb1.trans (hb2.mono (by omega))
    clear ho hb1 hb2 c1 c2
    go_wp2_with fail
    go_ret2
    rw [HE.out.1, HE.out.2]
    exact ⟨v, rfl, (StrsIn.mk HO.out).base (by omega) (Nat.le_refl _), HB.out⟩
  · have HE := Lib.hid (sp_no h)
    have h' : 4000 < s.size ∨ (s.size ≤ 4000 ∧ sep.size ≠ 1) := by unfold SpOk at h; omega
    clear h
    rcases h' with h4 | ⟨h4, h⟩
    · have h4' : (4000 : Int) < (s.size : Int) := by omega
      go_enter Try.func18, Try.ntmps18
      go_wp2_with fail
      go_ret2
      rw [HE.out.1, HE.out.2]
      exact ⟨_, rfl, StrsIn.mk (strs_lit w), (Below.refl _ _).alloc (Nat.le_refl _) _⟩
    · have h2 : ((sep.size : Int) != 1) = true := by simp; omega
      have h4' : (s.size : Int) ≤ 4000 := by omega
      clear h
      go_enter Try.func18, Try.ntmps18
      go_wp2_with fail
      go_ret2
      rw [HE.out.1, HE.out.2]
      exact ⟨_, rfl, StrsIn.mk (strs_lit w), (Below.refl _ _).alloc (Nat.le_refl _) _⟩

end Go.Proofs.Ytffcgblionlhhaa
