/-
  What spec.IsValidNetwork and impl.IsValidNetwork both return at a network; and what an argument that is a network reads as.
-/
import Derived.Test.YtniankcjgcackaaMb
namespace Go.Proofs.Ytniankcjgcackaa
open Go.RowKit
set_option linter.unusedVariables false

theorem specIsValidNetwork_any (v : Value) (n : NetD) (w : World) (hr : NetAt w v n) (hf : NetFits n) :
    Calls Try.prog 72 #[v] w fun e w' => e = .returned (.bool (netB n)) ∧ Below w.heap.size w w' := by
  have HG := Lib.hid (fun W (h : Below w.heap.size w W) => l2Good_any v n W (hr.below rfl h) hf)
  obtain ⟨sv, lv, rfl, hss, hll⟩ := hr
  obtain ⟨a, c, rfl, _⟩ := strs_open hss
  obtain ⟨a', c', rfl, _⟩ := lines_open hll
  clear hss hll
  go_enter Try.func72, Try.ntmps72
  go_wp2_with fail
  go_at_call 155
  refine (HG.out _ ((Below.refl _ _).alloc (Nat.le_refl _) _)).mono ?_
  rintro e w1 ⟨rfl, hb1⟩
  go_wp2_with fail
  go_ret
  exact ⟨rfl, ((Below.refl _ _).alloc (Nat.le_refl _) _).trans (hb1.mono (by simp))⟩

theorem bothIsValidNetwork (n : NetD) (hf : NetFits n) (hs : NetSmall n) : ∃ b : Bool, ∀ (v : Value) (w : World), NetAt w v n →
    Calls Try.prog 72 #[v] w (fun e w' => e = .returned (.bool b) ∧ Below w.heap.size w w') ∧ Calls Try.prog 71 #[v] w (fun e w' => e = .returned (.bool b) ∧ Below w.heap.size w w') :=
  ⟨netB n, fun v w h => ⟨specIsValidNetwork_any v n w h hf, implValid_any v n w h hf⟩⟩
end Go.Proofs.Ytniankcjgcackaa
