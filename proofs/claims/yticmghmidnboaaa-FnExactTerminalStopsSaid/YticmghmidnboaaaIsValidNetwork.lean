/-
  What spec.IsValidNetwork and impl.IsValidNetwork both return at a network; and what an argument that is a network reads as.
-/
import Derived.Test.YticmghmidnboaaaEqNet
import Derived.Test.YticmghmidnboaaaImplNet
namespace Go.Proofs.Yticmghmidnboaaa
open Go.RowKit
set_option linter.unusedVariables false

set_option maxRecDepth 100000 in
theorem netAt_of {H : Type} {enc : TypeId × Value → H} {W : World} {base base' : Nat} {spare : Nat → Bool} {held : Bool} {v : Value} {d : DataW H} {p : List MemPlace}
    (hv : Value.okWide Try.prog W .any base 60 v) (h : DataW.Trod enc Try.prog W base' spare held 60 v d p) : ∃ n, NetAt W v n ∧ NetFits n :=
  net_trod Try.underlying60 (by kernel_rfl) (by kernel_rfl) Try.underlying26 Try.underlying9 (by kernel_rfl) Try.underlying58 Try.underlying137 (by kernel_rfl) (by kernel_rfl)
    Try.underlying9 Try.underlying43 Try.underlying43 Try.underlying3 (by kernel_rfl) hv h

theorem keepX {W w w' : World} {p0 p1 p2 p3 : Addr} {x0 x1 x2 x3 : Value} (hb : Below w.heap.size w w') (h : w.cell? p0 = some x0 ∧ w.cell? p1 = some x1 ∧ w.cell? p2 = some x2 ∧ w.cell? p3 = some x3 ∧ Below W.heap.size W w) :
    w'.cell? p0 = some x0 ∧ w'.cell? p1 = some x1 ∧ w'.cell? p2 = some x2 ∧ w'.cell? p3 = some x3 ∧ Below W.heap.size W w' := by
  obtain ⟨h0, h1, h2, h3, h4⟩ := h
  exact ⟨bkeep hb h0, bkeep hb h1, bkeep hb h2, bkeep hb h3, h4.trans (hb.mono h4.size)⟩
theorem belX {W w : World} {p0 p1 p2 p3 : Addr} {x0 x1 x2 x3 : Value} (h : w.cell? p0 = some x0 ∧ w.cell? p1 = some x1 ∧ w.cell? p2 = some x2 ∧ w.cell? p3 = some x3 ∧ Below W.heap.size W w) : Below W.heap.size W w := h.2.2.2.2

theorem specIsValidNetwork_any (v : Value) (n : NetD) (w : World) (hr : NetAt w v n) (hf : NetFits n) :
    Calls Try.prog 30 #[v] w fun e w' => e = .returned (.bool (netB n)) ∧ Below w.heap.size w w' := by
  have HG := Lib.hid (fun W (h : Below w.heap.size w W) => l2Good_any v n W (hr.below rfl h) hf)
  obtain ⟨sv, lv, rfl, hss, hll⟩ := hr
  obtain ⟨a, c, rfl, _⟩ := strs_open hss
  obtain ⟨a', c', rfl, _⟩ := lines_open hll
  clear hss hll
  go_enter Try.func30, Try.ntmps30
  go_wp2_with fail
  go_at_call 74
  refine (HG.out _ ((Below.refl _ _).alloc (Nat.le_refl _) _)).mono ?_
  rintro e w1 ⟨rfl, hb1⟩
  go_wp2_with fail
  go_ret
  exact ⟨rfl, ((Below.refl _ _).alloc (Nat.le_refl _) _).trans (hb1.mono (by simp))⟩

theorem bothIsValidNetwork (n : NetD) (hf : NetFits n) (hs : NetSmall n) : ∃ b : Bool, ∀ (v : Value) (w : World), NetAt w v n →
    Calls Try.prog 30 #[v] w (fun e w' => e = .returned (.bool b) ∧ Below w.heap.size w w') ∧ Calls Try.prog 29 #[v] w (fun e w' => e = .returned (.bool b) ∧ Below w.heap.size w w') :=
  ⟨netB n, fun v w h => ⟨specIsValidNetwork_any v n w h hf, implValid_any v n w h hf⟩⟩
end Go.Proofs.Yticmghmidnboaaa
