/-
  What spec.IsValidWalks and impl.IsValidWalks both return.
-/
import Derived.Test.YtmbpkdplgfgheaaL7Good
namespace Go.Proofs.Ytmbpkdplgfgheaa
open Go.RowKit

theorem bothIsValidWalks (n : NetD) (hf : NetFits n) (hs : NetSmall n) (ws : List WlkD) (hwf : WalksFit ws) (hws : WalksSmall ws) : ∃ b : Bool, ∀ (v v' : Value) (w : World), NetAt w v n → WalksAt w v' ws →
    Calls Try.prog 64 #[v, v'] w (fun e w' => e = .returned (.bool b) ∧ Below w.heap.size w w') ∧ Calls Try.prog 33 #[v, v'] w (fun e w' => e = .returned (.bool b) ∧ Below w.heap.size w w') :=
  ⟨walksB n ws, fun v v' w h h' => ⟨specIsValidWalks_any v v' n ws w h h' hf hwf, implWalks_any v v' n ws w h h' hf⟩⟩
end Go.Proofs.Ytmbpkdplgfgheaa
