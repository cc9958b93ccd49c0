/-
  THE WALK of laws.FnExactFormatInt: for every int the law returns true and nothing that was in memory turns.
-/
import Derived.Test.YtmjopejjbdmniaaDoorFmt
import Derived.Test.YtmjopejjbdmniaaDoorLaid
namespace Go.Proofs.YtmjopejjbdmniaaDoor.fnExactFormatInt
open Go.RowKit Go.Sort
open Go.Lib hiding intOf
set_option linter.unusedVariables false

theorem walk (a0 : Int) (W : World) (w0 : (Lit.int .i64 a0).wf = true) (hL : laidMetH Tryd.prog Rows.fnExactFormatIntRow.laid W) (_hsh : W.ShapedOpen Tryd.prog) :
    Calls Tryd.prog 4 #[.int .i64 a0] W fun e w' => e = .returned (.bool true) ∧ Below W.heap.size W w' := by
  have htab := powTab (by rfl) hL
  clear hL _hsh w0
  by_cases h : a0 < -999999 ∨ 999999 < a0
  · have H1 := Lib.hid (implFormat_no a0 W h)
    have H2 := Lib.hid (specFormat_no a0 W h)
    clear h htab
    go_enter Tryd.func4, Tryd.ntmps4
    go_wp2_with (first | (go_at_call 10; refine H1.out.mono ?_; rintro e w' ⟨rfl, rfl⟩) | (go_at_call 11; refine H2.out.mono ?_; rintro e w' ⟨rfl, rfl⟩))
    go_ret
    exact ⟨rfl, Below.refl _ _⟩
  · have H1 := Lib.hid (fun m => implFormat_yes a0 (W.drewN m) (by omega) (by omega) (htab _ (below_drewN' W m)))
    have H2 := Lib.hid (specFormat_yes a0 W (by omega) (by omega))
    clear h htab
    generalize (itoa a0).toArray = x at *
    go_enter Tryd.func4, Tryd.ntmps4
    go_wp2_with (first | (go_at_call 10; refine (H1.out _).mono ?_; rintro e w' ⟨rfl, hb⟩) | (go_at_call 11; refine H2.out.mono ?_; rintro e w' ⟨rfl, m, rfl⟩))
    go_ret
    exact ⟨by simp, (below_drewN' W m).trans (hb.mono (by simp))⟩
end Go.Proofs.YtmjopejjbdmniaaDoor.fnExactFormatInt
