/-
  THE WALK of laws.FnExactAppendChecksum: for every string the law returns true and nothing that was in memory turns.
-/
import Derived.Test.YtmjopejjbdmniaaDoorAppend
import Derived.Test.YtmjopejjbdmniaaDoorLaid
namespace Go.Proofs.YtmjopejjbdmniaaDoor.fnExactAppendChecksum
open Go.RowKit Go.Sort
open Go.Lib hiding intOf
set_option linter.unusedVariables false

theorem walk (a0 : ByteArray) (W : World) (w0 : a0.size ≤ maxLen) (hL : laidMetH Tryd.prog Rows.fnExactAppendChecksumRow.laid W) (_hsh : W.ShapedOpen Tryd.prog) :
    Calls Tryd.prog 6 #[.string a0] W fun e w' => e = .returned (.bool true) ∧ Below W.heap.size W w' := by
  have htab := powTab (by rfl) hL
  have hs := w0
  unfold maxLen at hs
  clear hL _hsh
  by_cases hbig : 1048576 < a0.size
  · clear htab
    go_enter Tryd.func6, Tryd.ntmps6
    go_wp2_with fail
    go_ret
    exact ⟨rfl, Below.refl _ _⟩
  · by_cases h : Seals a0.data.toList
    · have H1 := Lib.hid (fun m => implAppend_yes a0 (W.drewN m) h (htab _ (below_drewN' W m)))
      have H2 := Lib.hid (specAppend_yes a0 W h)
      clear h htab
      generalize (sealL a0.data.toList).toArray = x at *
      go_enter Tryd.func6, Tryd.ntmps6
      go_wp2_with (first | (go_at_call 16; refine (H1.out _).mono ?_; rintro e w' ⟨rfl, hb⟩) | (go_at_call 17; refine H2.out.mono ?_; rintro e w' ⟨rfl, m, rfl⟩))
      go_ret
      exact ⟨by simp, (below_drewN' W m).trans (hb.mono (by simp))⟩
    · have H1 := Lib.hid (fun m => implAppend_no a0 (W.drewN m) w0 h (htab _ (below_drewN' W m)))
      have H2 := Lib.hid (specAppend_no a0 W (by omega) h)
      clear h htab
      go_enter Tryd.func6, Tryd.ntmps6
      go_wp2_with (first | (go_at_call 16; refine (H1.out _).mono ?_; rintro e w' ⟨rfl, hb⟩) | (go_at_call 17; refine H2.out.mono ?_; rintro e w' ⟨rfl, m, rfl⟩))
      go_ret
      exact ⟨rfl, (below_drewN' W m).trans (hb.mono (by simp))⟩
end Go.Proofs.YtmjopejjbdmniaaDoor.fnExactAppendChecksum
