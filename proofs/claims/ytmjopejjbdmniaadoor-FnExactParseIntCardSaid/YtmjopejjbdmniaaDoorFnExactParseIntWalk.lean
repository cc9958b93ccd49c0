/-
  THE WALK of laws.FnExactParseInt: for every string the law returns true and nothing that was in memory turns.
-/
import Derived.Test.YtmjopejjbdmniaaDoorParse
import Derived.Test.YtmjopejjbdmniaaDoorLaid
namespace Go.Proofs.YtmjopejjbdmniaaDoor.fnExactParseInt
open Go.RowKit Go.Sort
open Go.Lib hiding intOf
set_option linter.unusedVariables false

theorem walk (a0 : ByteArray) (W : World) (w0 : a0.size ≤ maxLen) (hL : laidMetH Tryd.prog Rows.fnExactParseIntRow.laid W) (_hsh : W.ShapedOpen Tryd.prog) :
    Calls Tryd.prog 5 #[.string a0] W fun e w' => e = .returned (.bool true) ∧ Below W.heap.size W w' := by
  have htab := powTab (by rfl) hL
  obtain ⟨x0, y0, e0⟩ := errCell (nm := "strconv.ErrSyntax") (g := 0) (by kernel_rfl) (by kernel_rfl) (by rfl) (by rfl) hL
  obtain ⟨x1, y1, e1⟩ := errCell (nm := "strconv.ErrRange") (g := 1) (by kernel_rfl) (by kernel_rfl) (by rfl) (by rfl) hL
  have hs := w0
  unfold maxLen at hs
  clear hL _hsh
  by_cases hbig : 1048576 < a0.size
  · clear htab e0 e1
    go_enter Tryd.func5, Tryd.ntmps5
    go_wp2_with fail
    go_ret
    exact ⟨rfl, Below.refl _ _⟩
  · have H1 := Lib.hid (fun m => implParse_any a0 (W.drewN m) (by omega) (htab.on (below_drewN' W m)) x0 x1 y0 y1 (e0 _ (below_drewN' W m)) (e1 _ (below_drewN' W m)))
    have H2 := Lib.hid (specParse_any a0 W w0)
    clear htab e0 e1
    generalize readV a0.data.toList = r at *
    obtain ⟨z, b⟩ := r
    have hzz : (z != z) = false := by simp
    have hbb : (b != b) = false := by simp
    go_enter Tryd.func5, Tryd.ntmps5
    go_wp2_with (first | (go_at_call 13; refine (H1.out _).mono ?_; rintro e w' ⟨rfl, hb⟩) | (go_at_call 14; refine H2.out.mono ?_; rintro e w' ⟨rfl, m, rfl⟩))
    go_ret
    exact ⟨rfl, (below_drewN' W m).trans (hb.mono (by simp))⟩
end Go.Proofs.YtmjopejjbdmniaaDoor.fnExactParseInt
