/-
  THE WALK of laws.FnExactVerifyChecksum: for every string the law returns true and nothing that was in memory turns.
-/
import Derived.Test.YtmjopejjbdmniaaDoorVerify
import Derived.Test.YtmjopejjbdmniaaDoorLaid
import Derived.Shelf.Vars
namespace Go.Proofs.YtmjopejjbdmniaaDoor.fnExactVerifyChecksum
open Go.RowKit Go.Sort
open Go.Lib hiding intOf
set_option linter.unusedVariables false

theorem walk (a0 : ByteArray) (W : World) (w0 : a0.size ≤ maxLen) (hL : laidMetH Tryd.prog Rows.fnExactVerifyChecksumRow.laid W) (hsh : W.ShapedOpen Tryd.prog) :
    Calls Tryd.prog 7 #[.string a0] W fun e w' => e = .returned (.bool true) ∧ Below W.heap.size W w' := by
  have htab := powTab (by rfl) hL
  obtain ⟨mx, hmx⟩ := cell_of_shapedOpen_int (g := 2) hsh (of_decide_eq_true (by kernel_rfl)) (t := 3) (zero := #[.int .i64 0]) (by kernel_rfl) rfl (by kernel_rfl) (by kernel_rfl) Tryd.underlying3
  have hlt := World.block_lt_of_cell? W _ hmx
  have hs := w0
  unfold maxLen at hs
  clear hL hsh
  by_cases hbig : 1048576 < a0.size
  · clear htab
    go_enter Tryd.func7, Tryd.ntmps7
    go_wp2_with fail
    go_ret
    exact ⟨rfl, Below.refl _ _⟩
  · have hi := fun w1 (hb : Below W.heap.size W w1) => implVerify_any a0 w1 (by omega) mx (by rw [hb.cell hlt]; exact hmx) (fun w' h' => htab.on hb w' (h'.mono hb.size))
    have hp := specVerify_any a0 W (by omega)
    clear htab hmx hlt
    by_cases h : Opens a0.data.toList
    · have H1 := Lib.hid (fun w1 hb => (hi w1 hb).1 h)
      have H2 := Lib.hid (hp.1 h)
      clear hi hp h
      generalize (openL a0.data.toList).toArray = x at *
      go_enter Tryd.func7, Tryd.ntmps7
      go_wp2_with (first | (go_at_call 20; refine H2.out.mono ?_; rintro e w1 ⟨rfl, hb⟩) | (go_at_call 18; refine (H1.out _ hb).mono ?_; rintro e w2 ⟨rfl, hb2⟩))
      go_ret
      exact ⟨by simp, hb.trans (hb2.mono hb.size)⟩
    · have H1 := Lib.hid (fun w1 hb => (hi w1 hb).2 h)
      have H2 := Lib.hid (hp.2 h)
      clear hi hp h
      go_enter Tryd.func7, Tryd.ntmps7
      go_wp2_with (first | (go_at_call 20; refine H2.out.mono ?_; rintro e w1 ⟨rfl, hb⟩) | (go_at_call 18; refine (H1.out _ hb).mono ?_; rintro e w2 ⟨rfl, hb2⟩))
      go_ret
      exact ⟨rfl, hb.trans (hb2.mono hb.size)⟩
end Go.Proofs.YtmjopejjbdmniaaDoor.fnExactVerifyChecksum
