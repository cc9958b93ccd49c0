import Derived.Test.YtemejcbilhcebaaMk08
import Derived.Test.YtemejcbilhcebaaMk16
import Derived.Test.YtemejcbilhcebaaRows
import Derived.LoopTactic
import Derived.WalkLawsBesides
import Derived.BigQuiet
import Derived.Deep.RegionHeld3
import Derived.Deep.QuietTactic
import Derived.Laws.Entries
import Derived.Test.YtemejcbilhcebaaSlices
import Derived.RegionTactic
import Derived.BigRegion
import Derived.OrdersHeld
import Derived.Deep.RegionHeld
import Derived.Test.YtemejcbilhcebaaMk07
import Derived.Laws.IdiomStrings
import Derived.Lib.OwnBridge
import Derived.Deep.AppendLies
namespace Go.Proofs.Ytemejcbilhcebaa
open Go.RowKit
set_option linter.unusedVariables false

def bk (xs : List Int) (k : Nat) : List Int := (xs.drop (xs.length - k)).reverse
theorem bk_zero (xs : List Int) : bk xs 0 = [] := by simp [bk]
theorem bk_all (xs : List Int) : bk xs xs.length = xs.reverse := by simp [bk]
theorem bk_succ (xs : List Int) (k j : Nat) (hj : j + k + 1 = xs.length) : bk xs (k + 1) = bk xs k ++ [xs[j]'(by omega)] := by
  unfold bk
  rw [show xs.length - (k + 1) = j by omega, show xs.length - k = j + 1 by omega, List.drop_eq_getElem_cons (by omega)]
  simp

set_option maxRecDepth 100000 in
set_option maxHeartbeats 4000000 in
theorem l2Back_any (v : Value) (xs : List Int) (w : World) (hr : RowAt w v (ints xs)) (h2 : xs.length ≤ 1048576) :
    Calls Try.prog 51 #[v] w fun e w' => ∃ v', e = .returned v' ∧ w'.ownsRow w.heap.size 3 1 v' xs.length (ints xs.reverse) ∧ Below w.heap.size w w' := by
  obtain ⟨a, c, rfl, hc, hm, HC⟩ := ints_open hr
  clear hr
  obtain ⟨i0, hi0, hz0, hz1, hz2⟩ := info_parts infoInt
  have HRow := Lib.hid (row_new w w.heap.size (Nat.le_refl _))
  have hlw : IntKind.i64.wrap ((xs.length : Int) - 1) = (xs.length : Int) - 1 := IntWalk.i64_in _ (by omega)
  go_enter Try.func51, Try.ntmps51
  go_wp2_with fail
  go_loopw [3, 4] (fun o q wr => ∃ k : Nat, k ≤ xs.length ∧ q = .int .i64 ((xs.length : Int) - 1 - (k : Int)) ∧ Hid (wr.ownsRow w.heap.size 3 1 o k (ints (bk xs k))) ∧ Hid (Below w.heap.size w wr))
    (fun _ q _ => (RowKit.intOf q + 1).toNat)
  case atStart => exact ⟨0, Nat.zero_le _, by simp, by have := HRow.out; rw [bk_zero]; exact this, (Below.refl _ _).alloc (Nat.le_refl _) _⟩
  case round =>
    obtain ⟨k, hk, rfl, HOwn, HB⟩ := hrel
    by_cases hlt : k < xs.length
    · obtain ⟨j, hj⟩ : ∃ j, j + k + 1 = xs.length := ⟨xs.length - k - 1, by omega⟩
      have ej : (xs.length : Int) - 1 - (k : Int) = (j : Int) := by omega
      rw [ej]
      obtain ⟨b, off, rfl, hb, x0⟩ := HC.out j (by omega)
      have X0 := bkeep HB.out x0
      have HSucc := Lib.hid (bk_succ xs k j hj)
      have hj1 : (0 : Int) ≤ (j : Int) := by omega
      have hj2 : (j : Int) < (xs.length : Int) := by omega
      have hjw : IntKind.i64.wrap ((j : Int) - 1) = (j : Int) - 1 := IntWalk.i64_in _ (by omega)
      generalize xs[j]'(by omega) = y at *
      obtain ⟨oa, oc, rfl⟩ := own_shape HOwn.out
      have hkn : k ≤ 1048576 := by omega
      have HJ : Hid (j + k + 1 = xs.length) := hj
      clear hj ej
      go_wp2_with (at_builtin; refine wpList_append_lies _ rfl _ _ 34 rfl w.heap.size 3 i0 (.int .i64 0) 1 8 Try.underlying34 hi0 hz0 hz1 hz2 rfl (by decide) _ _ _ rfl (HOwn.out.alloc _) ⟨wr.heap.size, 0, none⟩ 1 1 [.int .i64 y] rfl rfl ?c1 ?c2 (by omega) ?c3 ?c4 ?c5 (wr.heap.size + 1) ?c6 ?_)
      case c1 => exact one_newN _ _ _ rfl
      case c2 => intro u hu; simp at hu; subst hu; rfl
      case c3 => unfold maxLen; omega
      case c4 => omega
      case c5 => have := HB.out.size; simp; omega
      case c6 => simp
      intro g3 c3 w3 hown3 hg3 hat3 hlt3
      have hg3' : (wr.alloc (.cells #[.int .i64 y] 3)).grownBy w3 (Value.slice oa k oc).ownBlock := hg3
      have HB3 : Hid (Below w.heap.size w w3) := (HB.out.alloc HB.out.size (.cells #[.int .i64 y] 3)).grown hg3' (by have := HB.out.size; simp; omega) (fun g hg => (HOwn.out.lt g hg).1)
      have HO3 : Hid (w3.ownsRow w.heap.size 3 1 (.slice (some ⟨g3, 0, none⟩) (k + 1) c3) (k + 1) (ints (bk xs (k + 1)))) := by
        show World.ownsRow _ _ _ _ _ _ _
        rw [HSucc.out]; simpa [ints] using hown3
      clear hown3 hg3 hg3' hat3 hlt3
      go_wp2_with fail
      go_roundw
      case rel => exact ⟨k + 1, by have := HJ.out; omega, by have := HJ.out; first | (congr 1; done) | (congr 1; push_cast; omega), HO3, HB3⟩
      case measure => have := HJ.out; simp [RowKit.intOf] <;> omega
    · obtain rfl : k = xs.length := by omega
      have ej : ¬ (0 : Int) ≤ (xs.length : Int) - 1 - (xs.length : Int) := by omega
      have HX := Lib.hid HOwn.out
      rw [bk_all] at HX
      go_wp2_with fail
      go_ret
      exact ⟨_, rfl, HX.out, HB.out⟩
end Go.Proofs.Ytemejcbilhcebaa
