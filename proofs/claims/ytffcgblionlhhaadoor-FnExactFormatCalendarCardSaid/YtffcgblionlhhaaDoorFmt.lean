/-
  CONTRACTS: impl.FormatInt and spec.FormatInt return the decimal text for -999999..999999, else the empty string and false; what was in memory stays as it was.
-/
import Derived.Test.YtffcgblionlhhaaDoorNum
import Derived.Test.YtffcgblionlhhaaDoorStr
import Derived.Test.YtffcgblionlhhaaDoorShelf
namespace Go.Proofs.YtffcgblionlhhaaDoor
open Go.RowKit Go.Sort
open Go.Lib

theorem below_grow (w : World) (k : Nat) (os : Array Obj) : Below w.heap.size w (grow (w.drewN k) os) :=
  ⟨rfl, rfl, rfl, by simp [grow, World.drewN], fun i hi => by show (w.heap ++ os)[i]? = _; rw [Array.getElem?_append_left hi]⟩

theorem itoa_any (n : Int) (w : World) (h0 : -9223372036854775808 ≤ n) (h1 : n ≤ 9223372036854775807) (htab : TabIs Tryd.prog w "internal/strconv.uint64pow10" .u64 pow10Tab) :
    Calls Tryd.prog 44 #[.int .i64 n] w fun e w' => e = .returned (.string ⟨(itoa n).toArray⟩) ∧ Below w.heap.size w w' :=
  (Tryd.strconv_Itoa n h0 h1 w htab).mono fun _ _ ⟨he, k, os, hw⟩ => ⟨he, by rw [hw]; exact below_grow w k os⟩

theorem implFormat_no (n : Int) (w : World) (h : n < -999999 ∨ 999999 < n) :
    Calls Tryd.prog 153 #[.int .i64 n] w fun e w' => e = .returned (.tuple #[.string ⟨#[]⟩, .bool false]) ∧ w = w' := by
  by_cases h1 : n < -999999
  · go_enter Tryd.func153, Tryd.ntmps153
    go_wp2_with fail
    go_ret2
    exact ⟨rfl, rfl⟩
  · have h2 : 999999 < n := by omega
    go_enter Tryd.func153, Tryd.ntmps153
    go_wp2_with fail
    go_ret2
    exact ⟨rfl, rfl⟩

theorem implFormat_yes (n : Int) (w : World) (h1 : -999999 ≤ n) (h2 : n ≤ 999999) (htab : TabIs Tryd.prog w "internal/strconv.uint64pow10" .u64 pow10Tab) :
    Calls Tryd.prog 153 #[.int .i64 n] w fun e w' => e = .returned (.tuple #[.string ⟨(itoa n).toArray⟩, .bool true]) ∧ Below w.heap.size w w' := by
  have H := Lib.hid (itoa_any n w (by omega) (by omega) htab)
  clear htab
  go_enter Tryd.func153, Tryd.ntmps153
  go_wp2_with (go_at_call 44; refine H.out.mono ?_; rintro e w' ⟨rfl, hb⟩)
  go_ret2
  exact ⟨rfl, hb⟩

end Go.Proofs.YtffcgblionlhhaaDoor
