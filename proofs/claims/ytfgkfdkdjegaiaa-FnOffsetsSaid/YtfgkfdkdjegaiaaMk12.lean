/-
  JOINED TEXTS, each under its own namespace line: Contains, ServedS.
-/
import Derived.Test.YtfgkfdkdjegaiaaRows
import Derived.Test.YtfgkfdkdjegaiaaMk02
import Derived.Test.YtfgkfdkdjegaiaaMk03
import Derived.LoopTactic
import Derived.WalkLawsBesides
import Derived.Test.YtfgkfdkdjegaiaaMk11
import Derived.Test.YtfgkfdkdjegaiaaMk04
import Derived.BigQuiet
import Derived.Deep.RegionHeld3
import Derived.Deep.QuietTactic
import Derived.Laws.Entries
import Derived.Test.YtfgkfdkdjegaiaaMk05
import Derived.Test.YtfgkfdkdjegaiaaMk01
import Derived.RegionTactic
import Derived.BigRegion
import Derived.WalkKit
import Derived.Maps.Own
import Derived.Maps.OwnSet
import Derived.Maps.Views
import Derived.Test.YtfgkfdkdjegaiaaMk08
import Derived.Maps.AppendAt
import Derived.Laws.IdiomStrings
import Derived.Deep.Upon
import Derived.OrdersHeld
import Derived.Deep.RegionHeld
namespace Go.Proofs.Ytfgkfdkdjegaiaa
open Go.RowKit
set_option linter.unusedVariables false

theorem indexInt_any (v : Value) (xs : List Int) (x : Int) (w : World) (hr : RowAt w v (ints xs)) :
    Calls Try.prog 98 #[v, .int .i64 x] w fun e w' => e = .returned (.int .i64 (fstIdx x xs)) ∧ w = w' := by
  obtain ⟨a, c, rfl, hc, hm, HC⟩ := ints_open hr
  clear hr
  go_enter Try.func98, Try.ntmps98
  go_wp2
  go_loop [8] (fun i => ∃ k : Nat, k ≤ xs.length ∧ i = .int .i64 k ∧ Hid (x ∉ xs.take k)) (fun i => xs.length - (RowKit.intOf i).toNat)
  case atStart => exact ⟨0, Nat.zero_le _, rfl, by show _ ∉ _; simp⟩
  case round =>
    obtain ⟨k, hk, rfl, HN⟩ := hrel
    by_cases hlt : k < xs.length
    · obtain ⟨b, off, rfl, _, hcx⟩ := HC.out k hlt
      by_cases he : xs[k] = x
      · have HF := Lib.hid (fstIdx_hit k hlt he HN.out)
        have hb : (x == xs[k]) = true := by simp [he]
        clear he
        generalize xs[k] = y at *
        go_wp2
        go_ret
        exact ⟨ret_int HF.out.symm, rfl⟩
      · have HN2 := Lib.hid (not_take_succ hlt HN.out he)
        have hb : (x == xs[k]) = false := by simp; exact fun e => he e.symm
        clear he
        generalize xs[k] = y at *
        go_wp2
        go_round
        case rel => exact ⟨k + 1, by omega, by go_num, HN2⟩
        case measure => simp [RowKit.intOf]; omega
    · have HF := Lib.hid (fstIdx_none (not_take_all (by omega) HN.out))
      go_wp2
      go_ret
      exact ⟨ret_int HF.out.symm, rfl⟩
end Go.Proofs.Ytfgkfdkdjegaiaa

namespace Go.Proofs.Ytfgkfdkdjegaiaa
open Go.RowKit Go.Maps Jrn
set_option linter.unusedVariables false
set_option linter.unusedSimpArgs false

def Z3 (w : World) (B : Nat) : Prop := w.cell? ⟨B, 0, none⟩ = some (.string ⟨#[]⟩) ∧ w.cell? ⟨B, 1, none⟩ = some (.slice none 0 0) ∧ w.cell? ⟨B, 2, none⟩ = some (.slice none 0 0) ∧ B < w.heap.size ∧ ∀ o, w.frozen? ⟨B, o, none⟩ = false
theorem Z3.later {w w' : World} {B : Nat} (h : Z3 w B) (hb : Below w.heap.size w w') : Z3 w' B := by
  obtain ⟨h0, h1, h2, hl, hf⟩ := h
  exact ⟨bkeep hb h0, bkeep hb h1, bkeep hb h2, Nat.lt_of_lt_of_le hl hb.size, fun o => (World.frozen?_of_block (a := ⟨B, o, none⟩) (hb.block B hl)).trans (hf o)⟩
theorem Z3.new (w : World) : Z3 (w.alloc (.cells #[.string ⟨#[]⟩, .slice none 0 0, .slice none 0 0] 98)) w.heap.size :=
  ⟨by go_simp, by go_simp, by go_simp, by simp, fun o => by unfold World.frozen?; rw [(MapKept.heap_alloc w _).1]; simp⟩

end Go.Proofs.Ytfgkfdkdjegaiaa
