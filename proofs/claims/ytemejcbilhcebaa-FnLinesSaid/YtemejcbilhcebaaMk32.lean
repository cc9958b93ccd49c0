/-
  JOINED TEXTS, each under its own namespace line: IsValidNetwork, StopOf, StopNumber, IsLine.
-/
import Derived.Test.YtemejcbilhcebaaMk10
import Derived.Test.YtemejcbilhcebaaImplNet
import Derived.Test.YtemejcbilhcebaaMk20
namespace Go.Proofs.Ytemejcbilhcebaa
open Go.RowKit
set_option linter.unusedVariables false

theorem specIsValidNetwork_any (v : Value) (n : NetD) (w : World) (hr : NetAt w v n) (hf : NetFits n) :
    Calls Try.prog 12 #[v] w fun e w' => e = .returned (.bool (netB n)) ∧ Below w.heap.size w w' := by
  have HG := Lib.hid (fun W (h : Below w.heap.size w W) => l2Good_any v n W (hr.below rfl h) hf)
  obtain ⟨sv, lv, rfl, hss, hll⟩ := hr
  obtain ⟨a, c, rfl, _⟩ := strs_open hss
  obtain ⟨a', c', rfl, _⟩ := lines_open hll
  clear hss hll
  go_enter Try.func12, Try.ntmps12
  go_wp2_with fail
  go_at_call 48
  refine (HG.out _ ((Below.refl _ _).alloc (Nat.le_refl _) _)).mono ?_
  rintro e w1 ⟨rfl, hb1⟩
  go_wp2_with fail
  go_ret
  exact ⟨rfl, ((Below.refl _ _).alloc (Nat.le_refl _) _).trans (hb1.mono (by simp))⟩

end Go.Proofs.Ytemejcbilhcebaa

namespace Go.Proofs.Ytemejcbilhcebaa
open Go.RowKit
set_option linter.unusedVariables false

def StopIn (n : NetD) (stop : Int) : Prop := NetGood n ∧ 0 ≤ stop ∧ stop < n.stops.length
instance (n : NetD) (stop : Int) : Decidable (StopIn n stop) := by unfold StopIn; infer_instance

theorem isStopOf_any (v : Value) (n : NetD) (stop : Int) (w : World) (hr : NetAt w v n) (hf : NetFits n) :
    Calls Try.prog 60 #[v, .int .i64 stop] w fun e w' => ((StopIn n stop ∧ e = .returned (.bool true)) ∨ (¬ StopIn n stop ∧ e = .returned (.bool false))) ∧ Below w.heap.size w w' := by
  have HG := Lib.hid (fun W (h : Below w.heap.size w W) => implValid_any v n W (hr.below rfl h) hf)
  obtain ⟨a, c, a', c', rfl, hss, hll⟩ := net_open hr
  clear hss hll hr hf
  by_cases hg : NetGood n
  · rw [netB_yes hg] at HG
    have HGo := Lib.hid hg
    clear hg
    have hways : (stop < 0) ∨ (0 ≤ stop ∧ (n.stops.length : Int) ≤ stop) ∨ (0 ≤ stop ∧ stop < (n.stops.length : Int)) := by omega
    rcases hways with h0 | ⟨h0, h1⟩ | ⟨h0, h1⟩
    all_goals
      go_enter Try.func60, Try.ntmps60
      go_wp2_with fail
      go_at_call 11
      refine (HG.out _ ((Below.refl _ _).alloc (Nat.le_refl _) _)).mono ?_
      rintro e w1 ⟨rfl, hb1⟩
      have HB1 : Hid (Below w.heap.size w w1) := ((Below.refl _ _).alloc (Nat.le_refl _) _).trans (hb1.mono (by simp))
      have p0 : w1.cell? ⟨w.heap.size, 0, none⟩ = some (.slice a n.stops.length c) := bkeep hb1 (by go_simp)
      clear hb1
      go_wp2_with fail
      go_ret
    · exact ⟨.inr ⟨fun h => by have := h.2.1; omega, rfl⟩, HB1.out⟩
    · exact ⟨.inr ⟨fun h => by have := h.2.2; omega, ret_bool (decide_eq_false (by omega))⟩, HB1.out⟩
    · exact ⟨.inl ⟨⟨HGo.out, h0, h1⟩, rfl⟩, HB1.out⟩
  · rw [netB_no hg] at HG
    have HGo := Lib.hid hg
    clear hg
    go_enter Try.func60, Try.ntmps60
    go_wp2_with fail
    go_at_call 11
    refine (HG.out _ ((Below.refl _ _).alloc (Nat.le_refl _) _)).mono ?_
    rintro e w1 ⟨rfl, hb1⟩
    go_wp2_with fail
    go_ret
    exact ⟨.inr ⟨fun h => HGo.out h.1, rfl⟩, ((Below.refl _ _).alloc (Nat.le_refl _) _).trans (hb1.mono (by simp))⟩
end Go.Proofs.Ytemejcbilhcebaa

namespace Go.Proofs.Ytemejcbilhcebaa
open Go.RowKit
set_option linter.unusedVariables false

theorem foundAt_yes (r : Int) (w : World) (h : 0 ≤ r) : Calls Try.prog 58 #[.int .i64 r] w fun e w' => e = .returned (.tuple #[.int .i64 r, .bool true]) ∧ w = w' := by
  go_enter Try.func58, Try.ntmps58
  go_wp2
  go_ret2
  exact ⟨rfl, rfl⟩
theorem foundAt_no (r : Int) (w : World) (h : r < 0) : Calls Try.prog 58 #[.int .i64 r] w fun e w' => e = .returned (.tuple #[.int .i64 0, .bool false]) ∧ w = w' := by
  go_enter Try.func58, Try.ntmps58
  go_wp2
  go_ret2
  exact ⟨rfl, rfl⟩

def FoundR (ok : Prop) (r : Int) (e : Ending) : Prop := (ok ∧ 0 ≤ r ∧ e = .returned (.tuple #[.int .i64 r, .bool true])) ∨ (¬ (ok ∧ 0 ≤ r) ∧ e = .returned (.tuple #[.int .i64 0, .bool false]))
end Go.Proofs.Ytemejcbilhcebaa

namespace Go.Proofs.Ytemejcbilhcebaa
open Go.RowKit
set_option linter.unusedVariables false

theorem isLineOf_any (v : Value) (n : NetD) (line : Int) (w : World) (hr : NetAt w v n) (hf : NetFits n) :
    Calls Try.prog 44 #[v, .int .i64 line] w fun e w' => (((NetGood n ∧ 0 ≤ line ∧ line < n.lines.length) ∧ e = .returned (.bool true)) ∨ (¬ (NetGood n ∧ 0 ≤ line ∧ line < n.lines.length) ∧ e = .returned (.bool false))) ∧ Below w.heap.size w w' := by
  have HG := Lib.hid (fun W (h : Below w.heap.size w W) => implValid_any v n W (hr.below rfl h) hf)
  obtain ⟨a, c, a', c', rfl, hss, hll⟩ := net_open hr
  clear hss hll hr hf
  by_cases hg : NetGood n
  · rw [netB_yes hg] at HG
    have HGo := Lib.hid hg
    clear hg
    have hways : (line < 0) ∨ (0 ≤ line ∧ (n.lines.length : Int) ≤ line) ∨ (0 ≤ line ∧ line < (n.lines.length : Int)) := by omega
    rcases hways with h0 | ⟨h0, h1⟩ | ⟨h0, h1⟩
    all_goals
      go_enter Try.func44, Try.ntmps44
      go_wp2_with fail
      go_at_call 11
      refine (HG.out _ ((Below.refl _ _).alloc (Nat.le_refl _) _)).mono ?_
      rintro e w1 ⟨rfl, hb1⟩
      have HB1 : Hid (Below w.heap.size w w1) := ((Below.refl _ _).alloc (Nat.le_refl _) _).trans (hb1.mono (by simp))
      have p1 : w1.cell? ⟨w.heap.size, 1, none⟩ = some (.slice a' n.lines.length c') := bkeep hb1 (by go_simp)
      clear hb1
      go_wp2_with fail
      go_ret
    · exact ⟨.inr ⟨fun h => by omega, rfl⟩, HB1.out⟩
    · exact ⟨.inr ⟨fun h => by omega, ret_bool (decide_eq_false (by omega))⟩, HB1.out⟩
    · exact ⟨.inl ⟨⟨HGo.out, h0, h1⟩, rfl⟩, HB1.out⟩
  · rw [netB_no hg] at HG
    have HGo := Lib.hid hg
    clear hg
    go_enter Try.func44, Try.ntmps44
    go_wp2_with fail
    go_at_call 11
    refine (HG.out _ ((Below.refl _ _).alloc (Nat.le_refl _) _)).mono ?_
    rintro e w1 ⟨rfl, hb1⟩
    go_wp2_with fail
    go_ret
    exact ⟨.inr ⟨fun h => HGo.out h.1, rfl⟩, ((Below.refl _ _).alloc (Nat.le_refl _) _).trans (hb1.mono (by simp))⟩

end Go.Proofs.Ytemejcbilhcebaa
