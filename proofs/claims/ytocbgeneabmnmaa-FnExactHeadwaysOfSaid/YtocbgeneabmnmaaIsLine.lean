/-
  CONTRACT: impl.isLineOf tells whether a network is valid and has a line.
-/
import Derived.Test.YtocbgeneabmnmaaNetBase
namespace Go.Proofs.Ytocbgeneabmnmaa
open Go.RowKit
set_option linter.unusedVariables false

theorem isLineOf_any (v : Value) (n : NetD) (line : Int) (w : World) (hr : NetAt w v n) (hf : NetFits n) :
    Calls Try.prog 98 #[v, .int .i64 line] w fun e w' => (((NetGood n ∧ 0 ≤ line ∧ line < n.lines.length) ∧ e = .returned (.bool true)) ∨ (¬ (NetGood n ∧ 0 ≤ line ∧ line < n.lines.length) ∧ e = .returned (.bool false))) ∧ Below w.heap.size w w' := by
  have HG := Lib.hid (fun W (h : Below w.heap.size w W) => implValid_any v n W (hr.below rfl h) hf)
  obtain ⟨a, c, a', c', rfl, hss, hll⟩ := net_open hr
  clear hss hll hr hf
  by_cases hg : NetGood n
  · rw [netB_yes hg] at HG
    have HGo := Lib.hid hg
    clear hg
    have hways : (line < 0) ∨ (0 ≤ line ∧ (n.lines.length : Int) ≤ line) ∨ (0 ≤ line ∧ line < (n.lines.length : Int)) := by omega
    rcases hways with h0 | ⟨h0, h1⟩ | ⟨h0, h1⟩
    all_goals
      go_enter Try.func98, Try.ntmps98
      go_wp2_with fail
      go_at_call 63
      refine (HG.out _ ((Below.refl _ _).alloc (Nat.le_refl _) _)).mono ?_
      rintro e w1 ⟨rfl, hb1⟩
      have HB1 : Hid (Below w.heap.size w w1) := ((Below.refl _ _).alloc (Nat.le_refl _) _).trans (hb1.mono (by simp))
      have p1 : w1.cell? ⟨w.heap.size, 1, none⟩ = some (.slice a' n.lines.length c') := bkeep hb1 (by go_simp)
      clear hb1
      go_wp2_with fail
      go_ret
    · exact ⟨.inr ⟨fun h => by omega, rfl⟩, HB1.out⟩
    · exact ⟨.inr ⟨fun h => by omega, ret_bool (decide_eq_false (by omega))⟩, HB1.out⟩
    · exact ⟨.inl ⟨⟨HGo.out, h0, h1⟩, rfl⟩, HB1.out⟩
  · rw [netB_no hg] at HG
    have HGo := Lib.hid hg
    clear hg
    go_enter Try.func98, Try.ntmps98
    go_wp2_with fail
    go_at_call 63
    refine (HG.out _ ((Below.refl _ _).alloc (Nat.le_refl _) _)).mono ?_
    rintro e w1 ⟨rfl, hb1⟩
    go_wp2_with fail
    go_ret
    exact ⟨.inr ⟨fun h => HGo.out h.1, rfl⟩, ((Below.refl _ _).alloc (Nat.le_refl _) _).trans (hb1.mono (by simp))⟩

end Go.Proofs.Ytocbgeneabmnmaa
