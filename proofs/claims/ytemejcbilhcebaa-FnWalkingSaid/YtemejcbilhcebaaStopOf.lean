import Derived.Test.YtemejcbilhcebaaMk08
import Derived.Test.YtemejcbilhcebaaImplNet
namespace Go.Proofs.Ytemejcbilhcebaa
open Go.RowKit
set_option linter.unusedVariables false

def StopIn (n : NetD) (stop : Int) : Prop := NetGood n ∧ 0 ≤ stop ∧ stop < n.stops.length
instance (n : NetD) (stop : Int) : Decidable (StopIn n stop) := by unfold StopIn; infer_instance

theorem isStopOf_any (v : Value) (n : NetD) (stop : Int) (w : World) (hr : NetAt w v n) (hf : NetFits n) :
    Calls Try.prog 60 #[v, .int .i64 stop] w fun e w' => ((StopIn n stop ∧ e = .returned (.bool true)) ∨ (¬ StopIn n stop ∧ e = .returned (.bool false))) ∧ Below w.heap.size w w' := by
  have HG := Lib.hid (fun W (h : Below w.heap.size w W) => implValid_any v n W (hr.below rfl h) hf)
  obtain ⟨a, c, a', c', rfl, hss, hll⟩ := net_open hr
  clear hss hll hr hf
  by_cases hg : NetGood n
  · rw [netB_yes hg] at HG
    have HGo := Lib.hid hg
    clear hg
    have hways : (stop < 0) ∨ (0 ≤ stop ∧ (n.stops.length : Int) ≤ stop) ∨ (0 ≤ stop ∧ stop < (n.stops.length : Int)) := by omega
    rcases hways with h0 | ⟨h0, h1⟩ | ⟨h0, h1⟩
    all_goals
      go_enter Try.func60, Try.ntmps60
      go_wp2_with fail
      go_at_call 11
      refine (HG.out _ ((Below.refl _ _).alloc (Nat.le_refl _) _)).mono ?_
      rintro e w1 ⟨rfl, hb1⟩
      have HB1 : Hid (Below w.heap.size w w1) := ((Below.refl _ _).alloc (Nat.le_refl _) _).trans (hb1.mono (by simp))
      have p0 : w1.cell? ⟨w.heap.size, 0, none⟩ = some (.slice a n.stops.length c) := bkeep hb1 (by go_simp)
      clear hb1
      go_wp2_with fail
      go_ret
    · exact ⟨.inr ⟨fun h => by have := h.2.1; omega, rfl⟩, HB1.out⟩
    · exact ⟨.inr ⟨fun h => by have := h.2.2; omega, ret_bool (decide_eq_false (by omega))⟩, HB1.out⟩
    · exact ⟨.inl ⟨⟨HGo.out, h0, h1⟩, rfl⟩, HB1.out⟩
  · rw [netB_no hg] at HG
    have HGo := Lib.hid hg
    clear hg
    go_enter Try.func60, Try.ntmps60
    go_wp2_with fail
    go_at_call 11
    refine (HG.out _ ((Below.refl _ _).alloc (Nat.le_refl _) _)).mono ?_
    rintro e w1 ⟨rfl, hb1⟩
    go_wp2_with fail
    go_ret
    exact ⟨.inr ⟨fun h => HGo.out h.1, rfl⟩, ((Below.refl _ _).alloc (Nat.le_refl _) _).trans (hb1.mono (by simp))⟩
end Go.Proofs.Ytemejcbilhcebaa
