import Derived.Test.YtehpeifaknbcnaaBlksP
namespace Go.Proofs.Ytehpeifaknbcnaa
set_option linter.unusedVariables false

def AllFnd (t : TTD) (bs : List (List Int)) : Prop := ∀ i (h : i < bs.length), 0 < bs[i].length ∧ ∀ k (hk : k < bs[i].length), foundT t bs[i][k] = true
theorem BlksGood.fnd {t : TTD} {f : FleetD} {bs : List (List Int)} (h : BlksGood t f bs) : AllFnd t bs := fun i hi =>
  ⟨List.length_pos_iff.2 (h.1 i hi hi).1.1, fun k hk => ((h.1 i hi hi).1.2 k hk hk).1⟩
theorem deadTo_succ {t : TTD} {f : FleetD} {b : List Int} {m : Nat} (h : m + 1 < b.length) : deadTo t f b (m + 2) = deadTo t f b (m + 1) + deadF t.net f (tripOf t (b[m]'(by omega))) (tripOf t b[m + 1]) := by
  show deadTo t f b (m + 1) + (if m + 1 = 0 then 0 else deadF t.net f (tripOf t (b.getD (m + 1 - 1) 0)) (tripOf t (b.getD (m + 1) 0))) = _
  rw [if_neg (by omega)]
  simp [h, show m < b.length by omega]
theorem deadTo_one (t : TTD) (f : FleetD) (b : List Int) : deadTo t f b 1 = 0 := rfl
theorem line_in {t : TTD} (hg : TTGood t) {id : Int} (h : foundT t id = true) : 0 ≤ (tripOf t id).line ∧ (tripOf t id).line < (t.net.lines.length : Int) := by rw [tripOf_at h]; exact hg.lineIn _ _
theorem deadTo_in {t : TTD} {f : FleetD} (hg : TTGood t) (hf : FleetGood t.net f) {b : List Int} (h : ∀ k (hk : k < b.length), foundT t b[k] = true) : ∀ k, k ≤ b.length → 0 ≤ deadTo t f b k ∧ deadTo t f b k ≤ 120 * k
  | 0, _ => by simp [deadTo]
  | 1, _ => by rw [deadTo_one]; omega
  | m + 2, hk => by
    rw [deadTo_succ (by omega)]
    have ih := deadTo_in hg hf h (m + 1) (by omega)
    have := deadF_in hf (line_in hg (h m (by omega))) (line_in hg (h (m + 1) (by omega)))
    omega
theorem deadS_succ {t : TTD} {f : FleetD} {bs : List (List Int)} {i : Nat} (h : i < bs.length) : deadS t f bs (i + 1) = deadS t f bs i + deadTo t f bs[i] bs[i].length := by
  show deadS t f bs i + deadB t f (bs.getD i []) = _
  simp [deadB, h]
theorem deadS_in {t : TTD} {f : FleetD} (hg : TTGood t) (hf : FleetGood t.net f) {bs : List (List Int)} (h : AllFnd t bs) : ∀ i, i ≤ bs.length → 0 ≤ deadS t f bs i ∧ deadS t f bs i ≤ 120 * preL bs i
  | 0, _ => by simp [deadS, preL]
  | i + 1, hi => by
    have ih := deadS_in hg hf h i (by omega)
    have h2 := deadTo_in hg hf (h i (by omega)).2 bs[i].length (Nat.le_refl _)
    rw [deadS_succ (by omega), preL_succ (by omega)]
    push_cast
    omega
end Go.Proofs.Ytehpeifaknbcnaa
