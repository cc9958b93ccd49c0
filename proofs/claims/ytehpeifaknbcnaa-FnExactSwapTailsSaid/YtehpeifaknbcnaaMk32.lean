/-
  JOINED TEXTS, each under its own namespace line: BlkP, Cmp.
-/
import Derived.Test.YtehpeifaknbcnaaMk04
import Derived.Test.YtehpeifaknbcnaaMk09
import Derived.Test.YtehpeifaknbcnaaTTGood
import Derived.Test.YtehpeifaknbcnaaMk01
import Derived.Test.YtehpeifaknbcnaaInts
import Derived.Test.YtehpeifaknbcnaaRows
import Derived.LoopTactic
import Derived.WalkLawsBesides
import Derived.BigQuiet
import Derived.Deep.RegionHeld3
import Derived.Deep.QuietTactic
namespace Go.Proofs.Ytehpeifaknbcnaa
set_option linter.unusedVariables false

def DeadRow (m : Nat) (row : List Int) (i : Nat) : Prop := row.length = m ∧ row.getD i 0 = 0 ∧ ∀ d ∈ row, 0 ≤ d ∧ d ≤ 120
def FleetTo (n : NetD) (f : FleetD) (k : Nat) : Prop := ∀ i (h : i < f.dead.length), i < k → DeadRow n.stops.length f.dead[i] i
def FleetGood (n : NetD) (f : FleetD) : Prop := NetGood n ∧ (0 ≤ f.turn ∧ f.turn ≤ 30) ∧ f.dead.length = n.stops.length ∧ FleetTo n f f.dead.length
noncomputable instance (n : NetD) (f : FleetD) : Decidable (FleetGood n f) := Classical.propDecidable _
noncomputable def fleetB (n : NetD) (f : FleetD) : Bool := decide (FleetGood n f)
theorem fleetB_yes {n : NetD} {f : FleetD} (h : FleetGood n f) : fleetB n f = true := decide_eq_true h
theorem fleetB_no {n : NetD} {f : FleetD} (h : ¬ FleetGood n f) : fleetB n f = false := decide_eq_false h
theorem fleetTo_succ {n : NetD} {f : FleetD} {k : Nat} (hk : k < f.dead.length) (h : FleetTo n f k) (h1 : DeadRow n.stops.length f.dead[k] k) : FleetTo n f (k + 1) := by
  intro j hj hjk
  by_cases e : j = k
  · subst e; exact h1
  · exact h j hj (by omega)

def deadAt (f : FleetD) (a b : Int) : Int := (f.dead.getD a.toNat []).getD b.toNat 0
def lineOf (n : NetD) (x : TripD) : LineD := n.lines.getD x.line.toNat ⟨⟨#[]⟩, [], []⟩
def firstS (n : NetD) (x : TripD) : Int := (lineOf n x).stops.getD 0 0
def lastS (n : NetD) (x : TripD) : Int := (lineOf n x).stops.getD ((lineOf n x).stops.length - 1) 0
def deadF (n : NetD) (f : FleetD) (x y : TripD) : Int := deadAt f (lastS n x) (firstS n y)
def follF (n : NetD) (f : FleetD) (x y : TripD) : Bool := decide (arrF n x + f.turn + deadF n f x y ≤ y.start)

theorem deadAt_of {n : NetD} {f : FleetD} (h : FleetGood n f) {a b : Int} (ha : 0 ≤ a ∧ a < (n.stops.length : Int)) (hb : 0 ≤ b ∧ b < (n.stops.length : Int)) :
    ∃ (i k : Nat) (hi : i < f.dead.length) (hk : k < (f.dead[i]'hi).length), a = i ∧ b = k ∧ deadAt f a b = (f.dead[i]'hi)[k]'hk ∧ 0 ≤ deadAt f a b ∧ deadAt f a b ≤ 120 := by
  obtain ⟨i, rfl⟩ := Int.eq_ofNat_of_zero_le ha.1
  obtain ⟨k, rfl⟩ := Int.eq_ofNat_of_zero_le hb.1
  have hi : i < f.dead.length := by have := h.2.2.1; omega
  have hr := h.2.2.2 i hi hi
  have hk : k < (f.dead[i]'hi).length := by have := hr.1; omega
  have e : deadAt f (i : Int) (k : Int) = (f.dead[i]'hi)[k]'hk := by simp [deadAt, hi, hk]
  have hb := hr.2.2 _ (List.getElem_mem hk)
  exact ⟨i, k, hi, hk, rfl, rfl, e, by rw [e]; exact hb.1, by rw [e]; exact hb.2⟩

theorem line_of {n : NetD} (hg : NetGood n) {x : TripD} (hc : 0 ≤ x.line ∧ x.line < (n.lines.length : Int)) : ∃ (i : Nat) (hi : i < n.lines.length), x.line = i ∧ lineOf n x = n.lines[i]'hi ∧ LineOk (n.lines[i]'hi) n.stops.length ∧ arrF n x = x.start + (n.lines[i]'hi).runs.sum := by
  obtain ⟨i, hi⟩ := Int.eq_ofNat_of_zero_le hc.1
  have hlt : i < n.lines.length := by omega
  exact ⟨i, hlt, hi, by simp [lineOf, hi, hlt], (hg.2.2.2.1 _ (List.getElem_mem hlt)).2, by unfold arrF; rw [allRun_at hi hlt]⟩
theorem stops_in {n : NetD} (hg : NetGood n) {x : TripD} (hc : 0 ≤ x.line ∧ x.line < (n.lines.length : Int)) : (0 ≤ firstS n x ∧ firstS n x < (n.stops.length : Int)) ∧ (0 ≤ lastS n x ∧ lastS n x < (n.stops.length : Int)) := by
  obtain ⟨i, hi, hx, hl, hok, _⟩ := line_of hg hc
  unfold firstS lastS
  rw [hl]
  have h2 := hok.1.1
  have m0 := hok.2.1 _ (List.getElem_mem (show 0 < (n.lines[i]'hi).stops.length by omega))
  have m1 := hok.2.1 _ (List.getElem_mem (show (n.lines[i]'hi).stops.length - 1 < (n.lines[i]'hi).stops.length by omega))
  have e0 : (n.lines[i]'hi).stops.getD 0 0 = (n.lines[i]'hi).stops[0]'(by omega) := by rw [List.getD_eq_getElem?_getD, List.getElem?_eq_getElem (by omega)]; rfl
  have e1 : (n.lines[i]'hi).stops.getD ((n.lines[i]'hi).stops.length - 1) 0 = (n.lines[i]'hi).stops[(n.lines[i]'hi).stops.length - 1]'(by omega) := by rw [List.getD_eq_getElem?_getD, List.getElem?_eq_getElem (by omega)]; rfl
  rw [e0, e1]
  exact ⟨m0, m1⟩
theorem deadF_in {n : NetD} {f : FleetD} (h : FleetGood n f) {x y : TripD} (hx : 0 ≤ x.line ∧ x.line < (n.lines.length : Int)) (hy : 0 ≤ y.line ∧ y.line < (n.lines.length : Int)) : 0 ≤ deadF n f x y ∧ deadF n f x y ≤ 120 := by
  obtain ⟨i, k, _, _, _, _, _, h1, h2⟩ := deadAt_of h (stops_in h.1 hx).2 (stops_in h.1 hy).1
  exact ⟨h1, h2⟩
theorem TTGood.lineIn {t : TTD} (h : TTGood t) (k : Nat) (hk : k < t.trips.length) : 0 ≤ (t.trips[k]'hk).line ∧ (t.trips[k]'hk).line < (t.net.lines.length : Int) := (h.step k hk).2.2.1.1
theorem TTGood.asc' {t : TTD} (h : TTGood t) : ∀ i j (hij : i < j) (hj : j < t.trips.length), (t.trips[i]'(by omega)).id < (t.trips[j]'hj).id := h.asc
end Go.Proofs.Ytehpeifaknbcnaa

namespace Go.Proofs.Ytehpeifaknbcnaa
open Go.RowKit
set_option linter.unusedVariables false

def cmpI (a b : Int) : Int := if a < b then -1 else if b < a then 1 else 0
theorem cmpI_zero (a b : Int) : cmpI a b = 0 ↔ a = b := by
  unfold cmpI
  by_cases h1 : a < b
  · rw [if_pos h1]; constructor <;> intro h <;> omega
  · rw [if_neg h1]
    by_cases h2 : b < a
    · rw [if_pos h2]; constructor <;> intro h <;> omega
    · rw [if_neg h2]; constructor <;> intro h <;> omega
theorem isNaN_any (a : Int) (w : World) : Calls Try.prog 122 #[.int .i64 a] w fun e w' => e = .returned (.bool false) ∧ w = w' := by
  go_enter Try.func122, Try.ntmps122
  go_wp2
  go_ret
  exact ⟨by simp, rfl⟩
theorem cmpInt_any (a b : Int) (w : World) : Calls Try.prog 105 #[.int .i64 a, .int .i64 b] w fun e w' => e = .returned (.int .i64 (cmpI a b)) ∧ w = w' := by
  have h : a < b ∨ b < a ∨ a = b := by omega
  unfold cmpI
  rcases h with h | h | h
  · rw [if_pos h]
    go_enter Try.func105, Try.ntmps105
    go_wp2_with (go_at_call 122; refine (isNaN_any _ _).mono ?_; rintro e w' ⟨rfl, rfl⟩)
    go_ret
    exact ⟨rfl, rfl⟩
  · rw [if_neg (by omega), if_pos h]
    go_enter Try.func105, Try.ntmps105
    go_wp2_with (go_at_call 122; refine (isNaN_any _ _).mono ?_; rintro e w' ⟨rfl, rfl⟩)
    go_ret
    exact ⟨rfl, rfl⟩
  · subst h
    rw [if_neg (by omega), if_neg (by omega)]
    go_enter Try.func105, Try.ntmps105
    go_wp2_with (go_at_call 122; refine (isNaN_any _ _).mono ?_; rintro e w' ⟨rfl, rfl⟩)
    go_ret
    exact ⟨rfl, rfl⟩

end Go.Proofs.Ytehpeifaknbcnaa
