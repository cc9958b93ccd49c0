/-
  JOINED TEXTS, each under its own namespace line: BlkP, TripFind, BlksP.
-/
import Derived.Test.YtehpeifaknbcnaaMk06
import Derived.Test.YtehpeifaknbcnaaMk07
import Derived.Test.YtehpeifaknbcnaaTTGood
import Derived.Test.YtehpeifaknbcnaaMk03
import Derived.Test.YtehpeifaknbcnaaInts
import Derived.Test.YtehpeifaknbcnaaRows
import Derived.LoopTactic
import Derived.WalkLawsBesides
import Derived.BigQuiet
import Derived.Deep.RegionHeld3
import Derived.Deep.QuietTactic
namespace Go.Proofs.Ytehpeifaknbcnaa
set_option linter.unusedVariables false

def DeadRow (m : Nat) (row : List Int) (i : Nat) : Prop := row.length = m ∧ row.getD i 0 = 0 ∧ ∀ d ∈ row, 0 ≤ d ∧ d ≤ 120
def FleetTo (n : NetD) (f : FleetD) (k : Nat) : Prop := ∀ i (h : i < f.dead.length), i < k → DeadRow n.stops.length f.dead[i] i
def FleetGood (n : NetD) (f : FleetD) : Prop := NetGood n ∧ (0 ≤ f.turn ∧ f.turn ≤ 30) ∧ f.dead.length = n.stops.length ∧ FleetTo n f f.dead.length
noncomputable instance (n : NetD) (f : FleetD) : Decidable (FleetGood n f) := Classical.propDecidable _
def deadAt (f : FleetD) (a b : Int) : Int := (f.dead.getD a.toNat []).getD b.toNat 0
def lineOf (n : NetD) (x : TripD) : LineD := n.lines.getD x.line.toNat ⟨⟨#[]⟩, [], []⟩
def firstS (n : NetD) (x : TripD) : Int := (lineOf n x).stops.getD 0 0
def lastS (n : NetD) (x : TripD) : Int := (lineOf n x).stops.getD ((lineOf n x).stops.length - 1) 0
def deadF (n : NetD) (f : FleetD) (x y : TripD) : Int := deadAt f (lastS n x) (firstS n y)
def follF (n : NetD) (f : FleetD) (x y : TripD) : Bool := decide (arrF n x + f.turn + deadF n f x y ≤ y.start)

theorem line_of {n : NetD} (hg : NetGood n) {x : TripD} (hc : 0 ≤ x.line ∧ x.line < (n.lines.length : Int)) : ∃ (i : Nat) (hi : i < n.lines.length), x.line = i ∧ lineOf n x = n.lines[i]'hi ∧ LineOk (n.lines[i]'hi) n.stops.length ∧ arrF n x = x.start + (n.lines[i]'hi).runs.sum := by
  obtain ⟨i, hi⟩ := Int.eq_ofNat_of_zero_le hc.1
  have hlt : i < n.lines.length := by omega
  exact ⟨i, hlt, hi, by simp [lineOf, hi, hlt], (hg.2.2.2.1 _ (List.getElem_mem hlt)).2, by unfold arrF; rw [allRun_at hi hlt]⟩
theorem sum_pos : ∀ {l : List Int}, l ≠ [] → (∀ r ∈ l, 1 ≤ r ∧ r ≤ 60) → 1 ≤ l.sum
  | [], h, _ => absurd rfl h
  | [a], _, hb => by have := hb a (by simp); simp; omega
  | a :: b :: l, _, hb => by
    have h1 := hb a (by simp)
    have h2 := sum_pos (l := b :: l) (by simp) (fun r hr => hb r (List.mem_cons_of_mem _ hr))
    simp only [List.sum_cons] at *
    omega
theorem arr_after {n : NetD} (hg : NetGood n) {x : TripD} (hc : 0 ≤ x.line ∧ x.line < (n.lines.length : Int)) : x.start < arrF n x := by
  obtain ⟨i, hi, hx, hl, hok, ha⟩ := line_of hg hc
  have h2 := hok.1
  have := sum_pos (l := (n.lines[i]'hi).runs) (fun e => by rw [e] at h2; simp at h2; omega) hok.2.2.2
  omega

theorem TTGood.lineIn {t : TTD} (h : TTGood t) (k : Nat) (hk : k < t.trips.length) : 0 ≤ (t.trips[k]'hk).line ∧ (t.trips[k]'hk).line < (t.net.lines.length : Int) := (h.step k hk).2.2.1.1
end Go.Proofs.Ytehpeifaknbcnaa

namespace Go.Proofs.Ytehpeifaknbcnaa
open Go.RowKit
set_option linter.unusedVariables false

def placeOf (id : Int) : List TripD → Nat
  | [] => 0
  | x :: xs => if x.id < id then placeOf id xs + 1 else 0
def foundB (id : Int) (xs : List TripD) : Bool := (xs[placeOf id xs]?).any (fun x => x.id == id)
end Go.Proofs.Ytehpeifaknbcnaa

namespace Go.Proofs.Ytehpeifaknbcnaa
set_option linter.unusedVariables false

def pl (t : TTD) (id : Int) : Nat := placeOf id t.trips
def tripOf (t : TTD) (id : Int) : TripD := t.trips.getD (pl t id) ⟨0, 0, 0⟩
def foundT (t : TTD) (id : Int) : Bool := foundB id t.trips

def IdOk (t : TTD) (f : FleetD) (b : List Int) (k : Nat) (h : k < b.length) : Prop := foundT t b[k] = true ∧ ∀ j (hj : j + 1 = k), follF t.net f (tripOf t (b[j]'(by omega))) (tripOf t b[k]) = true
def BlkTo (t : TTD) (f : FleetD) (b : List Int) (k : Nat) : Prop := ∀ j (h : j < b.length), j < k → IdOk t f b j h
def BlkOk (t : TTD) (f : FleetD) (b : List Int) : Prop := b ≠ [] ∧ BlkTo t f b b.length
noncomputable instance (t : TTD) (f : FleetD) (b : List Int) : Decidable (BlkOk t f b) := Classical.propDecidable _
def hd (b : List Int) : Int := b.headD 0

def allT (t : TTD) (bs : List (List Int)) : List Nat := bs.flatten.map (pl t)
def OneOk (t : TTD) (f : FleetD) (bs : List (List Int)) (i : Nat) (h : i < bs.length) : Prop := BlkOk t f bs[i] ∧ ∀ j (hj : j + 1 = i), hd (bs[j]'(by omega)) < hd bs[i]
def BlksTo (t : TTD) (f : FleetD) (bs : List (List Int)) (i : Nat) : Prop := ∀ j (h : j < bs.length), j < i → OneOk t f bs j h
def BlksGood (t : TTD) (f : FleetD) (bs : List (List Int)) : Prop := BlksTo t f bs bs.length ∧ (allT t bs).Nodup ∧ (allT t bs).length = t.trips.length
noncomputable instance (t : TTD) (f : FleetD) (bs : List (List Int)) : Decidable (BlksGood t f bs) := Classical.propDecidable _
end Go.Proofs.Ytehpeifaknbcnaa
