/-
  JOINED TEXTS, each under its own namespace line: JrnP, SpanP, Trip, TTP, Own, LawNet, In.
-/
import Derived.Test.YtemejcbilhcebaaMk07
import Derived.WalkKit
import Derived.Test.YtemejcbilhcebaaSlices
import Derived.Test.YtemejcbilhcebaaMk04
import Derived.Test.YtemejcbilhcebaaMk06
import Derived.OwnWalk
import Derived.Laws.NewBlocks
import Derived.Test.YtemejcbilhcebaaRows
import Derived.LoopTactic
import Derived.WalkLawsBesides
import Derived.Lib.Hide
import Derived.BigQuiet
import Derived.Laws.Entries
import Derived.Deep.RegionHeld3
import Derived.Deep.QuietTactic
namespace Go.Proofs.Ytemejcbilhcebaa.Jrn
set_option linter.unusedVariables false
set_option linter.unusedSectionVars false

structure RideD where
  id : Int
  stops : List Int
  times : List Int
def legR (r : RideD) (i j : Nat) : LegD := ⟨r.id, r.stops.getD i 0, r.stops.getD j 0, r.times.getD i 0, r.times.getD j 0⟩

def legsFrom (r : RideD) (i m : Nat) : List LegD := (List.range m).map fun d => legR r i (i + 1 + d)

def legsTo (r : RideD) (m : Nat) : List LegD := (List.range m).flatMap fun i => legsFrom r i (r.stops.length - (i + 1))
def rideLegs (r : RideD) : List LegD := legsTo r r.stops.length
def allLegs (rs : List RideD) : List LegD := rs.flatMap rideLegs
def endT (t : Int) : List LegD → Int
  | [] => t
  | l :: c => endT l.arr c
def rideLt (a b : LegD) : Prop := a.trip < b.trip ∨ (a.trip = b.trip ∧ (a.frm < b.frm ∨ (a.frm = b.frm ∧ a.dst < b.dst)))
def rideEq (a b : LegD) : Prop := a.trip = b.trip ∧ a.frm = b.frm ∧ a.dst = b.dst
def lexLt : List LegD → List LegD → Prop
  | [], [] => False
  | [], _ :: _ => True
  | _ :: _, [] => False
  | a :: x, b :: y => rideLt a b ∨ (rideEq a b ∧ lexLt x y)

def JLt (a b : List LegD) : Prop := endT 0 a < endT 0 b ∨ (endT 0 a = endT 0 b ∧ (a.length < b.length ∨ (a.length = b.length ∧ lexLt a b)))
open Classical in
noncomputable def pickJ : Option (List LegD) → Option (List LegD) → Option (List LegD)
  | acc, none => acc
  | none, some j => some j
  | some f, some j => if JLt j f then some j else some f
def candJ (too t : Int) (g : LegD → Option (List LegD)) (l : LegD) : Option (List LegD) :=
  if l.dep < t then none else if l.dst = too then some [l] else (g l).map (l :: ·)
noncomputable def pickAll (f : LegD → Option (List LegD)) (acc : Option (List LegD)) (xs : List LegD) : Option (List LegD) := xs.foldl (fun a l => pickJ a (f l)) acc
noncomputable def bestF (L : List LegD) (ch too : Int) : Nat → Int → Int → Option (List LegD)
  | 0, _, _ => none
  | n + 1, s, t => pickAll (candJ too t (fun l => bestF L ch too n l.dst (l.arr + ch))) none (L.filter (fun l => l.frm = s))
section
variable {L : List LegD} (hL : ∀ a ∈ L, ∀ b ∈ L, rideEq a b → a = b)
include hL
omit hL in
omit hL in
omit hL in
end

section
variable {N : Nat} {rs : List RideD} {ch frm at_ : Int}

end
section
variable {N : Nat} {rs : List RideD} {ch frm at_ : Int}
def endO : Option (List LegD) → Int
  | none => -1
  | some c => endT 0 c
noncomputable def arrF (rs : List RideD) (ch frm at_ too : Int) : Int := if frm = too then at_ else endO (bestF (allLegs rs) ch too 4 frm at_)
end
section
variable {N : Nat} {rs : List RideD} {ch frm at_ : Int}

end

section
variable {L : List LegD} {ch too arrive : Int}

end
section
variable {N : Nat} {rs : List RideD} {ch frm at_ : Int}
end
section
variable {N : Nat} {rs : List RideD} {ch frm at_ : Int}

end
end Go.Proofs.Ytemejcbilhcebaa.Jrn

namespace Go.Proofs.Ytemejcbilhcebaa
set_option linter.unusedVariables false

abbrev SpanD := Int × Int
def TimeOk (t : Int) : Prop := 0 ≤ t ∧ t ≤ 1799
instance (t : Int) : Decidable (TimeOk t) := by unfold TimeOk; infer_instance
def SpanOk (s : SpanD) : Prop := TimeOk s.1 ∧ TimeOk s.2 ∧ s.1 ≤ s.2
instance (s : SpanD) : Decidable (SpanOk s) := by unfold SpanOk; infer_instance
def SpansOk (l : List SpanD) : Prop := l.length ≤ 20 ∧ ∀ s ∈ l, SpanOk s
instance (l : List SpanD) : Decidable (SpansOk l) := by unfold SpansOk; infer_instance
def bestF (c : Nat → Nat) : Nat → Nat
  | 0 => 0
  | n + 1 => if c (bestF c n) < c (n + 1) then n + 1 else bestF c n
end Go.Proofs.Ytemejcbilhcebaa

namespace Go.Proofs.Ytemejcbilhcebaa
open Go.RowKit Go.ChangeShapes Go.WideShapes Go.ChangeAt Go.Deep Go.Joins
set_option linter.unusedVariables false

structure TripD where
  id : Int
  line : Int
  start : Int
deriving DecidableEq
section
variable {H : Type} {enc : TypeId × Value → H} {P : Program} {w : World} {base : Nat} {spare : Nat → Bool} {held : Bool}

end
end Go.Proofs.Ytemejcbilhcebaa

namespace Go.Proofs.Ytemejcbilhcebaa
set_option linter.unusedVariables false

structure TTD where
  net : NetD
  trips : List TripD

def allRun (n : NetD) (x : TripD) : Int := ((n.lines[x.line.toNat]?).map (fun l => l.runs.sum)).getD 0
theorem allRun_at {n : NetD} {x : TripD} {i : Nat} (hx : x.line = i) (h : i < n.lines.length) : allRun n x = (n.lines[i]'h).runs.sum := by
  unfold allRun; rw [hx]; simp [h]
def arrF (n : NetD) (x : TripD) : Int := x.start + allRun n x
def CanRun (n : NetD) (x : TripD) : Prop := (0 ≤ x.line ∧ x.line < n.lines.length) ∧ TimeOk x.start ∧ TimeOk (arrF n x)
def TripStep (t : TTD) (k : Nat) (h : k < t.trips.length) : Prop :=
  1 ≤ t.trips[k].id ∧ t.trips[k].id ≤ 999 ∧ CanRun t.net t.trips[k] ∧ ∀ j (hj : j + 1 = k), (t.trips[j]'(by omega)).id < t.trips[k].id
def TripsTo (t : TTD) (k : Nat) : Prop := ∀ j (h : j < t.trips.length), j < k → TripStep t j h
def TTGood (t : TTD) : Prop := NetGood t.net ∧ t.trips.length ≤ 12 ∧ TripsTo t t.trips.length
noncomputable instance (t : TTD) : Decidable (TTGood t) := Classical.propDecidable _
theorem ids_lt {t : TTD} (h : TripsTo t t.trips.length) : ∀ (d i : Nat) (h2 : i + d + 1 < t.trips.length), (t.trips[i]'(by omega)).id < (t.trips[i + d + 1]'h2).id
  | 0, i, h2 => (h (i + 1) h2 h2).2.2.2 i rfl
  | d + 1, i, h2 => by
    have h3 := ids_lt h d i (by omega)
    have h4 := (h (i + d + 1 + 1) (by omega) (by omega)).2.2.2 (i + d + 1) rfl
    have e : i + (d + 1) + 1 = i + d + 1 + 1 := by omega
    simp only [e]
    omega
theorem TTGood.asc {t : TTD} (h : TTGood t) (i j : Nat) (hij : i < j) (hj : j < t.trips.length) : (t.trips[i]'(by omega)).id < (t.trips[j]'hj).id := by
  have := ids_lt h.2.2 (j - i - 1) i (by omega)
  have e : i + (j - i - 1) + 1 = j := by omega
  simp only [e] at this
  exact this
theorem TTGood.step {t : TTD} (h : TTGood t) (k : Nat) (hk : k < t.trips.length) : TripStep t k hk := h.2.2 k hk hk
theorem TTGood.line {t : TTD} (h : TTGood t) (k : Nat) (hk : k < t.trips.length) : ∃ i : Nat, (t.trips[k]'hk).line = i ∧ ∃ hi : i < t.net.lines.length, arrF t.net (t.trips[k]'hk) = (t.trips[k]'hk).start + (t.net.lines[i]'hi).runs.sum := by
  have hs := (h.step k hk).2.2.1.1
  obtain ⟨i, hi⟩ := Int.eq_ofNat_of_zero_le hs.1
  have hlt : i < t.net.lines.length := by omega
  exact ⟨i, hi, hlt, by unfold arrF; rw [allRun_at hi hlt]⟩

end Go.Proofs.Ytemejcbilhcebaa

namespace Go.Proofs.Ytemejcbilhcebaa
open Go.RowKit
set_option linter.unusedVariables false

theorem LineAt.toV {w : World} {b o : Nat} {l : LineD} (h : LineAt w b o l) : ∃ sv rv, w.cell? ⟨b, o, none⟩ = some (.string l.name) ∧ w.cell? ⟨b, o + 1, none⟩ = some sv ∧ w.cell? ⟨b, o + 2, none⟩ = some rv ∧ LineV w (.agg #[.string l.name, sv, rv]) l := by
  obtain ⟨sv, rv, h0, h1, h2, h3, h4⟩ := h
  exact ⟨sv, rv, h0, h1, h2, sv, rv, rfl, h3, h4⟩
end Go.Proofs.Ytemejcbilhcebaa

namespace Go.Proofs.Ytemejcbilhcebaa
open Go.RowKit
set_option linter.unusedVariables false

def LineSmall (l : LineD) : Prop := l.name.size ≤ 1048576 ∧ l.stops.length ≤ 1048576 ∧ l.runs.length ≤ 1048576
def lineSz (l : LineD) : Nat := l.name.size + l.stops.length + l.runs.length
def lineTot (ls : List LineD) : Nat := (ls.map lineSz).sum
def NetSmall (n : NetD) : Prop := n.stops.length ≤ 1048576 ∧ n.lines.length ≤ 1048576 ∧ (∀ l ∈ n.lines, LineSmall l) ∧ n.stops.length + n.lines.length + lineTot n.lines ≤ 1048576

end Go.Proofs.Ytemejcbilhcebaa

namespace Go.Proofs.Ytemejcbilhcebaa
open Go.RowKit
set_option linter.unusedVariables false

theorem l1In_yes (a lo hi : Int) (w : World) (h : lo ≤ a ∧ a ≤ hi) : Calls Try.prog 49 #[.int .i64 a, .int .i64 lo, .int .i64 hi] w fun e w' => e = .returned (.bool true) ∧ w = w' := by
  obtain ⟨h1, h2⟩ := h
  go_enter Try.func49, Try.ntmps49
  go_wp2
  go_ret
  exact ⟨rfl, rfl⟩
theorem l1In_no (a lo hi : Int) (w : World) (h : ¬ (lo ≤ a ∧ a ≤ hi)) : Calls Try.prog 49 #[.int .i64 a, .int .i64 lo, .int .i64 hi] w fun e w' => e = .returned (.bool false) ∧ w = w' := by
  by_cases h1 : lo ≤ a
  · have h2 : ¬ a ≤ hi := fun g => h ⟨h1, g⟩
    clear h
    go_enter Try.func49, Try.ntmps49
    go_wp2
    go_ret
    exact ⟨rfl, rfl⟩
  · clear h
    go_enter Try.func49, Try.ntmps49
    go_wp2
    go_ret
    exact ⟨rfl, rfl⟩
end Go.Proofs.Ytemejcbilhcebaa
