/-
  JOINED TEXTS, each under its own namespace line: FillS, IsValidTimetable, FillLeg, ContLeg, JourneyS, IsValidJourney, JourneyTimes, CmpJ, KeyB, JrnEnv, L5Times, OwnI.
-/
import Derived.Test.YtfgkfdkdjegaiaaMk22
import Derived.Test.YtfgkfdkdjegaiaaLegX
import Derived.Test.YtfgkfdkdjegaiaaMk21
import Derived.OrdersHeld
import Derived.Deep.RegionHeld
import Derived.Test.YtfgkfdkdjegaiaaMk12
import Derived.Test.YtfgkfdkdjegaiaaMk04
import Derived.BigQuiet
import Derived.Deep.QuietTactic
import Derived.Laws.StructEq
import Derived.Test.YtfgkfdkdjegaiaaMk15
import Derived.Test.YtfgkfdkdjegaiaaMk05
import Derived.Test.YtfgkfdkdjegaiaaJrnP
import Derived.Test.YtfgkfdkdjegaiaaRows
import Derived.DeepKeys4
import Derived.Laws.IdiomStrings
import Derived.Test.YtfgkfdkdjegaiaaMk10
import Derived.Test.YtfgkfdkdjegaiaaMk03
namespace Go.Proofs.Ytfgkfdkdjegaiaa
open Go.RowKit Jrn
set_option linter.unusedVariables false
set_option linter.unusedSimpArgs false

/-- a leg's box of zeros -/
def Z5 (w : World) (B : Nat) : Prop := w.cell? ⟨B, 0, none⟩ = some (.int .i64 0) ∧ w.cell? ⟨B, 1, none⟩ = some (.int .i64 0) ∧ w.cell? ⟨B, 2, none⟩ = some (.int .i64 0) ∧ w.cell? ⟨B, 3, none⟩ = some (.int .i64 0) ∧ w.cell? ⟨B, 4, none⟩ = some (.int .i64 0) ∧ B < w.heap.size ∧ ∀ o, w.frozen? ⟨B, o, none⟩ = false
theorem Z5.later {w w' : World} {B : Nat} (h : Z5 w B) (hb : Below w.heap.size w w') : Z5 w' B := by
  obtain ⟨h0, h1, h2, h3, h4, hl, hf⟩ := h
  exact ⟨bkeep hb h0, bkeep hb h1, bkeep hb h2, bkeep hb h3, bkeep hb h4, Nat.lt_of_lt_of_le hl hb.size, fun o => (World.frozen?_of_block (a := ⟨B, o, none⟩) (hb.block B hl)).trans (hf o)⟩
theorem set5_cell {w : World} {p0 p1 p2 p3 p4 a : Addr} {u0 u1 u2 u3 u4 : Value} (h : p0.block ≠ a.block ∧ p1.block ≠ a.block ∧ p2.block ≠ a.block ∧ p3.block ≠ a.block ∧ p4.block ≠ a.block) :
    (((((w.setCell p0 u0).setCell p1 u1).setCell p2 u2).setCell p3 u3).setCell p4 u4).cell? a = w.cell? a := by
  obtain ⟨h0, h1, h2, h3, h4⟩ := h
  have key : ∀ (W : World) (p : Addr) (u : Value), p.block ≠ a.block → (W.setCell p u).cell? a = W.cell? a := fun W p u hp => World.cell?_of_block (Below.heap_setCell _ _ _ _ (fun e => hp (by rw [e])))
  rw [key _ _ _ h4, key _ _ _ h3, key _ _ _ h2, key _ _ _ h1, key _ _ _ h0]
theorem set5_below {w W : World} {B : Nat} {u0 u1 u2 u3 u4 : Value} {o0 o1 o2 o3 o4 : Nat} (h : Below W.heap.size W w) (hB : W.heap.size ≤ B) :
    Below W.heap.size W (((((w.setCell ⟨B, o0, none⟩ u0).setCell ⟨B, o1, none⟩ u1).setCell ⟨B, o2, none⟩ u2).setCell ⟨B, o3, none⟩ u3).setCell ⟨B, o4, none⟩ u4) :=
  ((((h.setCell (p := ⟨B, _, none⟩) hB _).setCell (p := ⟨B, _, none⟩) hB _).setCell (p := ⟨B, _, none⟩) hB _).setCell (p := ⟨B, _, none⟩) hB _).setCell (p := ⟨B, _, none⟩) hB _

theorem tk_getD (s : Int) (rs : List Int) (k p : Nat) (h : p < k) : (tk s rs k).getD p 0 = s + (rs.take p).sum := by rw [List.getD_eq_getElem?_getD, tk_get s rs k p h]; rfl
theorem ride_bounds {t : TTD} (hg : TTGood t) (i : Nat) (hi : i < t.trips.length) : 2 ≤ (rideOf t t.trips[i]).stops.length ∧ (rideOf t t.trips[i]).stops.length ≤ 6 := by
  obtain ⟨k, hk, hf⟩ := ride_facts hg i hi
  rw [hf.ride]; exact ⟨hf.len2, hf.len6⟩

def legO : Option LegD → LegD
  | none => ⟨0, 0, 0, 0, 0⟩
  | some l => l
theorem mem_rides {t : TTD} {i : Nat} (hi : i < t.trips.length) : rideOf t t.trips[i] ∈ rides t := List.mem_map.2 ⟨_, List.getElem_mem hi, rfl⟩
theorem fill_nofind {t : TTD} (hg : TTGood t) {trip frm dst : Int} (h : foundB trip t.trips = false) : fillF (allLegs (rides t)) trip frm dst = none := by
  cases hf : fillF (allLegs (rides t)) trip frm dst with
  | none => rfl
  | some l =>
    obtain ⟨h1, h2, h3, h4⟩ := fillF_some hf
    obtain ⟨r, hr, i, j, hij, hj, rfl⟩ := mem_allLegs.1 h1
    obtain ⟨x, hx, rfl⟩ := List.mem_map.1 hr
    exfalso
    have hn := (fstIdx_neg trip (t.trips.map (fun x => x.id))).1 (by have := findI_none hg.Asc h; unfold findI at this; omega)
    exact hn (List.mem_map.2 ⟨x, hx, h2⟩)
theorem fill_noplace {t : TTD} (hg : TTGood t) {trip frm dst : Int} {i : Nat} (hi : i < t.trips.length) (hid : (t.trips[i]).id = trip) (h : fstIdx frm (rideOf t t.trips[i]).stops < 0 ∨ fstIdx dst (rideOf t t.trips[i]).stops ≤ fstIdx frm (rideOf t t.trips[i]).stops) : fillF (allLegs (rides t)) trip frm dst = none := by
  cases hf : fillF (allLegs (rides t)) trip frm dst with
  | none => rfl
  | some l =>
    exfalso
    obtain ⟨h1, h2, h3, h4⟩ := fillF_some hf
    obtain ⟨r, hr, p, q, hpq, hq, rfl⟩ := mem_allLegs.1 h1
    have hrr : r = rideOf t t.trips[i] := (rides_ok hg).id_eq hr (mem_rides hi) (by have e1 : r.id = trip := h2; have e2 : (rideOf t t.trips[i]).id = trip := hid; omega)
    subst hrr
    have hnd := ((rides_ok hg).each _ hr).nodup
    have ep : fstIdx frm (rideOf t t.trips[i]).stops = p := by
      have hp : p < (rideOf t t.trips[i]).stops.length := by omega
      have := (nodup_first _).1 hnd p hp
      have e : (rideOf t t.trips[i]).stops[p] = frm := by rw [← h3]; show _ = List.getD _ _ _; rw [List.getD_eq_getElem?_getD, List.getElem?_eq_getElem hp]; rfl
      rw [e] at this; exact this
    have eq : fstIdx dst (rideOf t t.trips[i]).stops = q := by
      have := (nodup_first _).1 hnd q hq
      have e : (rideOf t t.trips[i]).stops[q] = dst := by rw [← h4]; show _ = List.getD _ _ _; rw [List.getD_eq_getElem?_getD, List.getElem?_eq_getElem hq]; rfl
      rw [e] at this; exact this
    omega
theorem fill_place {t : TTD} (hg : TTGood t) {trip frm dst : Int} {i : Nat} (hi : i < t.trips.length) (hid : (t.trips[i]).id = trip) (h : ¬ (fstIdx frm (rideOf t t.trips[i]).stops < 0 ∨ fstIdx dst (rideOf t t.trips[i]).stops ≤ fstIdx frm (rideOf t t.trips[i]).stops)) :
    ∃ A B : Nat, fstIdx frm (rideOf t t.trips[i]).stops = A ∧ fstIdx dst (rideOf t t.trips[i]).stops = B ∧ A < B ∧ B < (rideOf t t.trips[i]).stops.length ∧ fillF (allLegs (rides t)) trip frm dst = some (legR (rideOf t t.trips[i]) A B) := by
  have m1 : frm ∈ (rideOf t t.trips[i]).stops := by
    by_cases hm : frm ∈ (rideOf t t.trips[i]).stops
    · exact hm
    · exact absurd (.inl ((fstIdx_neg _ _).2 hm)) h
  have m2 : dst ∈ (rideOf t t.trips[i]).stops := by
    by_cases hm : dst ∈ (rideOf t t.trips[i]).stops
    · exact hm
    · exfalso
      have h1 := (fstIdx_neg _ _).2 hm
      have h2 := fstIdx_lt frm (rideOf t t.trips[i]).stops
      have h3 := fstIdx_lt dst (rideOf t t.trips[i]).stops
      omega
  obtain ⟨A, hA, hAl, hAe, -⟩ := fstIdx_get frm _ m1
  obtain ⟨B, hB, hBl, hBe, -⟩ := fstIdx_get dst _ m2
  refine ⟨A, B, hA, hB, by omega, hBl, ?_⟩
  have hl : legR (rideOf t t.trips[i]) A B ∈ allLegs (rides t) := mem_allLegs.2 ⟨_, mem_rides hi, A, B, by omega, hBl, rfl⟩
  have := fillF_of (rides_ok hg) hl
  have e2 : (legR (rideOf t t.trips[i]) A B).frm = frm := by show List.getD _ _ _ = _; rw [List.getD_eq_getElem?_getD, List.getElem?_eq_getElem hAl]; exact hAe
  have e3 : (legR (rideOf t t.trips[i]) A B).dst = dst := by show List.getD _ _ _ = _; rw [List.getD_eq_getElem?_getD, List.getElem?_eq_getElem hBl]; exact hBe
  rw [e2, e3] at this
  have e1 : (legR (rideOf t t.trips[i]) A B).trip = trip := hid
  rw [e1] at this
  exact this

end Go.Proofs.Ytfgkfdkdjegaiaa

namespace Go.Proofs.Ytfgkfdkdjegaiaa
open Go.RowKit

end Go.Proofs.Ytfgkfdkdjegaiaa

namespace Go.Proofs.Ytfgkfdkdjegaiaa
open Go.RowKit Jrn Go.Maps
set_option linter.unusedVariables false
set_option linter.unusedSimpArgs false

noncomputable def fillA (t : TTD) (trip frm dst : Int) : Option LegD := if TTGood t then fillF (allLegs (rides t)) trip frm dst else none
theorem fillA_out {t : TTD} (hg : TTGood t) {trip frm dst : Int} (h : ¬ (0 ≤ frm ∧ frm ≤ (t.net.stops.length : Int) - 1) ∨ ¬ (0 ≤ dst ∧ dst ≤ (t.net.stops.length : Int) - 1)) : fillA t trip frm dst = none := by
  unfold fillA
  rw [if_pos hg]
  cases hf : fillF (allLegs (rides t)) trip frm dst with
  | none => rfl
  | some l =>
    exfalso
    obtain ⟨h1, h2, h3, h4⟩ := fillF_some hf
    have := legs_bound hg l h1
    omega

theorem find_at {α : Type} {p : α → Bool} {xs : List α} {k : Nat} (hk : k < xs.length) (hp : p xs[k] = true) (hno : ∀ j (hj : j < xs.length), j < k → p xs[j] = false) : xs.find? p = some xs[k] := by
  rw [List.find?_eq_some_iff_getElem]
  exact ⟨hp, k, hk, rfl, fun j hj => by simp [hno j (by omega) hj]⟩
theorem find_end {α : Type} {p : α → Bool} {xs : List α} (hno : ∀ j (hj : j < xs.length), p xs[j] = false) : xs.find? p = none := by
  rw [List.find?_eq_none]
  intro x hx
  obtain ⟨j, hj, rfl⟩ := List.getElem_of_mem hx
  simp [hno j hj]

end Go.Proofs.Ytfgkfdkdjegaiaa

namespace Go.Proofs.Ytfgkfdkdjegaiaa
open Go.RowKit
set_option linter.unusedVariables false

def legEqB (x y : LegD) : Bool := x.trip == y.trip && (x.frm == y.frm && (x.dst == y.dst && (x.dep == y.dep && x.arr == y.arr)))
theorem legEqB_iff (x y : LegD) : legEqB x y = true ↔ x = y := by
  cases x; cases y
  simp [legEqB]
end Go.Proofs.Ytfgkfdkdjegaiaa

namespace Go.Proofs.Ytfgkfdkdjegaiaa
open Go.RowKit Jrn
set_option linter.unusedVariables false
set_option linter.unusedSimpArgs false

theorem jrn_no {L : List LegD} {ch : Int} {c : List LegD} {k : Nat} (hk : k < c.length) (h : ¬ StepOk L ch c k hk) : jrnB L ch c = false := jrnB_no fun hj => h (hj.2.2 k hk hk)
theorem jrn_len {L : List LegD} {ch : Int} {c : List LegD} (h : ¬ (1 ≤ c.length ∧ c.length ≤ 4)) : jrnB L ch c = false := jrnB_no fun hj => h ⟨hj.1, hj.2.1⟩

end Go.Proofs.Ytfgkfdkdjegaiaa

namespace Go.Proofs.Ytfgkfdkdjegaiaa
open Go.RowKit Jrn Go.Maps
set_option linter.unusedVariables false
set_option linter.unusedSimpArgs false

noncomputable def ansJ (t : TTD) (ch : Int) (cs : List LegD) : Bool := if TTGood t ∧ 0 ≤ ch ∧ ch ≤ 30 then jrnB (allLegs (rides t)) ch cs else false
theorem ansJ_yes {t : TTD} {ch : Int} {cs : List LegD} (hg : TTGood t) (h : 0 ≤ ch ∧ ch ≤ 30) : ansJ t ch cs = jrnB (allLegs (rides t)) ch cs := if_pos ⟨hg, h⟩
theorem ansJ_no {t : TTD} {ch : Int} {cs : List LegD} (h : ¬ (TTGood t ∧ 0 ≤ ch ∧ ch ≤ 30)) : ansJ t ch cs = false := if_neg h
noncomputable def askB (t : TTD) (ch : Int) : Bool := @decide (TTGood t ∧ 0 ≤ ch ∧ ch ≤ 30) (Classical.propDecidable _)
theorem askB_yes {t : TTD} {ch : Int} (h : TTGood t ∧ 0 ≤ ch ∧ ch ≤ 30) : askB t ch = true := by unfold askB; exact @decide_eq_true _ (Classical.propDecidable _) h
theorem askB_no {t : TTD} {ch : Int} (h : ¬ (TTGood t ∧ 0 ≤ ch ∧ ch ≤ 30)) : askB t ch = false := by unfold askB; exact @decide_eq_false _ (Classical.propDecidable _) h

/-! the program's side -/
theorem IntSet.later' {b : Nat} {S : List Int} {w w' : World} (h : IntSet b S w) (hb : Below w.heap.size w w') : IntSet b S w' := SetOf.block h (hb.block b (SetOf.lt h))
theorem IntSet.lt {b : Nat} {S : List Int} {w : World} (h : IntSet b S w) : b < w.heap.size := SetOf.lt h
end Go.Proofs.Ytfgkfdkdjegaiaa

namespace Go.Proofs.Ytfgkfdkdjegaiaa
open Go.RowKit Jrn Go.Maps
set_option linter.unusedVariables false
set_option linter.unusedSimpArgs false

/-- the first leg and the last one -/
def firstL (cs : List LegD) : LegD := cs.getD 0 ⟨0, 0, 0, 0, 0⟩
def lastL (cs : List LegD) : LegD := cs.getD (cs.length - 1) ⟨0, 0, 0, 0, 0⟩
def jtV (cs : List LegD) : Int × Int := ((lastL cs).arr - (firstL cs).dep, waitsTo cs (cs.length - 1))
noncomputable def jtF (t : TTD) (ch : Int) (cs : List LegD) : Int × Int := if ansJ t ch cs then jtV cs else (0, 0)
theorem ansJ_iff {t : TTD} {ch : Int} {cs : List LegD} (h : ansJ t ch cs = true) : TTGood t ∧ (0 ≤ ch ∧ ch ≤ 30) ∧ JrnOk (allLegs (rides t)) ch cs := by
  unfold ansJ at h
  split at h
  · rename_i hh
    refine ⟨hh.1, hh.2, ?_⟩
    unfold jrnB at h
    exact @of_decide_eq_true _ (Classical.propDecidable _) h
  · cases h
theorem jrn_bound {t : TTD} (hg : TTGood t) {ch : Int} {cs : List LegD} (h : JrnOk (allLegs (rides t)) ch cs) (k : Nat) (hk : k < cs.length) : 0 ≤ cs[k].dep ∧ cs[k].dep ≤ 2400 ∧ 0 ≤ cs[k].arr ∧ cs[k].arr ≤ 2400 := by
  have := legs_bound hg _ (h.2.2 k hk hk).1
  omega
theorem waits_bound {t : TTD} (hg : TTGood t) {ch : Int} {cs : List LegD} (h : JrnOk (allLegs (rides t)) ch cs) : ∀ k : Nat, -(2400 * (k : Int)) ≤ waitsTo cs k ∧ waitsTo cs k ≤ 2400 * (k : Int)
  | 0 => by simp [waitsTo]
  | k + 1 => by
    have ih := waits_bound hg h k
    rw [waitsTo]
    split
    · rename_i hk
      have h1 := jrn_bound hg h k (by omega)
      have h2 := jrn_bound hg h (k + 1) hk
      omega
    · omega
theorem ridesTo_bound {t : TTD} (hg : TTGood t) {ch : Int} {cs : List LegD} (h : JrnOk (allLegs (rides t)) ch cs) : ∀ k : Nat, -(2400 * (k : Int)) ≤ ridesTo cs k ∧ ridesTo cs k ≤ 2400 * (k : Int)
  | 0 => by simp [ridesTo]
  | k + 1 => by
    have ih := ridesTo_bound hg h k
    rw [ridesTo]
    split
    · rename_i hk
      have h1 := jrn_bound hg h k hk
      omega
    · omega

/-! the program's side -/
end Go.Proofs.Ytfgkfdkdjegaiaa

namespace Go.Proofs.Ytfgkfdkdjegaiaa
open Go.RowKit Jrn
set_option linter.unusedVariables false
set_option linter.unusedSimpArgs false

def or3 (x y z : Int) : Int := orI x (orI y z)
/-! plain words: the order as a number -/
def cmpR (x y : LegD) : Int := or3 (cmpI x.trip y.trip) (cmpI x.frm y.frm) (cmpI x.dst y.dst)
theorem cmpI_neg (a b : Int) : cmpI a b < 0 ↔ a < b := by
  unfold cmpI
  by_cases h1 : a < b
  · simp [h1]
  · by_cases h2 : b < a
    · simp [h1, h2]
    · simp [h1, h2]
theorem orI_neg (x y : Int) : orI x y < 0 ↔ x < 0 ∨ (x = 0 ∧ y < 0) := by
  unfold orI
  split
  · omega
  · omega
theorem orI_zero (x y : Int) : orI x y = 0 ↔ x = 0 ∧ y = 0 := by
  unfold orI
  split
  · omega
  · omega
theorem cmpR_neg (x y : LegD) : cmpR x y < 0 ↔ rideLt x y := by
  unfold cmpR or3 rideLt
  rw [orI_neg, orI_neg, cmpI_neg, cmpI_neg, cmpI_neg, cmpI_zero, cmpI_zero]
theorem cmpR_zero (x y : LegD) : cmpR x y = 0 ↔ rideEq x y := by
  unfold cmpR or3 rideEq
  rw [orI_zero, orI_zero, cmpI_zero, cmpI_zero, cmpI_zero]
def lexC : List LegD → List LegD → Int
  | [], [] => 0
  | [], _ :: _ => -1
  | _ :: _, [] => 1
  | x :: a, y :: b => if cmpR x y = 0 then lexC a b else cmpR x y
theorem lexC_neg : ∀ a b : List LegD, lexC a b < 0 ↔ lexLt a b
  | [], [] => by simp [lexC, lexLt]
  | [], _ :: _ => by simp [lexC, lexLt]
  | _ :: _, [] => by simp [lexC, lexLt]
  | x :: a, y :: b => by
    have ih := lexC_neg a b
    show (if cmpR x y = 0 then lexC a b else cmpR x y) < 0 ↔ rideLt x y ∨ (rideEq x y ∧ lexLt a b)
    rw [← cmpR_neg, ← cmpR_zero, ← ih]
    split <;> omega
def cmpJ (a b : List LegD) : Int := or3 (cmpI (lastL a).arr (lastL b).arr) (cmpI a.length b.length) (lexC a b)
theorem lastL_end {a : List LegD} (h : a ≠ []) : (lastL a).arr = endT 0 a := by
  have key : ∀ (a : List LegD) (t : Int), a ≠ [] → (a.getD (a.length - 1) ⟨0, 0, 0, 0, 0⟩).arr = endT t a := by
    intro a
    induction a with
    | nil => intro t h; exact absurd rfl h
    | cons x a ih =>
      intro t _
      cases a with
      | nil => rfl
      | cons y a =>
        have := ih x.arr (by simp)
        simpa [endT] using this
  exact key a 0 h
theorem cmpJ_neg {a b : List LegD} (ha : a ≠ []) (hb : b ≠ []) : cmpJ a b < 0 ↔ JLt a b := by
  unfold cmpJ or3 JLt
  rw [orI_neg, orI_neg, cmpI_neg, cmpI_neg, lexC_neg, cmpI_zero, cmpI_zero, lastL_end ha, lastL_end hb]
  simp only [Int.ofNat_lt, Int.ofNat_inj]

end Go.Proofs.Ytfgkfdkdjegaiaa

namespace Go.Proofs.Ytfgkfdkdjegaiaa
open Go.RowKit Go.Maps
set_option linter.unusedVariables false

def bV (s t n : Int) : Value := .agg #[.int .i64 s, .int .i64 t, .int .i64 n]
theorem cellsI : Try.prog.cellsOf 3 = 1 := by kernel_rfl
end Go.Proofs.Ytfgkfdkdjegaiaa

namespace Go.Proofs.Ytfgkfdkdjegaiaa
open Go.RowKit Go.Maps Jrn
set_option linter.unusedVariables false
set_option linter.unusedSimpArgs false

theorem gr_trans {w w' w'' : World} {r : Option Nat} (h : w.grownBy w' r) (k : w'.grownBy w'' r) : w.grownBy w'' r :=
  ⟨k.os.trans h.os, k.tape.trans h.tape, k.output.trans h.output, Nat.le_trans h.size k.size, fun q hq hne => (k.block q (Nat.lt_of_lt_of_le hq h.size) hne).trans (h.block q hq hne)⟩
theorem gr_below {w w' : World} (h : Below w.heap.size w w') (r : Option Nat) : w.grownBy w' r := ⟨h.os, h.tape, h.output, h.size, fun q hq _ => h.block q hq⟩
theorem below_gr {w w' : World} {m b : Nat} (h : w.grownBy w' (some m)) (hb : b ≤ m) (hs : b ≤ w.heap.size) : Below b w w' :=
  ⟨h.os, h.tape, h.output, h.size, fun q hq => h.block q (by omega) (by simp; omega)⟩
theorem gr_cell {w w' : World} {m : Nat} {a : Addr} {v : Value} (h : w.grownBy w' (some m)) (hc : w.cell? a = some v) (hm : a.block ≠ m) : w'.cell? a = some v := by
  have hl := World.block_lt_of_cell? w _ hc
  exact (World.cell?_of_block (h.block a.block hl (by simpa using hm))).trans hc
theorem gr_own {w w' : World} {m lo : Nat} {e : TypeId} {z n : Nat} {v : Value} {xs : List Value} (h : w.grownBy w' (some m)) (ho : w.ownsRow lo e z v n xs) (hm : v.ownBlock ≠ some m) : w'.ownsRow lo e z v n xs := ho.kept h (.inr hm)

/-- how often something is stored at most -/
def cst : Nat → Nat
  | 0 => 0
  | k + 1 => 432 * cst k + 1
section
variable {b bL : Nat} {L : List LegD} {ch too : Int} {n : Nat} {w w' : World}
theorem HdrMap.mono {P : Program} {k : TypeId} {z : Value} {b n n' : Nat} {f : Lit → Value} {p : Lit → Bool} {w : World} (h : HdrMap P k z b n f p w) (hn : n ≤ n') : HdrMap P k z b n' f p w := by
  obtain ⟨D, h1, h2⟩ := h; exact ⟨D, h1.mono hn, h2⟩
end
end Go.Proofs.Ytfgkfdkdjegaiaa

namespace Go.Proofs.Ytfgkfdkdjegaiaa
open Go.RowKit
set_option linter.unusedVariables false

end Go.Proofs.Ytfgkfdkdjegaiaa

namespace Go.Proofs.Ytfgkfdkdjegaiaa
open Go.RowKit
set_option linter.unusedVariables false

theorem ints_oneE (zs : List Int) : ∀ u ∈ ints zs, u.oneCell' = true := by
  intro u hu
  obtain ⟨q, _, rfl⟩ := List.mem_map.1 hu
  rfl
theorem litE0 {e : TypeId} {sz : Nat} (B : Nat) (w : World) (m : Nat) (hm : m = w.heap.size) (hB : B ≤ w.heap.size) : (w.alloc (.cells #[] e)).ownsRow B e sz (.slice (some ⟨m, 0, none⟩) 0 0) 0 [] := by
  subst hm; exact World.ownsRow_lit w #[] 0 hB (by decide) (by simp)
theorem own_someE {w : World} {B : Nat} {e : TypeId} {sz : Nat} {v : Value} {n : Nat} {xs : List Value} (h : w.ownsRow B e sz v n xs) (hn : 0 < n) : v.ownBlock ≠ none := by
  obtain ⟨_, h2⟩ := h
  rcases h2 with ⟨_, h0⟩ | ⟨g, cap, cur, hv, _⟩
  · omega
  · rw [hv]; simp [Value.ownBlock]
theorem one_keptE {W w : World} {row : Option Nat} {m : Nat} {l : List Value} (hg : W.grownBy w row) (h : ∀ j u, l[j]? = some u → W.cell? ((⟨m, 0, none⟩ : Addr).add j) = some u) (hne : row ≠ some m) : ∀ j u, l[j]? = some u → w.cell? ((⟨m, 0, none⟩ : Addr).add j) = some u := fun j u hu => by
  have h1 := h j u hu
  rw [addr_add] at h1 ⊢
  exact hg.cell h1 (fun e => hne e.symm)
/-- an owned row that is no nil -/
theorem own_open {w : World} {B : Nat} {e : TypeId} {sz : Nat} {v : Value} {n : Nat} {xs : List Value} (h : w.ownsRow B e sz v n xs) (hv : v.ownBlock ≠ none) : ∃ g c, v = .slice (some ⟨g, 0, none⟩) n c ∧ n ≤ c ∧ c ≤ 9223372036854775807 ∧ g < w.heap.size ∧ B ≤ g ∧ ∀ j u, xs[j]? = some u → w.cell? ⟨g, j, none⟩ = some u := by
  have hc := fun g hg => h.cells (g := g) hg
  have hl := h.lt
  obtain ⟨_, h2⟩ := h
  rcases h2 with ⟨rfl, _⟩ | ⟨g, cap, cur, rfl, hg, _, h1, h3, _⟩
  · simp [Value.ownBlock] at hv
  · refine ⟨g, cap, rfl, h1, h3, (hl g rfl).2, hg, fun j u hu => ?_⟩
    have := hc g rfl j u hu
    rw [addr_add, Nat.zero_add] at this; exact this
def StAns (B : Nat) (r : List Int) (b : Bool) (e : Ending) (w' : World) : Prop := ∃ v', e = .returned (.tuple #[v', .bool b]) ∧ w'.ownsRow B 3 1 v' r.length (ints r)
theorem row_new (w : World) (B : Nat) (hB : B ≤ w.heap.size) : (w.alloc (.cells #[] 3)).ownsRow B 3 1 (.slice (some ⟨w.heap.size, 0, none⟩) 0 0) 0 (ints []) := by
  have h := World.ownsRow_lit (base := B) (e := 3) (size := 1) w #[] 0 hB (by decide) (by simp)
  simpa [ints] using h
end Go.Proofs.Ytfgkfdkdjegaiaa
