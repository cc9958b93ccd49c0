/-
  PLAIN WORDS: the stops that a traveler passes on the legs of a journey; impl.stopsAfter.
-/
import Derived.Test.YtfgkfdkdjegaiaaJourneyTimes
import Derived.Test.YtfgkfdkdjegaiaaFillLeg
import Derived.Test.YtfgkfdkdjegaiaaContains
namespace Go.Proofs.Ytfgkfdkdjegaiaa
open Go.RowKit Go.Maps Jrn
set_option linter.unusedVariables false
set_option linter.unusedSimpArgs false

/-- the stops behind the first one of a leg, up to its last one -/
def segR (r : RideD) (l : LegD) : List Int := (r.stops.drop (r.stops.idxOf l.frm + 1)).take (r.stops.idxOf l.dst - r.stops.idxOf l.frm)
def segOf (t : TTD) (l : LegD) : List Int := segR (rideOf t (t.trips.getD (placeOf l.trip t.trips) ⟨0, 0, 0⟩)) l
def svF (t : TTD) (c : List LegD) : Nat → List Int
  | 0 => []
  | k + 1 => svF t c k ++ segOf t (c.getD k ⟨0, 0, 0, 0, 0⟩)
noncomputable def svAns (t : TTD) (ch : Int) (c : List LegD) : List Int := if ansJ t ch c then [(firstL c).frm] ++ svF t c c.length else []
theorem seg_at {t : TTD} (hg : TTGood t) {l : LegD} (hl : l ∈ allLegs (rides t)) : ∃ i, ∃ hi : i < t.trips.length, ∃ A B : Nat, placeOf l.trip t.trips = i ∧ foundB l.trip t.trips = true ∧ A < B ∧ B < (rideOf t t.trips[i]).stops.length ∧
    fstIdx l.frm (rideOf t t.trips[i]).stops = A ∧ fstIdx l.dst (rideOf t t.trips[i]).stops = B ∧ (rideOf t t.trips[i]).stops.getD A 0 = l.frm ∧ segOf t l = ((rideOf t t.trips[i]).stops.drop (A + 1)).take (B - A) ∧ fstIdx l.dst ((rideOf t t.trips[i]).stops.drop (A + 1)) = ((B - (A + 1) : Nat) : Int) := by
  have hf := fillF_of (rides_ok hg) hl
  cases hfd : foundB l.trip t.trips with
  | false => rw [fill_nofind hg hfd] at hf; cases hf
  | true =>
    obtain ⟨hfi, hpl⟩ := findI_found hg.Asc hfd
    have hid : (t.trips[placeOf l.trip t.trips]'hpl).id = l.trip := by
      have := foundB_at (id := l.trip) hpl
      rw [hfd] at this
      exact of_decide_eq_true this.symm
    obtain ⟨r, hr, A, B, hAB, hB, rfl⟩ := mem_allLegs.1 hl
    have hrr : r = rideOf t (t.trips[placeOf (legR r A B).trip t.trips]'hpl) := (rides_ok hg).id_eq hr (mem_rides hpl) (by have e2 : (rideOf t (t.trips[placeOf (legR r A B).trip t.trips]'hpl)).id = (t.trips[placeOf (legR r A B).trip t.trips]'hpl).id := rfl; rw [e2, hid]; rfl)
    have hnd := ((rides_ok hg).each _ hr).nodup
    have hA : A < r.stops.length := by omega
    have eA : r.stops.idxOf (r.stops.getD A 0) = A := idx_get hnd hA
    have eB : r.stops.idxOf (r.stops.getD B 0) = B := idx_get hnd hB
    have mA : r.stops.getD A 0 ∈ r.stops := getD_mem hA
    have mB : r.stops.getD B 0 ∈ r.stops := getD_mem hB
    refine ⟨placeOf (legR r A B).trip t.trips, hpl, A, B, rfl, rfl, hAB, ?_⟩
    rw [← hrr]
    refine ⟨hB, ?_, ?_, rfl, ?_, ?_⟩
    · show fstIdx (r.stops.getD A 0) r.stops = A
      unfold fstIdx; rw [if_pos mA, eA]
    · show fstIdx (r.stops.getD B 0) r.stops = B
      unfold fstIdx; rw [if_pos mB, eB]
    · unfold segOf
      rw [List.getD_eq_getElem?_getD, List.getElem?_eq_getElem hpl]
      show segR (rideOf t (t.trips[placeOf (legR r A B).trip t.trips]'hpl)) _ = _
      rw [← hrr]
      unfold segR
      show (r.stops.drop (r.stops.idxOf (r.stops.getD A 0) + 1)).take (r.stops.idxOf (r.stops.getD B 0) - r.stops.idxOf (r.stops.getD A 0)) = _
      rw [eA, eB]
    · show fstIdx (r.stops.getD B 0) (r.stops.drop (A + 1)) = _
      have hl : B - (A + 1) < (r.stops.drop (A + 1)).length := by rw [List.length_drop]; omega
      have hn2 : (r.stops.drop (A + 1)).Nodup := hnd.sublist (List.drop_sublist _ _)
      have e : (r.stops.drop (A + 1))[B - (A + 1)] = r.stops.getD B 0 := by
        rw [List.getElem_drop, List.getD_eq_getElem?_getD, List.getElem?_eq_getElem hB]
        simp only [show A + 1 + (B - (A + 1)) = B by omega]; rfl
      have := (nodup_first _).1 hn2 (B - (A + 1)) hl
      rw [e] at this
      exact this
theorem svF_succ {t : TTD} {c : List LegD} {k : Nat} (hk : k < c.length) : svF t c (k + 1) = svF t c k ++ segOf t c[k] := by
  show svF t c k ++ segOf t (c.getD k ⟨0, 0, 0, 0, 0⟩) = _
  rw [List.getD_eq_getElem?_getD, List.getElem?_eq_getElem hk]; rfl
theorem seg_len {t : TTD} (hg : TTGood t) {l : LegD} (hl : l ∈ allLegs (rides t)) : (segOf t l).length ≤ 6 := by
  obtain ⟨i, hi, A, B, h1, h2, h3, h4, h5, h6, h7, h8, h9⟩ := seg_at hg hl
  have := ride_bounds hg i hi
  rw [h8, List.length_take, List.length_drop]; omega
theorem svF_len {t : TTD} (hg : TTGood t) {c : List LegD} (hc : ∀ k (hk : k < c.length), c[k] ∈ allLegs (rides t)) : ∀ k, k ≤ c.length → (svF t c k).length ≤ 6 * k
  | 0, _ => by simp [svF]
  | k + 1, hk => by
    have ih := svF_len hg hc k (by omega)
    have := seg_len hg (hc k hk)
    rw [svF_succ hk, List.length_append]; omega
theorem jrn_mem {L : List LegD} {ch : Int} {c : List LegD} (h : JrnOk L ch c) : ∀ k (hk : k < c.length), c[k] ∈ L := fun k hk => (h.2.2 k hk hk).1
theorem svAns_small {t : TTD} {ch : Int} {c : List LegD} : IntsSmall (svAns t ch c) := by
  unfold svAns
  split
  · rename_i h
    obtain ⟨hg, -, hj⟩ := ansJ_iff h
    have := svF_len hg (jrn_mem hj) c.length (Nat.le_refl _)
    have := hj.2.1
    simp only [IntsSmall, List.length_append, List.length_singleton]; omega
  · simp [IntsSmall]
theorem rowAt_dropI {w : World} {b off : Nat} {xs : List Int} {c k : Nat} (h : RowAt w (.slice (some ⟨b, off, none⟩) xs.length c) (ints xs)) (hk : k ≤ xs.length) : RowAt w (.slice (some ⟨b, off + k, none⟩) (xs.length - k) (c - k)) (ints (xs.drop k)) := by
  obtain ⟨a', c', hv, hc, hm, hcell⟩ := h
  simp at hv
  obtain ⟨rfl, _, rfl⟩ := hv
  rw [ints_len] at hc
  refine ⟨_, _, by rw [ints_len, List.length_drop], by rw [ints_len, List.length_drop]; omega, by omega, fun j u hu => ?_⟩
  have e : ints (xs.drop k) = (ints xs).drop k := by simp [ints, List.map_drop]
  rw [e, List.getElem?_drop] at hu
  obtain ⟨b', o', he, h1, h2⟩ := hcell (k + j) u hu
  simp at he
  obtain ⟨rfl, rfl⟩ := he
  exact ⟨_, _, rfl, h1, by rw [show off + k + j = off + (k + j) by omega]; exact h2⟩
theorem rowAt_takeI {w : World} {a : Option Addr} {xs : List Int} {c k : Nat} (h : RowAt w (.slice a xs.length c) (ints xs)) (hk : k ≤ xs.length) : RowAt w (.slice a k c) (ints (xs.take k)) := by
  obtain ⟨a', c', hv, hc, hm, hcell⟩ := h
  simp at hv
  obtain ⟨rfl, _, rfl⟩ := hv
  rw [ints_len] at hc
  refine ⟨a, c, by rw [ints_len]; simp; omega, by rw [ints_len]; simp; omega, hm, fun j u hu => ?_⟩
  have e : ints (xs.take k) = (ints xs).take k := by simp [ints, List.map_take]
  rw [e, List.getElem?_take] at hu
  split at hu
  · exact hcell j u hu
  · cases hu

end Go.Proofs.Ytfgkfdkdjegaiaa
