/-
  CONTRACTS of spec.l8Leg and spec.l8Fill: one leg.
-/
import Derived.Test.YtfgkfdkdjegaiaaJrnTT
import Derived.Test.YtfgkfdkdjegaiaaLegX
import Derived.Test.YtfgkfdkdjegaiaaTTLine
import Derived.Test.YtfgkfdkdjegaiaaTripFind
import Derived.Test.YtfgkfdkdjegaiaaLegsBy
import Derived.Test.YtfgkfdkdjegaiaaTripNumber
import Derived.OrdersHeld
import Derived.Deep.RegionHeld
namespace Go.Proofs.Ytfgkfdkdjegaiaa
open Go.RowKit Jrn
set_option linter.unusedVariables false
set_option linter.unusedSimpArgs false

/-- a leg's box of zeros -/
def Z5 (w : World) (B : Nat) : Prop := w.cell? ⟨B, 0, none⟩ = some (.int .i64 0) ∧ w.cell? ⟨B, 1, none⟩ = some (.int .i64 0) ∧ w.cell? ⟨B, 2, none⟩ = some (.int .i64 0) ∧ w.cell? ⟨B, 3, none⟩ = some (.int .i64 0) ∧ w.cell? ⟨B, 4, none⟩ = some (.int .i64 0) ∧ B < w.heap.size ∧ ∀ o, w.frozen? ⟨B, o, none⟩ = false
theorem Z5.later {w w' : World} {B : Nat} (h : Z5 w B) (hb : Below w.heap.size w w') : Z5 w' B := by
  obtain ⟨h0, h1, h2, h3, h4, hl, hf⟩ := h
  exact ⟨bkeep hb h0, bkeep hb h1, bkeep hb h2, bkeep hb h3, bkeep hb h4, Nat.lt_of_lt_of_le hl hb.size, fun o => (World.frozen?_of_block (a := ⟨B, o, none⟩) (hb.block B hl)).trans (hf o)⟩
theorem set5_cell {w : World} {p0 p1 p2 p3 p4 a : Addr} {u0 u1 u2 u3 u4 : Value} (h : p0.block ≠ a.block ∧ p1.block ≠ a.block ∧ p2.block ≠ a.block ∧ p3.block ≠ a.block ∧ p4.block ≠ a.block) :
    (((((w.setCell p0 u0).setCell p1 u1).setCell p2 u2).setCell p3 u3).setCell p4 u4).cell? a = w.cell? a := by
  obtain ⟨h0, h1, h2, h3, h4⟩ := h
  have key : ∀ (W : World) (p : Addr) (u : Value), p.block ≠ a.block → (W.setCell p u).cell? a = W.cell? a := fun W p u hp => World.cell?_of_block (Below.heap_setCell _ _ _ _ (fun e => hp (by rw [e])))
  rw [key _ _ _ h4, key _ _ _ h3, key _ _ _ h2, key _ _ _ h1, key _ _ _ h0]
theorem set5_below {w W : World} {B : Nat} {u0 u1 u2 u3 u4 : Value} {o0 o1 o2 o3 o4 : Nat} (h : Below W.heap.size W w) (hB : W.heap.size ≤ B) :
    Below W.heap.size W (((((w.setCell ⟨B, o0, none⟩ u0).setCell ⟨B, o1, none⟩ u1).setCell ⟨B, o2, none⟩ u2).setCell ⟨B, o3, none⟩ u3).setCell ⟨B, o4, none⟩ u4) :=
  ((((h.setCell (p := ⟨B, _, none⟩) hB _).setCell (p := ⟨B, _, none⟩) hB _).setCell (p := ⟨B, _, none⟩) hB _).setCell (p := ⟨B, _, none⟩) hB _).setCell (p := ⟨B, _, none⟩) hB _

theorem tk_getD (s : Int) (rs : List Int) (k p : Nat) (h : p < k) : (tk s rs k).getD p 0 = s + (rs.take p).sum := by rw [List.getD_eq_getElem?_getD, tk_get s rs k p h]; rfl
theorem ride_bounds {t : TTD} (hg : TTGood t) (i : Nat) (hi : i < t.trips.length) : 2 ≤ (rideOf t t.trips[i]).stops.length ∧ (rideOf t t.trips[i]).stops.length ≤ 6 := by
  obtain ⟨k, hk, hf⟩ := ride_facts hg i hi
  rw [hf.ride]; exact ⟨hf.len2, hf.len6⟩

def legO : Option LegD → LegD
  | none => ⟨0, 0, 0, 0, 0⟩
  | some l => l
theorem mem_rides {t : TTD} {i : Nat} (hi : i < t.trips.length) : rideOf t t.trips[i] ∈ rides t := List.mem_map.2 ⟨_, List.getElem_mem hi, rfl⟩
theorem fill_nofind {t : TTD} (hg : TTGood t) {trip frm dst : Int} (h : foundB trip t.trips = false) : fillF (allLegs (rides t)) trip frm dst = none := by
  cases hf : fillF (allLegs (rides t)) trip frm dst with
  | none => rfl
  | some l =>
    obtain ⟨h1, h2, h3, h4⟩ := fillF_some hf
    obtain ⟨r, hr, i, j, hij, hj, rfl⟩ := mem_allLegs.1 h1
    obtain ⟨x, hx, rfl⟩ := List.mem_map.1 hr
    exfalso
    have hn := (fstIdx_neg trip (t.trips.map (fun x => x.id))).1 (by have := findI_none hg.Asc h; unfold findI at this; omega)
    exact hn (List.mem_map.2 ⟨x, hx, h2⟩)
theorem fill_noplace {t : TTD} (hg : TTGood t) {trip frm dst : Int} {i : Nat} (hi : i < t.trips.length) (hid : (t.trips[i]).id = trip) (h : fstIdx frm (rideOf t t.trips[i]).stops < 0 ∨ fstIdx dst (rideOf t t.trips[i]).stops ≤ fstIdx frm (rideOf t t.trips[i]).stops) : fillF (allLegs (rides t)) trip frm dst = none := by
  cases hf : fillF (allLegs (rides t)) trip frm dst with
  | none => rfl
  | some l =>
    exfalso
    obtain ⟨h1, h2, h3, h4⟩ := fillF_some hf
    obtain ⟨r, hr, p, q, hpq, hq, rfl⟩ := mem_allLegs.1 h1
    have hrr : r = rideOf t t.trips[i] := (rides_ok hg).id_eq hr (mem_rides hi) (by have e1 : r.id = trip := h2; have e2 : (rideOf t t.trips[i]).id = trip := hid; omega)
    subst hrr
    have hnd := ((rides_ok hg).each _ hr).nodup
    have ep : fstIdx frm (rideOf t t.trips[i]).stops = p := by
      have hp : p < (rideOf t t.trips[i]).stops.length := by omega
      have := (nodup_first _).1 hnd p hp
      have e : (rideOf t t.trips[i]).stops[p] = frm := by rw [← h3]; show _ = List.getD _ _ _; rw [List.getD_eq_getElem?_getD, List.getElem?_eq_getElem hp]; rfl
      rw [e] at this; exact this
    have eq : fstIdx dst (rideOf t t.trips[i]).stops = q := by
      have := (nodup_first _).1 hnd q hq
      have e : (rideOf t t.trips[i]).stops[q] = dst := by rw [← h4]; show _ = List.getD _ _ _; rw [List.getD_eq_getElem?_getD, List.getElem?_eq_getElem hq]; rfl
      rw [e] at this; exact this
    omega
theorem fill_place {t : TTD} (hg : TTGood t) {trip frm dst : Int} {i : Nat} (hi : i < t.trips.length) (hid : (t.trips[i]).id = trip) (h : ¬ (fstIdx frm (rideOf t t.trips[i]).stops < 0 ∨ fstIdx dst (rideOf t t.trips[i]).stops ≤ fstIdx frm (rideOf t t.trips[i]).stops)) :
    ∃ A B : Nat, fstIdx frm (rideOf t t.trips[i]).stops = A ∧ fstIdx dst (rideOf t t.trips[i]).stops = B ∧ A < B ∧ B < (rideOf t t.trips[i]).stops.length ∧ fillF (allLegs (rides t)) trip frm dst = some (legR (rideOf t t.trips[i]) A B) := by
  have m1 : frm ∈ (rideOf t t.trips[i]).stops := by
    by_cases hm : frm ∈ (rideOf t t.trips[i]).stops
    · exact hm
    · exact absurd (.inl ((fstIdx_neg _ _).2 hm)) h
  have m2 : dst ∈ (rideOf t t.trips[i]).stops := by
    by_cases hm : dst ∈ (rideOf t t.trips[i]).stops
    · exact hm
    · exfalso
      have h1 := (fstIdx_neg _ _).2 hm
      have h2 := fstIdx_lt frm (rideOf t t.trips[i]).stops
      have h3 := fstIdx_lt dst (rideOf t t.trips[i]).stops
      omega
  obtain ⟨A, hA, hAl, hAe, -⟩ := fstIdx_get frm _ m1
  obtain ⟨B, hB, hBl, hBe, -⟩ := fstIdx_get dst _ m2
  refine ⟨A, B, hA, hB, by omega, hBl, ?_⟩
  have hl : legR (rideOf t t.trips[i]) A B ∈ allLegs (rides t) := mem_allLegs.2 ⟨_, mem_rides hi, A, B, by omega, hBl, rfl⟩
  have := fillF_of (rides_ok hg) hl
  have e2 : (legR (rideOf t t.trips[i]) A B).frm = frm := by show List.getD _ _ _ = _; rw [List.getD_eq_getElem?_getD, List.getElem?_eq_getElem hAl]; exact hAe
  have e3 : (legR (rideOf t t.trips[i]) A B).dst = dst := by show List.getD _ _ _ = _; rw [List.getD_eq_getElem?_getD, List.getElem?_eq_getElem hBl]; exact hBe
  rw [e2, e3] at this
  have e1 : (legR (rideOf t t.trips[i]) A B).trip = trip := hid
  rw [e1] at this
  exact this

end Go.Proofs.Ytfgkfdkdjegaiaa
