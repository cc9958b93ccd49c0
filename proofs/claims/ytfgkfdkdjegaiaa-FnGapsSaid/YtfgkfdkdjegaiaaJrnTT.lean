/-
  PLAIN WORDS: the rides of a timetable; where the timetable is valid they are in order.
-/
import Derived.Test.YtfgkfdkdjegaiaaJrnP
import Derived.Test.YtfgkfdkdjegaiaaTk
namespace Go.Proofs.Ytfgkfdkdjegaiaa
open Go.RowKit Jrn
set_option linter.unusedVariables false

def lineOf (t : TTD) (x : TripD) : LineD := t.net.lines.getD x.line.toNat ⟨ByteArray.empty, [], []⟩
def rideOf (t : TTD) (x : TripD) : RideD := ⟨x.id, (lineOf t x).stops, tk x.start (lineOf t x).runs ((lineOf t x).runs.length + 1)⟩
def rides (t : TTD) : List RideD := t.trips.map (rideOf t)
theorem rides_len (t : TTD) : (rides t).length = t.trips.length := by simp [rides]
theorem rides_at (t : TTD) (i : Nat) (h : i < (rides t).length) : (rides t)[i] = rideOf t (t.trips[i]'(by rw [rides_len] at h; exact h)) := by simp [rides]
theorem lineOf_at {t : TTD} {x : TripD} {k : Nat} (hk : x.line = k) (h : k < t.net.lines.length) : lineOf t x = t.net.lines[k] := by
  unfold lineOf; rw [hk, Int.toNat_natCast, List.getD_eq_getElem?_getD, List.getElem?_eq_getElem h]; rfl
structure RideFacts (t : TTD) (x : TripD) (k : Nat) (hk : k < t.net.lines.length) : Prop where
  line : x.line = k
  lenr : t.net.lines[k].runs.length + 1 = t.net.lines[k].stops.length
  len2 : 2 ≤ t.net.lines[k].stops.length
  len6 : t.net.lines[k].stops.length ≤ 6
  runs : ∀ r ∈ t.net.lines[k].runs, 1 ≤ r ∧ r ≤ 60
  nodup : t.net.lines[k].stops.Nodup
  stops : ∀ s ∈ t.net.lines[k].stops, 0 ≤ s ∧ s < (t.net.stops.length : Int)
  s0 : 0 ≤ x.start
  s1 : x.start ≤ 1799
  id1 : 1 ≤ x.id
  id2 : x.id ≤ 999
theorem ride_facts {t : TTD} (hg : TTGood t) (i : Nat) (hi : i < t.trips.length) : ∃ k, ∃ hk : k < t.net.lines.length, RideFacts t t.trips[i] k hk := by
  obtain ⟨k, hk, hkl, -⟩ := hg.line i hi
  have hst := hg.step i hi
  obtain ⟨hA, hB, hC, hD, hE⟩ := hg.1
  have hl := (hD _ (List.getElem_mem hkl)).2
  obtain ⟨⟨h1, h2, h3⟩, h4, h5, h6⟩ := hl
  have ht := hst.2.2.1.2.1
  exact ⟨k, hkl, hk, h3, h1, h2, h6, h5, h4, ht.1, ht.2, hst.1, hst.2.1⟩
theorem RideFacts.ride {t : TTD} {x : TripD} {k : Nat} {hk : k < t.net.lines.length} (h : RideFacts t x k hk) : rideOf t x = ⟨x.id, t.net.lines[k].stops, tk x.start t.net.lines[k].runs (t.net.lines[k].runs.length + 1)⟩ := by
  unfold rideOf; rw [lineOf_at h.line hk]
theorem sum_ge (xs : List Int) (h : ∀ r ∈ xs, 1 ≤ r) : 0 ≤ xs.sum := by
  induction xs with
  | nil => simp
  | cons x xs ih => have := ih (fun r hr => h r (by simp [hr])); have := h x (by simp); simp; omega
theorem sum_take_lt (xs : List Int) (h : ∀ r ∈ xs, 1 ≤ r) (i j : Nat) (hij : i < j) (hj : j ≤ xs.length) : (xs.take i).sum < (xs.take j).sum := by
  have e : xs.take j = xs.take i ++ (xs.drop i).take (j - i) := by
    rw [show j = i + (j - i) by omega, List.take_add]; simp
  rw [e, List.sum_append]
  have hl : ((xs.drop i).take (j - i)).length = j - i := by simp; omega
  cases hq : (xs.drop i).take (j - i) with
  | nil => rw [hq] at hl; simp at hl; omega
  | cons y ys =>
    have hm : ∀ r ∈ (y :: ys), 1 ≤ r := fun r hr => h r (List.mem_of_mem_drop (List.mem_of_mem_take (by rw [hq]; exact hr)))
    have := sum_ge ys (fun r hr => hm r (by simp [hr]))
    have := hm y (by simp)
    simp; omega
theorem RideFacts.ok {t : TTD} {x : TripD} {k : Nat} {hk : k < t.net.lines.length} (h : RideFacts t x k hk) : RideOk (rideOf t x) := by
  rw [h.ride]
  refine ⟨by simp [tk_len, h.lenr], h.nodup, fun i j hij hj => ?_⟩
  simp only [tk_len] at hj
  have e1 : (tk x.start t.net.lines[k].runs (t.net.lines[k].runs.length + 1))[i]? = _ := tk_get _ _ _ i (by omega)
  have e2 : (tk x.start t.net.lines[k].runs (t.net.lines[k].runs.length + 1))[j]? = _ := tk_get _ _ _ j (by omega)
  rw [List.getElem?_eq_getElem (by rw [tk_len]; omega)] at e1 e2
  rw [Option.some.inj e1, Option.some.inj e2]
  have := sum_take_lt t.net.lines[k].runs (fun r hr => (h.runs r hr).1) i j hij (by omega)
  omega
theorem RideFacts.time {t : TTD} {x : TripD} {k : Nat} {hk : k < t.net.lines.length} (h : RideFacts t x k hk) : ∀ y ∈ tk x.start t.net.lines[k].runs (t.net.lines[k].runs.length + 1), 0 ≤ y ∧ y ≤ 2400 := by
  intro y hy
  unfold tk at hy
  obtain ⟨p, hp, rfl⟩ := List.mem_map.1 hy
  have hb := sum_bound (t.net.lines[k].runs.take p) (fun x hx => h.runs x (List.mem_of_mem_take hx))
  have hl : (t.net.lines[k].runs.take p).length ≤ 6 := by have := h.len6; have := h.lenr; simp; omega
  have := h.s0; have := h.s1
  omega
theorem rides_ok {t : TTD} (hg : TTGood t) : RidesOk (rides t) := by
  constructor
  · intro r hr
    obtain ⟨x, hx, rfl⟩ := List.mem_map.1 hr
    obtain ⟨i, hi, rfl⟩ := List.getElem_of_mem hx
    obtain ⟨k, hk, h⟩ := ride_facts hg i hi
    exact h.ok
  · rw [List.pairwise_iff_getElem]
    intro i j hi hj hij
    rw [rides_at, rides_at]
    exact hg.asc i j hij (by rw [rides_len] at hj; exact hj)
theorem rides_in {t : TTD} (hg : TTGood t) : RidesIn t.net.stops.length (rides t) := by
  constructor
  · intro r hr
    obtain ⟨x, hx, rfl⟩ := List.mem_map.1 hr
    obtain ⟨i, hi, rfl⟩ := List.getElem_of_mem hx
    obtain ⟨k, hk, h⟩ := ride_facts hg i hi
    rw [h.ride]; exact h.stops
  · intro r hr
    obtain ⟨x, hx, rfl⟩ := List.mem_map.1 hr
    obtain ⟨i, hi, rfl⟩ := List.getElem_of_mem hx
    obtain ⟨k, hk, h⟩ := ride_facts hg i hi
    rw [h.ride]; exact h.time
theorem legs_bound {t : TTD} (hg : TTGood t) : ∀ l ∈ allLegs (rides t), (1 ≤ l.trip ∧ l.trip ≤ 999) ∧ (0 ≤ l.frm ∧ l.frm < (t.net.stops.length : Int)) ∧ (0 ≤ l.dst ∧ l.dst < (t.net.stops.length : Int)) ∧ (0 ≤ l.dep ∧ l.dep ≤ 2400) ∧ (0 ≤ l.arr ∧ l.arr ≤ 2400) ∧ l.dep < l.arr := by
  intro l hl
  have hlt := (rides_ok hg).leg_lt hl
  obtain ⟨r, hr, i, j, hij, hj, rfl⟩ := mem_allLegs.1 hl
  have hin := rides_in hg
  have hok := (rides_ok hg).each r hr
  refine ⟨?_, hin.stop r hr _ (getD_mem (by omega)), hin.stop r hr _ (getD_mem hj), hin.time r hr _ (getD_mem (by have := hok.len; omega)), hin.time r hr _ (getD_mem (by have := hok.len; omega)), hlt⟩
  obtain ⟨x, hx, rfl⟩ := List.mem_map.1 hr
  obtain ⟨q, hq, rfl⟩ := List.getElem_of_mem hx
  obtain ⟨k, hk, h⟩ := ride_facts hg q hq
  exact ⟨h.id1, h.id2⟩
theorem legsFrom_len (r : RideD) (i m : Nat) : (legsFrom r i m).length = m := by simp [legsFrom]
theorem rideLegs_len (r : RideD) (h : r.stops.length ≤ 6) : ∀ m, m ≤ r.stops.length → (legsTo r m).length ≤ 6 * m
  | 0, _ => by simp [legsTo]
  | m + 1, hm => by
    have := rideLegs_len r h m (by omega)
    rw [legsTo_succ, List.length_append, legsFrom_len]; omega
theorem allLegs_len {t : TTD} (hg : TTGood t) : ∀ k, k ≤ t.trips.length → (allLegs ((rides t).take k)).length ≤ 36 * k
  | 0, _ => by simp [allLegs]
  | k + 1, hk => by
    have ih := allLegs_len hg k (by omega)
    rw [allLegs_take_succ _ k (by rw [rides_len]; omega), List.length_append, rides_at]
    obtain ⟨q, hq, h⟩ := ride_facts hg k (by omega)
    have h6 : (rideOf t (t.trips[k]'(by omega))).stops.length ≤ 6 := by rw [h.ride]; exact h.len6
    have := rideLegs_len _ h6 _ (Nat.le_refl _)
    unfold rideLegs
    omega
theorem allLegs_len12 {t : TTD} (hg : TTGood t) : (allLegs (rides t)).length ≤ 432 := by
  have := allLegs_len hg t.trips.length (Nat.le_refl _)
  rw [List.take_of_length_le (by rw [rides_len]; omega)] at this
  have := hg.2.1
  omega
end Go.Proofs.Ytfgkfdkdjegaiaa
