/-
  JOINED TEXTS, each under its own namespace line: JrnTT, TripFind, HdrMap, LegMap, StopTimesOf, StepMap, LegsBy, L5Good, TripNumber.
-/
import Derived.Test.YtfgkfdkdjegaiaaJrnP
import Derived.Test.YtfgkfdkdjegaiaaMk21
import Derived.Test.YtfgkfdkdjegaiaaMk05
import Derived.WalkKit
import Derived.Maps.Own
import Derived.Maps.OwnSet
import Derived.Maps.Views
import Derived.Test.YtfgkfdkdjegaiaaMk15
import Derived.Test.YtfgkfdkdjegaiaaLegX
import Derived.Maps.AppendAt
import Derived.Laws.IdiomStrings
import Derived.Deep.Upon
import Derived.OrdersHeld
import Derived.Test.YtfgkfdkdjegaiaaMk03
import Derived.Deep.RegionHeld
namespace Go.Proofs.Ytfgkfdkdjegaiaa
open Go.RowKit Jrn
set_option linter.unusedVariables false

def lineOf (t : TTD) (x : TripD) : LineD := t.net.lines.getD x.line.toNat ⟨ByteArray.empty, [], []⟩
def rideOf (t : TTD) (x : TripD) : RideD := ⟨x.id, (lineOf t x).stops, tk x.start (lineOf t x).runs ((lineOf t x).runs.length + 1)⟩
def rides (t : TTD) : List RideD := t.trips.map (rideOf t)
theorem rides_len (t : TTD) : (rides t).length = t.trips.length := by simp [rides]
theorem rides_at (t : TTD) (i : Nat) (h : i < (rides t).length) : (rides t)[i] = rideOf t (t.trips[i]'(by rw [rides_len] at h; exact h)) := by simp [rides]
theorem lineOf_at {t : TTD} {x : TripD} {k : Nat} (hk : x.line = k) (h : k < t.net.lines.length) : lineOf t x = t.net.lines[k] := by
  unfold lineOf; rw [hk, Int.toNat_natCast, List.getD_eq_getElem?_getD, List.getElem?_eq_getElem h]; rfl
structure RideFacts (t : TTD) (x : TripD) (k : Nat) (hk : k < t.net.lines.length) : Prop where
  line : x.line = k
  lenr : t.net.lines[k].runs.length + 1 = t.net.lines[k].stops.length
  len2 : 2 ≤ t.net.lines[k].stops.length
  len6 : t.net.lines[k].stops.length ≤ 6
  runs : ∀ r ∈ t.net.lines[k].runs, 1 ≤ r ∧ r ≤ 60
  nodup : t.net.lines[k].stops.Nodup
  stops : ∀ s ∈ t.net.lines[k].stops, 0 ≤ s ∧ s < (t.net.stops.length : Int)
  s0 : 0 ≤ x.start
  s1 : x.start ≤ 1799
  id1 : 1 ≤ x.id
  id2 : x.id ≤ 999
theorem ride_facts {t : TTD} (hg : TTGood t) (i : Nat) (hi : i < t.trips.length) : ∃ k, ∃ hk : k < t.net.lines.length, RideFacts t t.trips[i] k hk := by
  obtain ⟨k, hk, hkl, -⟩ := hg.line i hi
  have hst := hg.step i hi
  obtain ⟨hA, hB, hC, hD, hE⟩ := hg.1
  have hl := (hD _ (List.getElem_mem hkl)).2
  obtain ⟨⟨h1, h2, h3⟩, h4, h5, h6⟩ := hl
  have ht := hst.2.2.1.2.1
  exact ⟨k, hkl, hk, h3, h1, h2, h6, h5, h4, ht.1, ht.2, hst.1, hst.2.1⟩
theorem RideFacts.ride {t : TTD} {x : TripD} {k : Nat} {hk : k < t.net.lines.length} (h : RideFacts t x k hk) : rideOf t x = ⟨x.id, t.net.lines[k].stops, tk x.start t.net.lines[k].runs (t.net.lines[k].runs.length + 1)⟩ := by
  unfold rideOf; rw [lineOf_at h.line hk]
theorem sum_ge (xs : List Int) (h : ∀ r ∈ xs, 1 ≤ r) : 0 ≤ xs.sum := by
  induction xs with
  | nil => simp
  | cons x xs ih => have := ih (fun r hr => h r (by simp [hr])); have := h x (by simp); simp; omega
theorem sum_take_lt (xs : List Int) (h : ∀ r ∈ xs, 1 ≤ r) (i j : Nat) (hij : i < j) (hj : j ≤ xs.length) : (xs.take i).sum < (xs.take j).sum := by
  have e : xs.take j = xs.take i ++ (xs.drop i).take (j - i) := by
    rw [show j = i + (j - i) by omega, List.take_add]; simp
  rw [e, List.sum_append]
  have hl : ((xs.drop i).take (j - i)).length = j - i := by simp; omega
  cases hq : (xs.drop i).take (j - i) with
  | nil => rw [hq] at hl; simp at hl; omega
  | cons y ys =>
    have hm : ∀ r ∈ (y :: ys), 1 ≤ r := fun r hr => h r (List.mem_of_mem_drop (List.mem_of_mem_take (by rw [hq]; exact hr)))
    have := sum_ge ys (fun r hr => hm r (by simp [hr]))
    have := hm y (by simp)
    simp; omega
theorem RideFacts.ok {t : TTD} {x : TripD} {k : Nat} {hk : k < t.net.lines.length} (h : RideFacts t x k hk) : RideOk (rideOf t x) := by
  rw [h.ride]
  refine ⟨by simp [tk_len, h.lenr], h.nodup, fun i j hij hj => ?_⟩
  simp only [tk_len] at hj
  have e1 : (tk x.start t.net.lines[k].runs (t.net.lines[k].runs.length + 1))[i]? = _ := tk_get _ _ _ i (by omega)
  have e2 : (tk x.start t.net.lines[k].runs (t.net.lines[k].runs.length + 1))[j]? = _ := tk_get _ _ _ j (by omega)
  rw [List.getElem?_eq_getElem (by rw [tk_len]; omega)] at e1 e2
  rw [Option.some.inj e1, Option.some.inj e2]
  have := sum_take_lt t.net.lines[k].runs (fun r hr => (h.runs r hr).1) i j hij (by omega)
  omega
theorem RideFacts.time {t : TTD} {x : TripD} {k : Nat} {hk : k < t.net.lines.length} (h : RideFacts t x k hk) : ∀ y ∈ tk x.start t.net.lines[k].runs (t.net.lines[k].runs.length + 1), 0 ≤ y ∧ y ≤ 2400 := by
  intro y hy
  unfold tk at hy
  obtain ⟨p, hp, rfl⟩ := List.mem_map.1 hy
  have hb := sum_bound (t.net.lines[k].runs.take p) (fun x hx => h.runs x (List.mem_of_mem_take hx))
  have hl : (t.net.lines[k].runs.take p).length ≤ 6 := by have := h.len6; have := h.lenr; simp; omega
  have := h.s0; have := h.s1
  omega
theorem rides_ok {t : TTD} (hg : TTGood t) : RidesOk (rides t) := by
  constructor
  · intro r hr
    obtain ⟨x, hx, rfl⟩ := List.mem_map.1 hr
    obtain ⟨i, hi, rfl⟩ := List.getElem_of_mem hx
    obtain ⟨k, hk, h⟩ := ride_facts hg i hi
    exact h.ok
  · rw [List.pairwise_iff_getElem]
    intro i j hi hj hij
    rw [rides_at, rides_at]
    exact hg.asc i j hij (by rw [rides_len] at hj; exact hj)
theorem rides_in {t : TTD} (hg : TTGood t) : RidesIn t.net.stops.length (rides t) := by
  constructor
  · intro r hr
    obtain ⟨x, hx, rfl⟩ := List.mem_map.1 hr
    obtain ⟨i, hi, rfl⟩ := List.getElem_of_mem hx
    obtain ⟨k, hk, h⟩ := ride_facts hg i hi
    rw [h.ride]; exact h.stops
  · intro r hr
    obtain ⟨x, hx, rfl⟩ := List.mem_map.1 hr
    obtain ⟨i, hi, rfl⟩ := List.getElem_of_mem hx
    obtain ⟨k, hk, h⟩ := ride_facts hg i hi
    rw [h.ride]; exact h.time
theorem legs_bound {t : TTD} (hg : TTGood t) : ∀ l ∈ allLegs (rides t), (1 ≤ l.trip ∧ l.trip ≤ 999) ∧ (0 ≤ l.frm ∧ l.frm < (t.net.stops.length : Int)) ∧ (0 ≤ l.dst ∧ l.dst < (t.net.stops.length : Int)) ∧ (0 ≤ l.dep ∧ l.dep ≤ 2400) ∧ (0 ≤ l.arr ∧ l.arr ≤ 2400) ∧ l.dep < l.arr := by
  intro l hl
  have hlt := (rides_ok hg).leg_lt hl
  obtain ⟨r, hr, i, j, hij, hj, rfl⟩ := mem_allLegs.1 hl
  have hin := rides_in hg
  have hok := (rides_ok hg).each r hr
  refine ⟨?_, hin.stop r hr _ (getD_mem (by omega)), hin.stop r hr _ (getD_mem hj), hin.time r hr _ (getD_mem (by have := hok.len; omega)), hin.time r hr _ (getD_mem (by have := hok.len; omega)), hlt⟩
  obtain ⟨x, hx, rfl⟩ := List.mem_map.1 hr
  obtain ⟨q, hq, rfl⟩ := List.getElem_of_mem hx
  obtain ⟨k, hk, h⟩ := ride_facts hg q hq
  exact ⟨h.id1, h.id2⟩
theorem legsFrom_len (r : RideD) (i m : Nat) : (legsFrom r i m).length = m := by simp [legsFrom]
theorem rideLegs_len (r : RideD) (h : r.stops.length ≤ 6) : ∀ m, m ≤ r.stops.length → (legsTo r m).length ≤ 6 * m
  | 0, _ => by simp [legsTo]
  | m + 1, hm => by
    have := rideLegs_len r h m (by omega)
    rw [legsTo_succ, List.length_append, legsFrom_len]; omega
theorem allLegs_len {t : TTD} (hg : TTGood t) : ∀ k, k ≤ t.trips.length → (allLegs ((rides t).take k)).length ≤ 36 * k
  | 0, _ => by simp [allLegs]
  | k + 1, hk => by
    have ih := allLegs_len hg k (by omega)
    rw [allLegs_take_succ _ k (by rw [rides_len]; omega), List.length_append, rides_at]
    obtain ⟨q, hq, h⟩ := ride_facts hg k (by omega)
    have h6 : (rideOf t (t.trips[k]'(by omega))).stops.length ≤ 6 := by rw [h.ride]; exact h.len6
    have := rideLegs_len _ h6 _ (Nat.le_refl _)
    unfold rideLegs
    omega
theorem allLegs_len12 {t : TTD} (hg : TTGood t) : (allLegs (rides t)).length ≤ 432 := by
  have := allLegs_len hg t.trips.length (Nat.le_refl _)
  rw [List.take_of_length_le (by rw [rides_len]; omega)] at this
  have := hg.2.1
  omega
end Go.Proofs.Ytfgkfdkdjegaiaa

namespace Go.Proofs.Ytfgkfdkdjegaiaa
open Go.RowKit
set_option linter.unusedVariables false

/-- how many trips ahead have a smaller Id -/
def placeOf (id : Int) : List TripD → Nat
  | [] => 0
  | x :: xs => if x.id < id then placeOf id xs + 1 else 0
theorem placeOf_le (id : Int) : ∀ xs, placeOf id xs ≤ xs.length
  | [] => Nat.le_refl _
  | x :: xs => by unfold placeOf; split <;> simp; exact placeOf_le id xs
theorem placeOf_lt (id : Int) : ∀ (xs : List TripD) (j : Nat) (h : j < xs.length), j < placeOf id xs → (xs[j]).id < id
  | [], j, h, _ => by simp at h
  | x :: xs, j, h, hj => by
    unfold placeOf at hj
    split at hj
    · cases j with
      | zero => simpa using (by assumption : x.id < id)
      | succ j => simpa using placeOf_lt id xs j (by simpa using h) (by omega)
    · omega
theorem placeOf_ge (id : Int) : ∀ (xs : List TripD) (h : placeOf id xs < xs.length), ¬ (xs[placeOf id xs]).id < id
  | [], h => by simp at h
  | x :: xs, h => by
    by_cases hy : x.id < id
    · have e : placeOf id (x :: xs) = placeOf id xs + 1 := by simp [placeOf, hy]
      have h' : placeOf id xs < xs.length := by rw [e] at h; simpa using h
      have := placeOf_ge id xs h'
      simp only [e]; simpa using this
    · have e : placeOf id (x :: xs) = 0 := by simp [placeOf, hy]
      simp only [e]; simpa using hy
def Asc (xs : List TripD) : Prop := ∀ i j (hij : i < j) (hj : j < xs.length), (xs[i]'(by omega)).id < (xs[j]'hj).id
def foundB (id : Int) (xs : List TripD) : Bool := (xs[placeOf id xs]?).any (fun x => x.id == id)
theorem foundB_at {id : Int} {xs : List TripD} (h : placeOf id xs < xs.length) : foundB id xs = decide ((xs[placeOf id xs]'h).id = id) := by
  unfold foundB; rw [List.getElem?_eq_getElem h, Option.any_some, Bool.eq_iff_iff]; simp
theorem foundB_end {id : Int} {xs : List TripD} (h : ¬ placeOf id xs < xs.length) : foundB id xs = false := by
  unfold foundB; rw [List.getElem?_eq_none (by omega)]; rfl
theorem place_gt {id : Int} {xs : List TripD} (ha : Asc xs) {h : Nat} (hh : h < xs.length) (hlt : (xs[h]).id < id) : h < placeOf id xs := by
  by_cases hp : placeOf id xs ≤ h
  · exfalso
    have hpl : placeOf id xs < xs.length := by omega
    have h1 := placeOf_ge id xs hpl
    by_cases e : placeOf id xs = h
    · subst e; exact h1 hlt
    · have := ha (placeOf id xs) h (by omega) hh; omega
  · omega
/-- the first place of an Id, or -1 -/
def findI (id : Int) (xs : List TripD) : Int := fstIdx id (xs.map (fun x => x.id))
theorem findI_found {id : Int} {xs : List TripD} (ha : Asc xs) (h : foundB id xs = true) : findI id xs = placeOf id xs ∧ placeOf id xs < xs.length := by
  by_cases hp : placeOf id xs < xs.length
  · rw [foundB_at hp] at h
    have h := of_decide_eq_true h
    refine ⟨?_, hp⟩
    refine fstIdx_hit _ (by simpa using hp) (by simpa using h) (fun hm => ?_)
    obtain ⟨j, hj, hx⟩ := List.mem_take_iff_getElem.1 hm
    simp at hx hj
    have := placeOf_lt id xs j (by omega) (by omega)
    omega
  · rw [foundB_end hp] at h; cases h
theorem findI_none {id : Int} {xs : List TripD} (ha : Asc xs) (h : foundB id xs = false) : findI id xs = -1 := by
  refine fstIdx_none (fun hm => ?_)
  obtain ⟨x, hx, he⟩ := List.mem_map.1 hm
  obtain ⟨j, hj, rfl⟩ := List.getElem_of_mem hx
  have h1 : ¬ j < placeOf id xs := fun hlt => by have := placeOf_lt id xs j hj hlt; omega
  have hp : placeOf id xs < xs.length := by omega
  rw [foundB_at hp] at h
  have h2 := placeOf_ge id xs hp
  by_cases e : placeOf id xs = j
  · subst e; simp [he] at h
  · have := ha (placeOf id xs) j (by omega) hj; omega

/-! the program's binary search -/
end Go.Proofs.Ytfgkfdkdjegaiaa

namespace Go.Proofs.Ytfgkfdkdjegaiaa
open Go.RowKit Go.Maps
set_option linter.unusedVariables false

def hdrR (v : Value) : Option (DataW Value × List MemPlace) := some (.held v, [])
/-- block b is a map of at most n entries: the key kl is there if p says so, and what stands there is f kl (z: the zero value) -/
def HdrMap (P : Program) (k : TypeId) (z : Value) (b n : Nat) (f : Lit → Value) (p : Lit → Bool) (w : World) : Prop :=
  ∃ D : DataW Value, w.ownsMap P k hdrR b n D ∧ IsMap D ∧ (∀ kl, D.atKey kl (.held z) = .held (f kl)) ∧ ∀ kl, has D kl = p kl
open Classical in
noncomputable def updF (f : Lit → Value) (kl : Lit) (v : Value) (x : Lit) : Value := if x = kl then v else f x
open Classical in
noncomputable def updP (p : Lit → Bool) (kl : Lit) (x : Lit) : Bool := if x = kl then true else p x
theorem updF_same (f : Lit → Value) (kl : Lit) (v : Value) : updF f kl v kl = v := if_pos rfl
theorem updF_other (f : Lit → Value) {kl x : Lit} (v : Value) (h : x ≠ kl) : updF f kl v x = f x := if_neg h
theorem updP_same (p : Lit → Bool) (kl : Lit) : updP p kl kl = true := if_pos rfl
theorem updP_other (p : Lit → Bool) {kl x : Lit} (h : x ≠ kl) : updP p kl x = p x := if_neg h
section
variable {P : Program} {k e t : TypeId} {z : Value} {b n : Nat} {f : Lit → Value} {p : Lit → Bool} {w : World}
theorem HdrMap.made (w : World) (P : Program) (k : TypeId) (z : Value) : HdrMap P k z w.heap.size 0 (fun _ => z) (fun _ => false) (w.alloc (.map #[] 0)) :=
  ⟨.map [], World.ownsMap_made w P k _, isMap_empty, fun x => by simp [DataW.atKey], fun x => by simp [has]⟩
theorem HdrMap.lt (h : HdrMap P k z b n f p w) : b < w.heap.size := by obtain ⟨_, h, _⟩ := h; exact h.lt
theorem HdrMap.block {w' : World} (h : HdrMap P k z b n f p w) (hb : w'.heap[b]? = w.heap[b]?) : HdrMap P k z b n f p w' := by
  obtain ⟨D, ⟨es, cl, g1, g2, g3, g4⟩, h2, h3⟩ := h; exact ⟨D, ⟨es, cl, hb.trans g1, g2, g3, g4⟩, h2, h3⟩
theorem HdrMap.kept {w' : World} {row : Option Nat} (h : HdrMap P k z b n f p w) (hg : w.grownBy w' row) (hne : some b ≠ row) : HdrMap P k z b n f p w' := h.block (hg.block b h.lt hne)
theorem HdrMap.later {w' : World} (h : HdrMap P k z b n f p w) (hb : Below w.heap.size w w') : HdrMap P k z b n f p w' := h.block (hb.block b h.lt)
theorem HdrMap.setCell (h : HdrMap P k z b n f p w) {a : Addr} (ha : b ≠ a.block) (u : Value) : HdrMap P k z b n f p (w.setCell a u) := by
  obtain ⟨D, h1, h2⟩ := h; exact ⟨D, h1.setCell ha u, h2⟩
theorem HdrMap.look (h : HdrMap P k z b n f p w) (K : Keyed P k) (ht : P.underlying t = some (.map k e)) (hz : ∀ w, (zeroValue e).run P w = .ok z w) {key : Value} {kl : Lit} (hkey : keyOf P k key = some kl) :
    (Instr.lookup t (.map (some b)) key false).run P w = .ok (f kl) w := by
  obtain ⟨D, h1, _, h3, _⟩ := h
  obtain ⟨v, ps, hrun, hv⟩ := h1.lookup K ht (hz w) (zd := .held z) (zp := []) rfl hkey
  rw [h3] at hv
  simp [hdrR] at hv
  rw [hrun, hv.1]
theorem HdrMap.lookOk (h : HdrMap P k z b n f p w) (K : Keyed P k) (ht : P.underlying t = some (.map k e)) (hz : ∀ w, (zeroValue e).run P w = .ok z w) {key : Value} {kl : Lit} (hkey : keyOf P k key = some kl) :
    (Instr.lookup t (.map (some b)) key true).run P w = .ok (.tuple #[f kl, .bool (p kl)]) w := by
  obtain ⟨D, h1, _, h3, h4⟩ := h
  obtain ⟨v, ps, hrun, hv⟩ := h1.look_ok K ht (hz w) (zd := .held z) (zp := []) rfl hkey
  rw [h3] at hv
  simp [hdrR] at hv
  rw [hrun, hv.1, h4]
theorem HdrMap.put (h : HdrMap P k z b n f p w) (K : Keyed P k) (ht : P.underlying t = some (.map k e)) (hn : n < maxLen) {key v : Value} {kl : Lit} (hkey : keyOf P k key = some kl) :
    ∃ w', (Instr.mapUpdate t (.map (some b)) key v).run P w = .ok () w' ∧ HdrMap P k z b (n + 1) (updF f kl v) (updP p kl) w' ∧ w.grownBy w' (some b) := by
  obtain ⟨D, h1, h2, h3, h4⟩ := h
  obtain ⟨w', hrun, hown, hg⟩ := h1.update K ht hn hkey (d := .held v) (ps := []) rfl
  refine ⟨w', hrun, ⟨_, hown, h2.put _ _, fun y => ?_, fun y => ?_⟩, hg⟩
  · by_cases hxy : y = kl
    · subst hxy
      rw [atKey_put_same h2 (K.key hkey), updF_same]
    · rw [atKey_put_other hxy, h3, updF_other f v hxy]
  · by_cases hxy : y = kl
    · subst hxy
      rw [has_put_same h2 (K.key hkey), updP_same]
    · rw [has_put_other hxy, h4, updP_other p hxy]
end
end Go.Proofs.Ytfgkfdkdjegaiaa

namespace Go.Proofs.Ytfgkfdkdjegaiaa
open Go.RowKit Go.Maps
set_option linter.unusedVariables false

def legsAt (L : List LegD) (s : Int) : List LegD := L.filter (fun l => l.frm = s)
theorem legsAt_snoc (L : List LegD) (l : LegD) (s : Int) : legsAt (L ++ [l]) s = if l.frm = s then legsAt L s ++ [l] else legsAt L s := by
  unfold legsAt
  rw [List.filter_append]
  by_cases h : l.frm = s <;> simp [h]
theorem legsAt_len (L : List LegD) (s : Int) : (legsAt L s).length ≤ L.length := List.length_filter_le _ _
end Go.Proofs.Ytfgkfdkdjegaiaa

namespace Go.Proofs.Ytfgkfdkdjegaiaa
open Go.RowKit
set_option linter.unusedVariables false

end Go.Proofs.Ytfgkfdkdjegaiaa

namespace Go.Proofs.Ytfgkfdkdjegaiaa
open Go.RowKit
set_option linter.unusedVariables false

theorem step_lookup_run {P : Program} {ops : Array Oper} {o : Oper} {a : Act} {K : Act → World → Prop} {Q : Exit → Act → World → Prop} {E : Prop} {w w' : World} {mv kv v' : Value} {ok : Bool} (hgd : o.guard = none) (m x : Operand) (t : TypeId)
    (ho : o.op = .lookup t m x ok) (hm : a.eval m = mv) (hx : a.eval x = kv) (hr : (Instr.lookup t mv kv ok).run P w = .ok v' w') (h : K (a.put o.dst v') w') :
    if Region.wanted o (yielded ops a.tmps) = true then Oper.wp P o a w K Q else E := by
  have hw : Region.wanted o (yielded ops a.tmps) = true := by simp [Region.wanted, hgd]
  rw [if_pos hw]
  unfold Oper.wp
  simp [execOp, ho, hm, hx, hr, Result.andThen]
  exact h
theorem step_mapUpdate_run {P : Program} {ops : Array Oper} {o : Oper} {a : Act} {K : Act → World → Prop} {Q : Exit → Act → World → Prop} {E : Prop} {w w' : World} {mv kv vv : Value} (hgd : o.guard = none) (m x v : Operand) (t : TypeId)
    (ho : o.op = .mapUpdate t m x v) (hm : a.eval m = mv) (hx : a.eval x = kv) (hv : a.eval v = vv) (hr : (Instr.mapUpdate t mv kv vv).run P w = .ok () w') (h : K (a.put o.dst undef) w') :
    if Region.wanted o (yielded ops a.tmps) = true then Oper.wp P o a w K Q else E := by
  have hw : Region.wanted o (yielded ops a.tmps) = true := by simp [Region.wanted, hgd]
  rw [if_pos hw]
  unfold Oper.wp
  simp [execOp, ho, hm, hx, hv, hr, Result.andThen]
  exact h
end Go.Proofs.Ytfgkfdkdjegaiaa

namespace Go.Proofs.Ytfgkfdkdjegaiaa
open Go.RowKit Go.Maps Jrn
set_option linter.unusedVariables false
set_option linter.unusedSimpArgs false

theorem wfI {a : Int} (h0 : 0 ≤ a) (h1 : a ≤ 1000000) : (Lit.int .i64 a).wf = true := by
  simp [Lit.wf, IntKind.bits, IntKind.signed, IntKind.min, IntKind.max]
  omega
theorem ownI_at {B : Nat} {w : World} {a : Option Addr} {c n : Nat} {R : List Int} (h : w.ownsRow B 3 1 (.slice a n c) n (ints R)) (hn : 0 < n) (hR : R.length = n) :
    ∃ g, a = some ⟨g, 0, none⟩ ∧ B ≤ g ∧ g < w.heap.size ∧ ∀ k, k < n → w.cell? ⟨g, k, none⟩ = some (.int .i64 (R.getD k 0)) := by
  obtain ⟨g, rfl⟩ : ∃ g, a = some ⟨g, 0, none⟩ := by
    obtain ⟨_, h2⟩ := h
    rcases h2 with ⟨hv, h0⟩ | ⟨g, cap, cur, hv, hg, hblk, h3, h4, h5, h6⟩
    · omega
    · simp at hv; exact ⟨g, hv.1⟩
  refine ⟨g, rfl, (h.lt g rfl).1, (h.lt g rfl).2, fun k hk => ?_⟩
  rw [h.cellAt k (by omega)]
  unfold ints
  rw [List.getElem?_map, List.getElem?_eq_getElem (by omega), List.getD_eq_getElem?_getD, List.getElem?_eq_getElem (by omega)]
  rfl
theorem rowI_at {w : World} {a : Option Addr} {c : Nat} {R : List Int} (h : RowAt w (.slice a R.length c) (ints R)) (hn : 0 < R.length) :
    ∃ g q, a = some ⟨g, q, none⟩ ∧ g < w.heap.size ∧ ∀ k, k < R.length → w.cell? ⟨g, q + k, none⟩ = some (.int .i64 (R.getD k 0)) := by
  obtain ⟨a', c', he, _, _, HC⟩ := ints_open h
  simp at he
  obtain ⟨rfl, rfl⟩ := he
  obtain ⟨g, q, rfl, hg, _⟩ := HC.out 0 hn
  refine ⟨g, q, rfl, hg, fun k hk => ?_⟩
  obtain ⟨g', q', he, _, h2⟩ := HC.out k hk
  simp at he
  obtain ⟨rfl, rfl⟩ := he
  rw [h2, List.getD_eq_getElem?_getD, List.getElem?_eq_getElem hk]
  rfl

end Go.Proofs.Ytfgkfdkdjegaiaa

namespace Go.Proofs.Ytfgkfdkdjegaiaa
open Go.RowKit
set_option linter.unusedVariables false

theorem keep8 {W w w' : World} {p0 p1 p2 p3 p4 p5 p6 : Addr} {x0 x1 x2 x3 x4 x5 x6 : Value} (hb : Below w.heap.size w w')
    (h : w.cell? p0 = some x0 ∧ w.cell? p1 = some x1 ∧ w.cell? p2 = some x2 ∧ w.cell? p3 = some x3 ∧ w.cell? p4 = some x4 ∧ w.cell? p5 = some x5 ∧ w.cell? p6 = some x6 ∧ Below W.heap.size W w) :
    w'.cell? p0 = some x0 ∧ w'.cell? p1 = some x1 ∧ w'.cell? p2 = some x2 ∧ w'.cell? p3 = some x3 ∧ w'.cell? p4 = some x4 ∧ w'.cell? p5 = some x5 ∧ w'.cell? p6 = some x6 ∧ Below W.heap.size W w' := by
  obtain ⟨h0, h1, h2, h3, h4, h5, h6, hl⟩ := h
  exact ⟨bkeep hb h0, bkeep hb h1, bkeep hb h2, bkeep hb h3, bkeep hb h4, bkeep hb h5, bkeep hb h6, hl.trans (hb.mono hl.size)⟩
theorem bel8 {W w : World} {p0 p1 p2 p3 p4 p5 p6 : Addr} {x0 x1 x2 x3 x4 x5 x6 : Value}
    (h : w.cell? p0 = some x0 ∧ w.cell? p1 = some x1 ∧ w.cell? p2 = some x2 ∧ w.cell? p3 = some x3 ∧ w.cell? p4 = some x4 ∧ w.cell? p5 = some x5 ∧ w.cell? p6 = some x6 ∧ Below W.heap.size W w) : Below W.heap.size W w := h.2.2.2.2.2.2.2
theorem belQ {Q : Program} {f : FuncId} {args : Array Value} {w : World} {v : Value} (h : Calls Q f args w fun e w' => e = .returned v ∧ w = w') : Calls Q f args w fun e w' => e = .returned v ∧ Below w.heap.size w w' :=
  h.mono fun _ _ ⟨he, hw⟩ => ⟨he, by subst hw; exact Below.refl _ _⟩
theorem prev_lt {t : TTD} {k : Nat} {hk : k < t.trips.length} (h : TripStep t k hk) (j : Nat) (hj : j + 1 = k) (hjl : j < t.trips.length) : (t.trips[j]'hjl).id < (t.trips[k]'hk).id := h.2.2.2 j hj

end Go.Proofs.Ytfgkfdkdjegaiaa

namespace Go.Proofs.Ytfgkfdkdjegaiaa
open Go.RowKit
set_option linter.unusedVariables false

theorem TTGood.Asc {t : TTD} (h : TTGood t) : Asc t.trips := fun i j hij hj => h.asc i j hij hj
/-- the trip's place and whether there is one -/
noncomputable def numF (t : TTD) (id : Int) : Int × Bool := if TTGood t ∧ foundB id t.trips = true then ((placeOf id t.trips : Int), true) else (0, false)

end Go.Proofs.Ytfgkfdkdjegaiaa
