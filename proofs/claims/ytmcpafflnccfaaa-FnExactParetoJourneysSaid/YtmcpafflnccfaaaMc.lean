/-
  JOINED TEXTS, each under its own namespace line: JrnTT, ParetoP, DfsP.
-/
import Derived.Test.YtmcpafflnccfaaaJrnP
import Derived.Test.YtmcpafflnccfaaaTk
namespace Go.Proofs.Ytmcpafflnccfaaa
open Go.RowKit Jrn
set_option linter.unusedVariables false

def lineOf (t : TTD) (x : TripD) : LineD := t.net.lines.getD x.line.toNat ⟨ByteArray.empty, [], []⟩
def rideOf (t : TTD) (x : TripD) : RideD := ⟨x.id, (lineOf t x).stops, tk x.start (lineOf t x).runs ((lineOf t x).runs.length + 1)⟩
def rides (t : TTD) : List RideD := t.trips.map (rideOf t)
theorem rides_len (t : TTD) : (rides t).length = t.trips.length := by simp [rides]
theorem rides_at (t : TTD) (i : Nat) (h : i < (rides t).length) : (rides t)[i] = rideOf t (t.trips[i]'(by rw [rides_len] at h; exact h)) := by simp [rides]
theorem lineOf_at {t : TTD} {x : TripD} {k : Nat} (hk : x.line = k) (h : k < t.net.lines.length) : lineOf t x = t.net.lines[k] := by
  unfold lineOf; rw [hk, Int.toNat_natCast, List.getD_eq_getElem?_getD, List.getElem?_eq_getElem h]; rfl
structure RideFacts (t : TTD) (x : TripD) (k : Nat) (hk : k < t.net.lines.length) : Prop where
  line : x.line = k
  lenr : t.net.lines[k].runs.length + 1 = t.net.lines[k].stops.length
  len2 : 2 ≤ t.net.lines[k].stops.length
  len6 : t.net.lines[k].stops.length ≤ 6
  runs : ∀ r ∈ t.net.lines[k].runs, 1 ≤ r ∧ r ≤ 60
  nodup : t.net.lines[k].stops.Nodup
  stops : ∀ s ∈ t.net.lines[k].stops, 0 ≤ s ∧ s < (t.net.stops.length : Int)
  s0 : 0 ≤ x.start
  s1 : x.start ≤ 1799
  id1 : 1 ≤ x.id
  id2 : x.id ≤ 999
theorem ride_facts {t : TTD} (hg : TTGood t) (i : Nat) (hi : i < t.trips.length) : ∃ k, ∃ hk : k < t.net.lines.length, RideFacts t t.trips[i] k hk := by
  obtain ⟨k, hk, hkl, -⟩ := hg.line i hi
  have hst := hg.step i hi
  obtain ⟨hA, hB, hC, hD, hE⟩ := hg.1
  have hl := (hD _ (List.getElem_mem hkl)).2
  obtain ⟨⟨h1, h2, h3⟩, h4, h5, h6⟩ := hl
  have ht := hst.2.2.1.2.1
  exact ⟨k, hkl, hk, h3, h1, h2, h6, h5, h4, ht.1, ht.2, hst.1, hst.2.1⟩
theorem RideFacts.ride {t : TTD} {x : TripD} {k : Nat} {hk : k < t.net.lines.length} (h : RideFacts t x k hk) : rideOf t x = ⟨x.id, t.net.lines[k].stops, tk x.start t.net.lines[k].runs (t.net.lines[k].runs.length + 1)⟩ := by
  unfold rideOf; rw [lineOf_at h.line hk]
theorem sum_ge (xs : List Int) (h : ∀ r ∈ xs, 1 ≤ r) : 0 ≤ xs.sum := by
  induction xs with
  | nil => simp
  | cons x xs ih => have := ih (fun r hr => h r (by simp [hr])); have := h x (by simp); simp; omega
theorem sum_take_lt (xs : List Int) (h : ∀ r ∈ xs, 1 ≤ r) (i j : Nat) (hij : i < j) (hj : j ≤ xs.length) : (xs.take i).sum < (xs.take j).sum := by
  have e : xs.take j = xs.take i ++ (xs.drop i).take (j - i) := by
    rw [show j = i + (j - i) by omega, List.take_add]; simp
  rw [e, List.sum_append]
  have hl : ((xs.drop i).take (j - i)).length = j - i := by simp; omega
  cases hq : (xs.drop i).take (j - i) with
  | nil => rw [hq] at hl; simp at hl; omega
  | cons y ys =>
    have hm : ∀ r ∈ (y :: ys), 1 ≤ r := fun r hr => h r (List.mem_of_mem_drop (List.mem_of_mem_take (by rw [hq]; exact hr)))
    have := sum_ge ys (fun r hr => hm r (by simp [hr]))
    have := hm y (by simp)
    simp; omega
theorem RideFacts.ok {t : TTD} {x : TripD} {k : Nat} {hk : k < t.net.lines.length} (h : RideFacts t x k hk) : RideOk (rideOf t x) := by
  rw [h.ride]
  refine ⟨by simp [tk_len, h.lenr], h.nodup, fun i j hij hj => ?_⟩
  simp only [tk_len] at hj
  have e1 : (tk x.start t.net.lines[k].runs (t.net.lines[k].runs.length + 1))[i]? = _ := tk_get _ _ _ i (by omega)
  have e2 : (tk x.start t.net.lines[k].runs (t.net.lines[k].runs.length + 1))[j]? = _ := tk_get _ _ _ j (by omega)
  rw [List.getElem?_eq_getElem (by rw [tk_len]; omega)] at e1 e2
  rw [Option.some.inj e1, Option.some.inj e2]
  have := sum_take_lt t.net.lines[k].runs (fun r hr => (h.runs r hr).1) i j hij (by omega)
  omega
theorem RideFacts.time {t : TTD} {x : TripD} {k : Nat} {hk : k < t.net.lines.length} (h : RideFacts t x k hk) : ∀ y ∈ tk x.start t.net.lines[k].runs (t.net.lines[k].runs.length + 1), 0 ≤ y ∧ y ≤ 2400 := by
  intro y hy
  unfold tk at hy
  obtain ⟨p, hp, rfl⟩ := List.mem_map.1 hy
  have hb := sum_bound (t.net.lines[k].runs.take p) (fun x hx => h.runs x (List.mem_of_mem_take hx))
  have hl : (t.net.lines[k].runs.take p).length ≤ 6 := by have := h.len6; have := h.lenr; simp; omega
  have := h.s0; have := h.s1
  omega
theorem rides_ok {t : TTD} (hg : TTGood t) : RidesOk (rides t) := by
  constructor
  · intro r hr
    obtain ⟨x, hx, rfl⟩ := List.mem_map.1 hr
    obtain ⟨i, hi, rfl⟩ := List.getElem_of_mem hx
    obtain ⟨k, hk, h⟩ := ride_facts hg i hi
    exact h.ok
  · rw [List.pairwise_iff_getElem]
    intro i j hi hj hij
    rw [rides_at, rides_at]
    exact hg.asc i j hij (by rw [rides_len] at hj; exact hj)
theorem rides_in {t : TTD} (hg : TTGood t) : RidesIn t.net.stops.length (rides t) := by
  constructor
  · intro r hr
    obtain ⟨x, hx, rfl⟩ := List.mem_map.1 hr
    obtain ⟨i, hi, rfl⟩ := List.getElem_of_mem hx
    obtain ⟨k, hk, h⟩ := ride_facts hg i hi
    rw [h.ride]; exact h.stops
  · intro r hr
    obtain ⟨x, hx, rfl⟩ := List.mem_map.1 hr
    obtain ⟨i, hi, rfl⟩ := List.getElem_of_mem hx
    obtain ⟨k, hk, h⟩ := ride_facts hg i hi
    rw [h.ride]; exact h.time
theorem legs_bound {t : TTD} (hg : TTGood t) : ∀ l ∈ allLegs (rides t), (1 ≤ l.trip ∧ l.trip ≤ 999) ∧ (0 ≤ l.frm ∧ l.frm < (t.net.stops.length : Int)) ∧ (0 ≤ l.dst ∧ l.dst < (t.net.stops.length : Int)) ∧ (0 ≤ l.dep ∧ l.dep ≤ 2400) ∧ (0 ≤ l.arr ∧ l.arr ≤ 2400) ∧ l.dep < l.arr := by
  intro l hl
  have hlt := (rides_ok hg).leg_lt hl
  obtain ⟨r, hr, i, j, hij, hj, rfl⟩ := mem_allLegs.1 hl
  have hin := rides_in hg
  have hok := (rides_ok hg).each r hr
  refine ⟨?_, hin.stop r hr _ (getD_mem (by omega)), hin.stop r hr _ (getD_mem hj), hin.time r hr _ (getD_mem (by have := hok.len; omega)), hin.time r hr _ (getD_mem (by have := hok.len; omega)), hlt⟩
  obtain ⟨x, hx, rfl⟩ := List.mem_map.1 hr
  obtain ⟨q, hq, rfl⟩ := List.getElem_of_mem hx
  obtain ⟨k, hk, h⟩ := ride_facts hg q hq
  exact ⟨h.id1, h.id2⟩
theorem legsFrom_len (r : RideD) (i m : Nat) : (legsFrom r i m).length = m := by simp [legsFrom]
theorem rideLegs_len (r : RideD) (h : r.stops.length ≤ 6) : ∀ m, m ≤ r.stops.length → (legsTo r m).length ≤ 6 * m
  | 0, _ => by simp [legsTo]
  | m + 1, hm => by
    have := rideLegs_len r h m (by omega)
    rw [legsTo_succ, List.length_append, legsFrom_len]; omega
theorem allLegs_len {t : TTD} (hg : TTGood t) : ∀ k, k ≤ t.trips.length → (allLegs ((rides t).take k)).length ≤ 36 * k
  | 0, _ => by simp [allLegs]
  | k + 1, hk => by
    have ih := allLegs_len hg k (by omega)
    rw [allLegs_take_succ _ k (by rw [rides_len]; omega), List.length_append, rides_at]
    obtain ⟨q, hq, h⟩ := ride_facts hg k (by omega)
    have h6 : (rideOf t (t.trips[k]'(by omega))).stops.length ≤ 6 := by rw [h.ride]; exact h.len6
    have := rideLegs_len _ h6 _ (Nat.le_refl _)
    unfold rideLegs
    omega
theorem allLegs_len12 {t : TTD} (hg : TTGood t) : (allLegs (rides t)).length ≤ 432 := by
  have := allLegs_len hg t.trips.length (Nat.le_refl _)
  rw [List.take_of_length_le (by rw [rides_len]; omega)] at this
  have := hg.2.1
  omega
end Go.Proofs.Ytmcpafflnccfaaa

namespace Go.Proofs.Ytmcpafflnccfaaa
open Go.RowKit Jrn
set_option linter.unusedVariables false

namespace Jrn
section
variable {N : Nat} {rs : List RideD} {ch frm at_ : Int}
/-- the search with as many legs as the first journey has finds it -/
theorem dfs_best (hrs : RidesOk rs) (hch : 0 ≤ ch) (hat : 0 ≤ at_) {too : Int} (hne : frm ≠ too)
    {cands : Int → List LegD → Int → Int → List LegD} (hC : ∀ A, CandsOk (allLegs rs) A (cands A)) (n : Nat) {b : List LegD} (hb : bestF (allLegs rs) ch too n frm at_ = some b) :
    dfsF (cands (endT 0 b)) ch too (endT 0 b) b.length [] frm at_ = some b := by
  have hlt : ∀ l ∈ allLegs rs, l.dep < l.arr := fun l hl => hrs.leg_lt hl
  obtain ⟨b1, b2, b3, b4⟩ := best_sound ch too n frm at_ b hb
  have hopt : ∀ c, c ≠ [] → Chain (allLegs rs) ch frm at_ c → c.length ≤ n → endS frm c = too → JLe b c := fun c c1 c2 c3 c4 => by
    obtain ⟨b', h, hle⟩ := best_opt hrs.same ch too hch hlt n frm at_ c c1 c2 c3 c4
    rw [hb] at h; cases h; exact hle
  have hbl : 0 < b.length := by cases b with | nil => exact absurd rfl b1 | cons x b => simp
  obtain ⟨d1, d2⟩ := dfs_ok (too := too) hch hlt (hC (endT 0 b)) b.length [] frm at_ hbl
  have hw : Want (allLegs rs) ch too (endT 0 b) [] b.length frm at_ b := by
    refine ⟨b2, rfl, b4, rfl, ?_, fun a ha => by simp at ha⟩
    apply Classical.byContradiction
    intro hn
    obtain ⟨d, e1, e2, e3, e4, e5⟩ := not_twice hrs hch b2 hn
    have := hopt d e2 e1 (by omega) (by rw [e4]; exact b4)
    unfold JLe JLt at this
    omega
  cases hd : dfsF (cands (endT 0 b)) ch too (endT 0 b) b.length [] frm at_ with
  | none => exact (d1 hd b hw).elim
  | some c =>
    obtain ⟨⟨c1, c2, c3, c4, _⟩, hmin⟩ := d2 c hd
    have h1 := hmin b hw
    have cne : c ≠ [] := fun e => by subst e; simp at c2; omega
    have h2 := hopt c cne c1 (by omega) c3
    have h3 : ¬ lexLt c b := fun h => h2 (.inr ⟨c4, .inr ⟨c2, h⟩⟩)
    rw [lex_same hrs.same (chain_mem c1) (chain_mem b2) c2 h3 h1]
/-- a journey that arrives earlier than with one leg less has all its legs -/
theorem best_full (hrs : RidesOk rs) (hch : 0 ≤ ch) {too : Int} (n : Nat) {b : List LegD} (hb : bestF (allLegs rs) ch too (n + 1) frm at_ = some b)
    (hl : ∀ c, bestF (allLegs rs) ch too n frm at_ = some c → endT 0 b < endT 0 c) : b.length = n + 1 := by
  have hlt : ∀ l ∈ allLegs rs, l.dep < l.arr := fun l hl => hrs.leg_lt hl
  obtain ⟨b1, b2, b3, b4⟩ := best_sound ch too (n + 1) frm at_ b hb
  apply Classical.byContradiction
  intro hn
  obtain ⟨c, hc, hle⟩ := best_opt hrs.same ch too hch hlt n frm at_ b b1 b2 (by omega) b4
  have := hl c hc
  unfold JLe JLt at hle
  omega
/-- more legs never arrive later -/
theorem best_more (hrs : RidesOk rs) (hch : 0 ≤ ch) {too : Int} (n : Nat) {c : List LegD} (hc : bestF (allLegs rs) ch too n frm at_ = some c) :
    ∃ b, bestF (allLegs rs) ch too (n + 1) frm at_ = some b ∧ endT 0 b ≤ endT 0 c := by
  have hlt : ∀ l ∈ allLegs rs, l.dep < l.arr := fun l hl => hrs.leg_lt hl
  obtain ⟨b1, b2, b3, b4⟩ := best_sound ch too n frm at_ c hc
  obtain ⟨b, hb, hle⟩ := best_opt hrs.same ch too hch hlt (n + 1) frm at_ c b1 b2 (by omega) b4
  refine ⟨b, hb, ?_⟩
  unfold JLe JLt at hle
  omega
end
/-- the journeys that arrive earlier than those with fewer legs, and the arrival of the last one (-1: none) -/
noncomputable def parF (f : Nat → Option (List LegD)) : Nat → List (List LegD) × Int
  | 0 => ([], -1)
  | n + 1 => match f (n + 1) with
    | none => parF f n
    | some b => if (parF f n).2 < 0 ∨ endT 0 b < (parF f n).2 then ((parF f n).1 ++ [b], endT 0 b) else parF f n
theorem parF_none {f : Nat → Option (List LegD)} {n : Nat} (h : f (n + 1) = none) : parF f (n + 1) = parF f n := by rw [parF, h]
theorem parF_yes {f : Nat → Option (List LegD)} {n : Nat} {b : List LegD} (h : f (n + 1) = some b) (hy : (parF f n).2 < 0 ∨ endT 0 b < (parF f n).2) : parF f (n + 1) = ((parF f n).1 ++ [b], endT 0 b) := by
  rw [parF, h]; exact if_pos hy
theorem parF_no {f : Nat → Option (List LegD)} {n : Nat} {b : List LegD} (h : f (n + 1) = some b) (hy : ¬ ((parF f n).2 < 0 ∨ endT 0 b < (parF f n).2)) : parF f (n + 1) = parF f n := by
  rw [parF, h]; exact if_neg hy
theorem parF_len (f : Nat → Option (List LegD)) : ∀ n, (parF f n).1.length ≤ n
  | 0 => Nat.le_refl _
  | n + 1 => by
    have := parF_len f n
    rw [parF]
    split
    · omega
    · split
      · simp; omega
      · omega
/-- the last one's arrival -/
theorem parF_last (f : Nat → Option (List LegD)) (h0 : ∀ n b, f n = some b → 0 ≤ endT 0 b) : ∀ n, ((parF f n).1 = [] ∧ (parF f n).2 = -1) ∨ (∃ xs b, (parF f n).1 = xs ++ [b] ∧ (parF f n).2 = endT 0 b ∧ 0 ≤ endT 0 b)
  | 0 => .inl ⟨rfl, rfl⟩
  | n + 1 => by
    have ih := parF_last f h0 n
    cases hf : f (n + 1) with
    | none => rw [parF_none hf]; exact ih
    | some b =>
      by_cases hy : (parF f n).2 < 0 ∨ endT 0 b < (parF f n).2
      · rw [parF_yes hf hy]; exact .inr ⟨_, b, rfl, rfl, h0 _ _ hf⟩
      · rw [parF_no hf hy]; exact ih
/-- the last arrival is that of the first journey -/
theorem parF_best (f : Nat → Option (List LegD)) (h0 : ∀ n b, f n = some b → 0 ≤ endT 0 b) (hm : ∀ n c, f n = some c → ∃ b, f (n + 1) = some b ∧ endT 0 b ≤ endT 0 c) (hz : f 0 = none) : ∀ n, (f n = none ∧ (parF f n).2 = -1) ∨ ∃ b, f n = some b ∧ (parF f n).2 = endT 0 b
  | 0 => .inl ⟨hz, rfl⟩
  | n + 1 => by
    rcases parF_best f h0 hm hz n with ⟨h1, h2⟩ | ⟨c, h1, h2⟩
    · cases hf : f (n + 1) with
      | none => rw [parF_none hf]; exact .inl ⟨rfl, h2⟩
      | some b => rw [parF_yes hf (.inl (by omega))]; exact .inr ⟨b, rfl, rfl⟩
    · obtain ⟨b, hf, hle⟩ := hm n c h1
      by_cases hy : (parF f n).2 < 0 ∨ endT 0 b < (parF f n).2
      · rw [parF_yes hf hy]; exact .inr ⟨b, hf, rfl⟩
      · rw [parF_no hf hy]; exact .inr ⟨b, hf, by omega⟩
end Jrn
end Go.Proofs.Ytmcpafflnccfaaa

namespace Go.Proofs.Ytmcpafflnccfaaa
open Go.RowKit Jrn
set_option linter.unusedVariables false

/-- what the search does with a candidate -/
def tryF (cands : List LegD → Int → Int → List LegD) (ch too arrive : Int) (n : Nat) (used : List LegD) (l : LegD) : Option (List LegD) :=
  if n = 0 then (if l.dst = too ∧ l.arr = arrive then some [l] else none) else (dfsF cands ch too arrive n (used ++ [l]) l.dst (l.arr + ch)).map (l :: ·)
theorem dfsF_succ (cands : List LegD → Int → Int → List LegD) (ch too arrive : Int) (n : Nat) (used : List LegD) (s t : Int) : dfsF cands ch too arrive (n + 1) used s t = (cands used s t).findSome? (tryF cands ch too arrive n used) := rfl
/-- what the search returns: all legs of the journey so far, or none -/
def extR (used : List LegD) (o : Option (List LegD)) : List LegD := match o with
  | some c => used ++ c
  | none => []
/-- the candidates of one ride to the first q stops -/
def candT (A : Int) (r : RideD) (s : Int) (q : Nat) : List LegD := (List.range q).filterMap (fun q : Nat => candO A r s (q : Int))
theorem candT_succ (A : Int) (r : RideD) (s : Int) (q : Nat) : candT A r s (q + 1) = candT A r s q ++ (candO A r s (q : Int)).toList := by
  unfold candT
  rw [List.range_succ, List.filterMap_append]
  cases h : candO A r s (q : Int) <;> simp [h]
theorem candR_yes {N : Nat} {A : Int} {r : RideD} {used : List LegD} {s t : Int} (h : rideOkB r used s t = true) : candR N A r used s t = candT A r s N := by unfold candR; rw [if_pos h]; rfl
theorem candR_no {N : Nat} {A : Int} {r : RideD} {used : List LegD} {s t : Int} (h : rideOkB r used s t = false) : candR N A r used s t = [] := by unfold candR; rw [if_neg (by simp [h])]
theorem cands_take {N : Nat} {rs : List RideD} {A : Int} {used : List LegD} {s t : Int} (i : Nat) (hi : i < rs.length) : candsF N (rs.take (i + 1)) A used s t = candsF N (rs.take i) A used s t ++ candR N A rs[i] used s t := by
  unfold candsF
  rw [List.take_succ_eq_append_getElem hi, List.flatMap_append]
  simp
theorem cands_split {N : Nat} {rs : List RideD} {A : Int} {used : List LegD} {s t : Int} (i : Nat) (hi : i < rs.length) : candsF N rs A used s t = candsF N (rs.take i) A used s t ++ (candR N A rs[i] used s t ++ candsF N (rs.drop (i + 1)) A used s t) := by
  unfold candsF
  conv => lhs; rw [← List.take_append_drop i rs, List.drop_eq_getElem_cons hi]
  rw [List.flatMap_append, List.flatMap_cons]
theorem candT_split {A : Int} {r : RideD} {s : Int} {N q : Nat} {l : LegD} (hq : q < N) (hl : candO A r s (q : Int) = some l) : ∃ bs, candT A r s N = candT A r s q ++ l :: bs := by
  obtain ⟨m, rfl⟩ : ∃ m, N = q + 1 + m := ⟨N - (q + 1), by omega⟩
  refine ⟨((List.range m).map (q + 1 + ·)).filterMap (fun q : Nat => candO A r s (q : Int)), ?_⟩
  have e : List.range (q + 1 + m) = List.range (q + 1) ++ (List.range m).map (q + 1 + ·) := List.range_add
  have h1 := candT_succ A r s q
  rw [hl] at h1
  unfold candT at h1 ⊢
  rw [e, List.filterMap_append, h1]
  simp
theorem none_find {α β : Type} {f : α → Option β} {xs ys : List α} (h : ∀ x ∈ xs, f x = none) : (xs ++ ys).findSome? f = ys.findSome? f := by
  rw [List.findSome?_append, List.findSome?_eq_none_iff.2 h]; rfl
/-- the first candidate with a journey -/
theorem dfs_hit {N : Nat} {rs : List RideD} {A : Int} {used : List LegD} {s t : Int} {f : LegD → Option (List LegD)} {i q : Nat} (hi : i < rs.length) (hok : rideOkB rs[i] used s t = true) (hq : q < N) {l : LegD} {c : List LegD}
    (hl : candO A rs[i] s (q : Int) = some l) (h1 : ∀ x ∈ candsF N (rs.take i) A used s t, f x = none) (h2 : ∀ x ∈ candT A rs[i] s q, f x = none) (hf : f l = some c) : (candsF N rs A used s t).findSome? f = some c := by
  obtain ⟨bs, hb⟩ := candT_split hq hl
  rw [cands_split i hi, none_find h1, candR_yes hok, hb, List.append_assoc, none_find h2, List.cons_append, List.findSome?_cons, hf]
theorem dfs_miss {α β : Type} {f : α → Option β} {xs : List α} (h : ∀ x ∈ xs, f x = none) : xs.findSome? f = none := List.findSome?_eq_none_iff.2 h
/-- the leg to one stop, as the search finds it -/
theorem candO_no {A : Int} {r : RideD} {s q : Int} {a b : Nat} (ha : r.stops.idxOf s = a) (hb : r.stops.idxOf q = b) (h : ¬ (a < b ∧ b < r.stops.length ∧ r.times.getD b 0 ≤ A)) : candO A r s q = none := by
  unfold candO; rw [ha, hb, if_neg h]
theorem candO_yes {A : Int} {r : RideD} {s q : Int} {a b : Nat} (ha : r.stops.idxOf s = a) (hb : r.stops.idxOf q = b) (h : a < b ∧ b < r.stops.length ∧ r.times.getD b 0 ≤ A) : candO A r s q = some (legR r a b) := by
  unfold candO; rw [ha, hb, if_pos h]
theorem candO_out {A : Int} {r : RideD} {s q : Int} (h : q ∉ r.stops) : candO A r s q = none := by
  unfold candO
  rw [if_neg]
  rintro ⟨-, h2, -⟩
  exact h (List.idxOf_lt_length_iff.1 h2)
/-- where the used trips are, by the loop -/
def usedT (used : List LegD) (id : Int) (k : Nat) : Bool := (used.take k).any (fun l => l.trip == id)
theorem usedT_succ (used : List LegD) (id : Int) (k : Nat) (hk : k < used.length) : usedT used id (k + 1) = (usedT used id k || used[k].trip == id) := by
  unfold usedT
  rw [List.take_succ_eq_append_getElem hk, List.any_append]
  simp
theorem usedT_all (used : List LegD) (id : Int) : usedT used id used.length = used.any (fun l => l.trip == id) := by unfold usedT; rw [List.take_length]
theorem rideOk_used {r : RideD} {used : List LegD} {s t : Int} (h : used.any (fun l => l.trip == r.id) = true) : rideOkB r used s t = false := by unfold rideOkB; rw [h]; rfl
theorem rideOk_out {r : RideD} {used : List LegD} {s t : Int} (h : s ∉ r.stops) : rideOkB r used s t = false := by unfold rideOkB; rw [decide_eq_false h]; simp
theorem rideOk_late {r : RideD} {used : List LegD} {s t : Int} {a : Nat} (ha : r.stops.idxOf s = a) (h : r.times.getD a 0 < t) : rideOkB r used s t = false := by unfold rideOkB; rw [ha, decide_eq_false (show ¬ t ≤ r.times.getD a 0 by omega)]; simp
theorem rideOk_yes {r : RideD} {used : List LegD} {s t : Int} {a : Nat} (hu : used.any (fun l => l.trip == r.id) = false) (hm : s ∈ r.stops) (ha : r.stops.idxOf s = a) (h : ¬ r.times.getD a 0 < t) : rideOkB r used s t = true := by unfold rideOkB; rw [hu, decide_eq_true hm, ha, decide_eq_true (show t ≤ r.times.getD a 0 by omega)]; rfl
end Go.Proofs.Ytmcpafflnccfaaa
