/-
  CONTRACTS of spec.l8Departures and spec.LatestDeparture; both sides.
-/
import Derived.Test.YtniankcjgcackaaLatestI
import Derived.Test.YtniankcjgcackaaAsc
import Derived.Test.YtniankcjgcackaaL2BackS
namespace Go.Proofs.Ytniankcjgcackaa
open Go.RowKit Go.Maps Jrn
set_option linter.unusedVariables false
set_option linter.unusedSimpArgs false

/-- the times of the first k rides at a stop -/
def depL (rs : List RideD) (s : Int) : Nat → List Int
  | 0 => []
  | k + 1 => if s ∈ (rs.getD k ⟨0, [], []⟩).stops then putL ((rs.getD k ⟨0, [], []⟩).times.getD ((rs.getD k ⟨0, [], []⟩).stops.idxOf s) 0) (depL rs s k) else depL rs s k
theorem depL_len (rs : List RideD) (s : Int) : ∀ k, (depL rs s k).length ≤ k
  | 0 => Nat.le_refl _
  | k + 1 => by
    have ih := depL_len rs s k
    rw [depL]
    split
    · have := putL_len ((rs.getD k ⟨0, [], []⟩).times.getD ((rs.getD k ⟨0, [], []⟩).stops.idxOf s) 0) (depL rs s k)
      omega
    · omega
theorem depL_asc (rs : List RideD) (s : Int) : ∀ k, AscI (depL rs s k)
  | 0 => List.Pairwise.nil
  | k + 1 => by
    rw [depL]
    split
    · exact putL_asc _ _ (depL_asc rs s k)
    · exact depL_asc rs s k
theorem depL_up (rs : List RideD) (s : Int) (k : Nat) {x : Int} (h : x ∈ depL rs s k) : x ∈ depL rs s (k + 1) := by
  rw [depL]
  split
  · exact (putL_mem _ _ _).2 (.inr h)
  · exact h
theorem depL_at (rs : List RideD) (k : Nat) (hk : k < rs.length) : rs.getD k ⟨0, [], []⟩ = rs[k] := by rw [List.getD_eq_getElem?_getD, List.getElem?_eq_getElem hk]; rfl
theorem depL_mem {N : Nat} {rs : List RideD} (hrs : RidesOk rs) (hin : RidesIn N rs) (s : Int) : ∀ k, k ≤ rs.length → ∀ x ∈ depL rs s k, 0 ≤ x ∧ x ≤ 2400
  | 0, _, x, h => by simp [depL] at h
  | k + 1, hk, x, h => by
    rw [depL, depL_at rs k (by omega)] at h
    split at h
    · rename_i hm
      rcases (putL_mem _ _ _).1 h with e | h
      · have hr : rs[k] ∈ rs := List.getElem_mem _
        rw [e]
        exact hin.time _ hr _ (getD_mem (by rw [(hrs.each _ hr).len]; exact List.idxOf_lt_length_of_mem hm))
      · exact depL_mem hrs hin s k (by omega) x h
    · exact depL_mem hrs hin s k (by omega) x h
theorem depL_has {rs : List RideD} (hrs : RidesOk rs) (s : Int) {l : LegD} (hl : l ∈ legsAt (allLegs rs) s) : l.dep ∈ depL rs s rs.length := by
  have hm := List.mem_filter.1 hl
  have hfr : l.frm = s := of_decide_eq_true hm.2
  obtain ⟨r, hr, i, j, hij, hj, rfl⟩ := mem_allLegs.1 hm.1
  obtain ⟨q, hq, rfl⟩ := List.getElem_of_mem hr
  have hi : i < rs[q].stops.length := by omega
  have e : rs[q].stops.idxOf s = i := by rw [← hfr]; exact idx_get ((hrs.each _ hr).nodup) hi
  have hms : s ∈ rs[q].stops := by rw [← hfr]; exact getD_mem hi
  have h1 : (legR rs[q] i j).dep ∈ depL rs s (q + 1) := by
    rw [depL, depL_at rs q hq, if_pos hms, e]
    exact (putL_mem _ _ _).2 (.inl rfl)
  have : ∀ m, q + 1 + m ≤ rs.length → (legR rs[q] i j).dep ∈ depL rs s (q + 1 + m) := by
    intro m
    induction m with
    | zero => intro _; exact h1
    | succ m ih => intro hm; exact depL_up rs s _ (ih (by omega))
  have h2 := this (rs.length - (q + 1)) (by omega)
  rwa [show q + 1 + (rs.length - (q + 1)) = rs.length by omega] at h2
/-- the departures, the latest first -/
def depD (t : TTD) (frm : Int) : List Int := (depL (rides t) frm t.trips.length).reverse
theorem ld_find {t : TTD} {ch frm too by_ : Int} (hg : TTGood t) (hch : 0 ≤ ch) (hne : frm ≠ too) :
    (match (depD t frm).find? (gLd (allLegs (rides t)) ch too by_ frm) with | some d => (d, true) | none => (0, false)) = lateF (gLd (allLegs (rides t)) ch too by_ frm) (legsAt (allLegs (rides t)) frm) := by
  have hb := legs_bound hg
  have hl : (rides t).length = t.trips.length := rides_len t
  refine latest_eq (fun l hl => ?_) (fun l h => ?_) ?_ (fun d hd hgd => ?_)
  · have := hb l (List.mem_filter.1 hl).1; omega
  · unfold depD; rw [List.mem_reverse, ← hl]; exact depL_has (rides_ok hg) frm h
  · unfold depD
    rw [List.pairwise_reverse]
    exact (depL_asc (rides t) frm t.trips.length).imp (fun h => Int.le_of_lt h)
  · unfold depD at hd
    rw [List.mem_reverse] at hd
    have h0 := (depL_mem (rides_ok hg) (rides_in hg) frm _ (by omega) d hd).1
    exact good_step (rides_ok hg) hch h0 hne 4 hgd (fun l hl => by have := hb l hl; omega)
/-- whether a time is good, by the arrival -/
theorem gLd_end {t : TTD} {ch frm too by_ d : Int} (hg : TTGood t) (hch : 0 ≤ ch) (hf0 : 0 ≤ frm) (hf1 : frm < (t.net.stops.length : Int)) (hd : 0 ≤ d) (h0 : 0 ≤ too) (h1 : too < (t.net.stops.length : Int)) (hne : frm ≠ too) {x : Int} (hx : (arrT t.net.stops.length (rides t) ch frm d 4).getD too.toNat 0 = x) :
    gLd (allLegs (rides t)) ch too by_ frm d = decide (0 ≤ x ∧ x ≤ by_) := by
  rw [arr_eq (rides_ok hg) (rides_in hg) hch hf0 hf1 hd 4 h0 h1, if_neg hne] at hx
  have hm := best_min (rides_ok hg) hch hd hne 4
  unfold gLd
  rw [← hx]
  cases hb : Jrn.bestF (allLegs (rides t)) ch too 4 frm d with
  | none => rfl
  | some cj =>
    rw [hb] at hm
    obtain ⟨h1, h2, h3, h4⟩ := best_sound ch too 4 frm d cj hb
    show decide (endT 0 cj ≤ by_) = decide (0 ≤ endT 0 cj ∧ endT 0 cj ≤ by_)
    have hp : 0 ≤ endT 0 cj := by
      rcases hm with ⟨-, hm⟩ | ⟨hm, -⟩
      · exact absurd ⟨cj, h2, h3, h4, rfl⟩ (hm _)
      · exact hm
    by_cases hle : endT 0 cj ≤ by_
    · rw [decide_eq_true hle, decide_eq_true ⟨hp, hle⟩]
    · rw [decide_eq_false hle, decide_eq_false (fun h => hle h.2)]
theorem find_first {g : Int → Bool} {ds : List Int} {k : Nat} (hk : k < ds.length) (h : ∀ d ∈ ds.take k, g d = false) (hg : g ds[k] = true) : ds.find? g = some ds[k] := by
  refine List.find?_eq_some_iff_append.2 ⟨hg, ds.take k, ds.drop (k + 1), ?_, fun d hd => by simp [h d hd]⟩
  rw [← List.drop_eq_getElem_cons hk, List.take_append_drop]

set_option maxRecDepth 100000 in
set_option maxHeartbeats 4000000 in
theorem l8Departures_any (v : Value) (t : TTD) (frm : Int) (w : World) (hr : TTAt w v t) (hg : TTGood t) :
    Calls Try.prog 101 #[v, .int .i64 frm] w fun e w' => (∃ v', e = .returned v' ∧ w'.ownsRow w.heap.size 3 1 v' (depD t frm).length (ints (depD t frm))) ∧ Below w.heap.size w w' := by
  have HTT := Lib.hid hr
  have HGd := Lib.hid hg
  have hlen12 := hg.2.1
  obtain ⟨a, c, a', c', b, d, rfl, -, -⟩ := tt_open hr
  clear hr hg
  obtain ⟨wa, hwa⟩ : ∃ wa : World, wa = (w.alloc (.cells #[.slice a t.net.stops.length c, .slice a' t.net.lines.length c', .slice b t.trips.length d] 38)).alloc (.cells #[] 3) := ⟨_, rfl⟩
  have p0 : wa.cell? ⟨w.heap.size, 0, none⟩ = some (.slice a t.net.stops.length c) := by rw [hwa]; go_simp
  have p1 : wa.cell? ⟨w.heap.size, 1, none⟩ = some (.slice a' t.net.lines.length c') := by rw [hwa]; go_simp
  have p2 : wa.cell? ⟨w.heap.size, 2, none⟩ = some (.slice b t.trips.length d) := by rw [hwa]; go_simp
  have hba : Below w.heap.size w wa := by rw [hwa]; exact ((Below.refl _ _).alloc (Nat.le_refl _) _).alloc (by simp) _
  have HO : Hid (wa.ownsRow (w.heap.size + 1) 3 1 (.slice (some ⟨w.heap.size + 1, 0, none⟩) 0 0) 0 (ints [])) := by
    have h := row_new (w.alloc (.cells #[.slice a t.net.stops.length c, .slice a' t.net.lines.length c', .slice b t.trips.length d] 38)) (w.heap.size + 1) (by simp)
    simp only [World.size_alloc] at h
    rw [hwa]; exact h
  have hza : w.heap.size + 2 ≤ wa.heap.size := by rw [hwa]; simp
  have HBA := Lib.hid hba
  have HWA := Lib.hid hwa
  have HDd : Hid (depD t frm = (depL (rides t) frm t.trips.length).reverse) := rfl
  have HRl := Lib.hid (rides_len t)
  clear hwa hba
  go_enter Try.func101, Try.ntmps101
  go_wp2_with fail
  rw [← HWA.out]
  clear HWA
  go_loopw [5, 6] (fun o q wr => ∃ k : Nat, k ≤ t.trips.length ∧ q = .int .i64 k ∧ Hid (o.ownBlock ≠ none) ∧ Hid (wr.ownsRow (w.heap.size + 1) 3 1 o (depL (rides t) frm k).length (ints (depL (rides t) frm k))) ∧ wr.cell? ⟨w.heap.size, 0, none⟩ = some (.slice a t.net.stops.length c) ∧ wr.cell? ⟨w.heap.size, 1, none⟩ = some (.slice a' t.net.lines.length c') ∧ wr.cell? ⟨w.heap.size, 2, none⟩ = some (.slice b t.trips.length d) ∧ Hid (w.heap.size + 2 ≤ wr.heap.size) ∧ Hid (Below w.heap.size w wr)) (fun _ q _ => t.trips.length - (RowKit.intOf q).toNat)
  case atStart => exact ⟨0, Nat.zero_le _, rfl, by simp [Value.ownBlock, Hid], HO.out, p0, p1, p2, hza, HBA.out⟩
  case round =>
    clear HO p0 p1 p2 hza HBA
    obtain ⟨k, hk, rfl, HNe, HOwn, p0, p1, p2, HZ, HB⟩ := hrel
    by_cases hlt : k < t.trips.length
    · have hk1 : (k : Int) < (t.trips.length : Int) := by omega
      obtain ⟨kl, hkl, hfa⟩ := ride_facts HGd.out k hlt
      obtain ⟨s0, s1, r0, r1, ⟨hrs, hrr⟩, hL⟩ := l5Line_any _ t k w HTT.out hlt kl hfa.line hkl
      have HL := Lib.hid (hL wr HB.out)
      have HPl := Lib.hid (fun W (hW : Below w.heap.size w W) => l2Place_any _ t.net.lines[kl] frm W (show LineV W (.agg #[.string t.net.lines[kl].name, .slice s0 t.net.lines[kl].stops.length s1, .slice r0 t.net.lines[kl].runs.length r1]) t.net.lines[kl] from ⟨_, _, rfl, hrs.below rfl hW, hrr.below rfl hW⟩))
      have hst : t.net.lines[kl].stops = (rideOf t t.trips[k]).stops := by rw [hfa.ride]
      have HRk : Hid ((rides t).getD k ⟨0, [], []⟩ = rideOf t t.trips[k]) := by
        show _ = _
        rw [depL_at _ _ (by rw [rides_len]; exact hlt), rides_at]
      have hln := depL_len (rides t) frm k
      by_cases hm : frm ∈ (rideOf t t.trips[k]).stops
      · obtain ⟨A, hA, hAl, -, -⟩ := fstIdx_get frm _ hm
        have hA' : (rideOf t t.trips[k]).stops.idxOf frm = A := by
          have := hA
          unfold fstIdx at this
          rw [if_pos hm] at this
          omega
        have HAt := Lib.hid (l5AtR _ t k w HTT.out HGd.out hlt A hAl)
        have HSucc : Hid (depL (rides t) frm (k + 1) = putL ((rideOf t t.trips[k]).times.getD A 0) (depL (rides t) frm k)) := by
          show _ = _
          rw [depL, HRk.out, if_pos hm, hA']
        rw [show fstIdx frm t.net.lines[kl].stops = (A : Int) by rw [hst]; exact hA] at HPl
        have hA0 : (0 : Int) ≤ (A : Int) := by omega
        clear hrs hrr hL hfa hst HRk hm hA hA' hAl
        generalize t.net.lines[kl] = ln at *
        generalize (rideOf t t.trips[k]).times.getD A 0 = tm at *
        obtain ⟨ds, Hds⟩ : ∃ ds, Hid (depL (rides t) frm k = ds) := ⟨_, rfl⟩
        rw [Hds.out] at HSucc hln HOwn
        go_wp2_with fail
        go_at_call 108
        refine HL.out.mono ?_
        rintro e w2 ⟨rfl, hb⟩
        have HB2 : Hid (Below w.heap.size w w2) := HB.out.trans (hb.mono HB.out.size)
        have HO2 := Lib.hid (own_later HOwn.out hb)
        have hz2 := hb.size
        have q0 := bkeep hb p0
        have q1 := bkeep hb p1
        have q2 := bkeep hb p2
        clear hb p0 p1 p2 HOwn HL
        go_wp2_with fail
        go_at_call 110
        refine (HPl.out _ HB2.out).mono ?_
        rintro e w3 ⟨rfl, hb⟩
        have HB3 : Hid (Below w.heap.size w w3) := HB2.out.trans (hb.mono HB2.out.size)
        have HO3 := Lib.hid (own_later HO2.out hb)
        have hz3 := hb.size
        have p0 := bkeep hb q0
        have p1 := bkeep hb q1
        have p2 := bkeep hb q2
        clear hb q0 q1 q2 HO2
        go_wp2_with fail
        go_at_call 121
        refine (HAt.out _ HB3.out).mono ?_
        rintro e w4 ⟨rfl, hb⟩
        have HB4 : Hid (Below w.heap.size w w4) := HB3.out.trans (hb.mono HB3.out.size)
        have HO4 := Lib.hid (own_later HO3.out hb)
        have hz4 := hb.size
        have q0 := bkeep hb p0
        have q1 := bkeep hb p1
        have q2 := bkeep hb p2
        clear hb p0 p1 p2 HO3
        go_wp2_with fail
        go_at_call 182
        refine (l1Put_own _ _ tm _ _ HO4.out HNe.out (by have := HZ.out; omega) (by omega)).mono ?_
        rintro e w5 ⟨⟨v', rfl, hne', ho'⟩, hb⟩
        have HB5 : Hid (Below w.heap.size w w5) := HB4.out.trans (hb.mono HB4.out.size)
        have HO5 : Hid (w5.ownsRow (w.heap.size + 1) 3 1 v' (depL (rides t) frm (k + 1)).length (ints (depL (rides t) frm (k + 1)))) := by
          show World.ownsRow _ _ _ _ _ _ _
          rw [HSucc.out]; exact ho'
        have HNe5 := Lib.hid hne'
        have hz5 := hb.size
        have p0 := bkeep hb q0
        have p1 := bkeep hb q1
        have p2 := bkeep hb q2
        have HZ5 : Hid (w.heap.size + 2 ≤ w5.heap.size) := by have := HZ.out; show _ ≤ _; omega
        clear hb q0 q1 q2 HO4 ho' hne'
        go_wp2_with fail
        go_roundw
        case rel => exact ⟨k + 1, by omega, by go_num, HNe5, HO5, p0, p1, p2, HZ5, HB5⟩
        case measure => simp [RowKit.intOf]; omega
      · have HSucc : Hid (depL (rides t) frm (k + 1) = depL (rides t) frm k) := by
          show _ = _
          rw [depL, HRk.out, if_neg hm]
        rw [show fstIdx frm t.net.lines[kl].stops = -1 by rw [hst]; exact fstIdx_none hm] at HPl
        clear hrs hrr hL hfa hst HRk hm
        generalize t.net.lines[kl] = ln at *
        go_wp2_with fail
        go_at_call 108
        refine HL.out.mono ?_
        rintro e w2 ⟨rfl, hb⟩
        have HB2 : Hid (Below w.heap.size w w2) := HB.out.trans (hb.mono HB.out.size)
        have HO2 := Lib.hid (own_later HOwn.out hb)
        have hz2 := hb.size
        have q0 := bkeep hb p0
        have q1 := bkeep hb p1
        have q2 := bkeep hb p2
        clear hb p0 p1 p2 HOwn HL
        go_wp2_with fail
        go_at_call 110
        refine (HPl.out _ HB2.out).mono ?_
        rintro e w3 ⟨rfl, hb⟩
        have HB3 : Hid (Below w.heap.size w w3) := HB2.out.trans (hb.mono HB2.out.size)
        have HO3 : Hid (w3.ownsRow (w.heap.size + 1) 3 1 u5 (depL (rides t) frm (k + 1)).length (ints (depL (rides t) frm (k + 1)))) := by
          show World.ownsRow _ _ _ _ _ _ _
          rw [HSucc.out]; exact own_later HO2.out hb
        have hz3 := hb.size
        have p0 := bkeep hb q0
        have p1 := bkeep hb q1
        have p2 := bkeep hb q2
        have HZ3 : Hid (w.heap.size + 2 ≤ w3.heap.size) := by have := HZ.out; show _ ≤ _; omega
        clear hb q0 q1 q2 HO2
        go_wp2_with fail
        go_roundw
        case rel => exact ⟨k + 1, by omega, by go_num, HNe, HO3, p0, p1, p2, HZ3, HB3⟩
        case measure => simp [RowKit.intOf]; omega
    · obtain rfl : k = t.trips.length := by omega
      have hk1 : ¬ (t.trips.length : Int) < (t.trips.length : Int) := by omega
      have hln := depL_len (rides t) frm t.trips.length
      have HBk := Lib.hid (l2Back_any _ _ wr (rowAt_own HOwn.out) (by omega))
      go_wp2_with fail
      go_at_call 157
      refine HBk.out.mono ?_
      rintro e w2 ⟨v', rfl, ho, hb⟩
      have HB2 : Hid (Below w.heap.size w w2) := HB.out.trans (hb.mono HB.out.size)
      have HO2 : Hid (w2.ownsRow w.heap.size 3 1 v' (depD t frm).length (ints (depD t frm))) := by
        show World.ownsRow _ _ _ _ _ _ _
        rw [HDd.out, List.length_reverse]
        exact own_base ho (by have := HZ.out; omega)
      clear hb ho
      go_wp2_with fail
      go_ret
      exact ⟨⟨v', rfl, HO2.out⟩, HB2.out⟩

set_option maxRecDepth 100000 in
set_option maxHeartbeats 8000000 in
theorem specLD_any (v : Value) (t : TTD) (ch frm too by_ : Int) (w : World) (hr : TTAt w v t) (hf : TTFits t) (hs : TTSmall t) :
    Calls Try.prog 33 #[v, .int .i64 ch, .int .i64 frm, .int .i64 too, .int .i64 by_] w fun e w' => e = .returned (.tuple #[.int .i64 (ldF t ch frm too by_).1, .bool (ldF t ch frm too by_).2]) ∧ Below w.heap.size w w' := by
  have HF := Lib.hid (fun W (hW : Below w.heap.size w W) => l8Pair_any v t ch frm too by_ W (hr.below rfl hW) hf hs)
  have HD := Lib.hid (fun (hg : TTGood t) W (hW : Below w.heap.size w W) => l8Departures_any v t frm W (hr.below rfl hW) hg)
  have HArr := Lib.hid (fun (h : EOk t ch frm by_) (x : Int) (h0 : 0 ≤ x) (h1 : x ≤ 2400) W (hW : Below w.heap.size w W) => l8Arrivals_any v t ch frm x 4 W (hr.below rfl hW) h.1 h.2.1.1 h.2.1.2 h.2.2.1.1 h.2.2.1.2 h0 h1 (Nat.le_refl _))
  obtain ⟨a, c, a', c', b, d, rfl, -, -⟩ := tt_open hr
  clear hr hf hs
  cases hp : pairB t ch frm too by_ with
  | false =>
    rw [hp] at HF
    have HR : Hid (ldF t ch frm too by_ = (0, false)) := by show _ = _; unfold ldF; rw [hp]; rfl
    rw [HR.out]
    clear hp HD HArr
    go_enter Try.func33, Try.ntmps33
    go_wp2_with fail
    go_at_call 97
    refine (HF.out _ ((Below.refl _ _).alloc (Nat.le_refl _) _)).mono ?_
    rintro e w1 ⟨rfl, hb⟩
    have HB1 : Hid (Below w.heap.size w w1) := ((Below.refl _ _).alloc (Nat.le_refl _) _).trans (hb.mono (by simp))
    clear hb
    go_wp2_with fail
    go_ret2
    exact ⟨rfl, HB1.out⟩
  | true =>
    rw [hp] at HF
    obtain ⟨hok, hto, hne⟩ := pairB_iff hp
    have HR : Hid (ldF t ch frm too by_ = lateF (gLd (allLegs (rides t)) ch too by_ frm) (legsAt (allLegs (rides t)) frm)) := by show _ = _; unfold ldF; rw [hp]; rfl
    have HFi := Lib.hid (ld_find (by_ := by_) hok.1 hok.2.1.1 hne)
    have HGe : Hid (∀ (x y : Int), 0 ≤ x → (arrT t.net.stops.length (rides t) ch frm x 4).getD too.toNat 0 = y → gLd (allLegs (rides t)) ch too by_ frm x = decide (0 ≤ y ∧ y ≤ by_)) := fun x y h0 hy => gLd_end hok.1 hok.2.1.1 hok.2.2.1.1 hok.2.2.1.2 h0 hto.1 hto.2 hne hy
    have HAr2 := Lib.hid (HArr.out hok)
    have HDp := Lib.hid (HD.out hok.1)
    have HMem : Hid (∀ x ∈ depD t frm, 0 ≤ x ∧ x ≤ 2400) := fun x hx => depL_mem (rides_ok hok.1) (rides_in hok.1) frm _ (by rw [rides_len]; omega) x (List.mem_reverse.1 hx)
    have hdl : (depD t frm).length ≤ t.trips.length := by unfold depD; rw [List.length_reverse]; exact depL_len _ _ _
    have h12 := hok.1.2.1
    have h8 := hok.1.1.1.2.1
    obtain ⟨tN, rfl⟩ : ∃ tN : Nat, too = (tN : Int) := ⟨too.toNat, by omega⟩
    have htN : tN < t.net.stops.length := by omega
    rw [Int.toNat_natCast] at HGe
    have HNe := Lib.hid hne
    clear hp HArr HD hok hto hne
    obtain ⟨gd, Hgd⟩ : ∃ gd, Hid (gLd (allLegs (rides t)) ch (tN : Int) by_ frm = gd) := ⟨_, rfl⟩
    obtain ⟨ds, Hds⟩ : ∃ ds, Hid (depD t frm = ds) := ⟨_, rfl⟩
    rw [Hgd.out] at HFi HGe HR
    rw [Hds.out] at HFi HDp HMem hdl
    go_enter Try.func33, Try.ntmps33
    go_wp2_with fail
    go_at_call 97
    refine (HF.out _ ((Below.refl _ _).alloc (Nat.le_refl _) _)).mono ?_
    rintro e w1 ⟨rfl, hb⟩
    have HB1 : Hid (Below w.heap.size w w1) := ((Below.refl _ _).alloc (Nat.le_refl _) _).trans (hb.mono (by simp))
    have z0 : w1.cell? ⟨w.heap.size, 0, none⟩ = some (.slice a t.net.stops.length c) := bkeep hb (by go_simp)
    have z1 : w1.cell? ⟨w.heap.size, 1, none⟩ = some (.slice a' t.net.lines.length c') := bkeep hb (by go_simp)
    have z2 : w1.cell? ⟨w.heap.size, 2, none⟩ = some (.slice b t.trips.length d) := bkeep hb (by go_simp)
    clear hb
    go_wp2_with fail
    go_at_call 101
    refine (HDp.out _ HB1.out).mono ?_
    rintro e w2 ⟨⟨vD, rfl, ho⟩, hb⟩
    have HB2 : Hid (Below w.heap.size w w2) := HB1.out.trans (hb.mono HB1.out.size)
    have p0 := bkeep hb z0
    have p1 := bkeep hb z1
    have p2 := bkeep hb z2
    have HO2 := Lib.hid ho
    obtain ⟨da, dc, rfl⟩ := own_shape ho
    clear hb z0 z1 z2 ho
    go_wp2_with fail
    go_loopw [13] (fun q wr => ∃ k : Nat, k ≤ ds.length ∧ q = .int .i64 k ∧ Hid (∀ x ∈ ds.take k, gd x = false) ∧ wr.cell? ⟨w.heap.size, 0, none⟩ = some (.slice a t.net.stops.length c) ∧ wr.cell? ⟨w.heap.size, 1, none⟩ = some (.slice a' t.net.lines.length c') ∧ wr.cell? ⟨w.heap.size, 2, none⟩ = some (.slice b t.trips.length d) ∧ Hid (wr.ownsRow w1.heap.size 3 1 (.slice da ds.length dc) ds.length (ints ds)) ∧ Hid (Below w.heap.size w wr)) (fun q _ => ds.length - (RowKit.intOf q).toNat)
    case atStart => exact ⟨0, Nat.zero_le _, rfl, fun x hx => by simp at hx, p0, p1, p2, HO2.out, HB2.out⟩
    case round =>
      clear p0 p1 p2 HO2
      obtain ⟨k, hk, rfl, HNot, p0, p1, p2, HOwn, HB⟩ := hrel
      by_cases hlt : k < ds.length
      · have hk1 : (k : Int) < (ds.length : Int) := by omega
        obtain ⟨gd_, rfl, -, -, hdc⟩ := ownI_at HOwn.out (by omega) rfl
        have hdc := hdc k hlt
        have HTk : Hid (ds.take (k + 1) = ds.take k ++ [ds[k]]) := List.take_succ_eq_append_getElem hlt
        have hmk := HMem.out ds[k] (List.getElem_mem hlt)
        rw [show ds.getD k 0 = ds[k] by rw [List.getD_eq_getElem?_getD, List.getElem?_eq_getElem hlt]; rfl] at hdc
        obtain ⟨dk, HDk⟩ : ∃ dk, Hid (ds[k]'hlt = dk) := ⟨ds[k]'hlt, rfl⟩
        rw [HDk.out] at hdc HTk hmk
        obtain ⟨ax, HX⟩ : ∃ ax, Hid ((arrT t.net.stops.length (rides t) ch frm dk 4).getD tN 0 = ax) := ⟨_, rfl⟩
        have HGx := Lib.hid (HGe.out dk ax hmk.1 HX.out)
        have HAr := Lib.hid (HAr2.out dk hmk.1 hmk.2)
        clear hmk
        go_wp2_with fail
        refine wp_region_held_drew (S := (fun w' => w'.cell? ⟨w.heap.size, 0, none⟩ = some (.slice a t.net.stops.length c) ∧ w'.cell? ⟨w.heap.size, 1, none⟩ = some (.slice a' t.net.lines.length c') ∧ w'.cell? ⟨w.heap.size, 2, none⟩ = some (.slice b t.trips.length d) ∧ w'.cell? ⟨gd_, k, none⟩ = some (.int .i64 dk))) (by kernel_rfl) ?_ (fun hHeld => ?_)
        · exact ⟨p0, p1, p2, hdc⟩
        refine wpAnyH_take (i := 0) (v := ?_) (by simp only [List.getElem?_toArray, List.getElem?_cons_zero]; rfl) (by kernel_rfl) (by kernel_rfl) (by kernel_rfl) (by exact fun _ _ _ h => h) (Or.inl ⟨by rfl, ?_⟩) (by assumption) ?_
        rotate_left
        · intro w' hSw; obtain ⟨e0, e1, e2, e3⟩ := hSw
          go_simp; try with_reducible rfl
        try simp only [Act.put, List.setIfInBounds_toArray, List.set_cons_zero, List.set_cons_succ]
        refine wpAnyH_take (i := 1) (v := ?_) (by simp only [List.getElem?_toArray, List.getElem?_cons_succ, List.getElem?_cons_zero]; rfl) (by kernel_rfl) (by kernel_rfl) (by kernel_rfl) (by exact fun _ _ _ h => h) (Or.inl ⟨by rfl, ?_⟩) (by assumption) ?_
        rotate_left
        · intro w' hSw; obtain ⟨e0, e1, e2, e3⟩ := hSw
          go_simp; try with_reducible rfl
        try simp only [Act.put, List.setIfInBounds_toArray, List.set_cons_zero, List.set_cons_succ]
        refine wpAnyH_take (i := 2) (v := ?_) (by simp only [List.getElem?_toArray, List.getElem?_cons_succ, List.getElem?_cons_zero]; rfl) (by kernel_rfl) (by kernel_rfl) (by kernel_rfl) (by exact fun _ _ _ h => h) (Or.inl ⟨by rfl, ?_⟩) (by assumption) ?_
        rotate_left
        · intro w' hSw; obtain ⟨e0, e1, e2, e3⟩ := hSw
          go_simp; try with_reducible rfl
        try simp only [Act.put, List.setIfInBounds_toArray, List.set_cons_zero, List.set_cons_succ]
        refine wpAnyH_take (i := 3) (v := ?_) (by simp only [List.getElem?_toArray, List.getElem?_cons_succ, List.getElem?_cons_zero]; rfl) (by kernel_rfl) (by kernel_rfl) (by kernel_rfl) (by exact fun _ _ _ h => h) (Or.inl ⟨by rfl, ?_⟩) (by assumption) ?_
        rotate_left
        · intro w' hSw; obtain ⟨e0, e1, e2, e3⟩ := hSw
          go_simp; try with_reducible rfl
        try simp only [Act.put, List.setIfInBounds_toArray, List.set_cons_zero, List.set_cons_succ]
        refine wpAnyH_take (i := 4) (v := ?_) (by simp only [List.getElem?_toArray, List.getElem?_cons_succ, List.getElem?_cons_zero]; rfl) (by kernel_rfl) (by kernel_rfl) (by kernel_rfl) (by exact fun _ _ _ h => h) (Or.inl ⟨by rfl, ?_⟩) (by assumption) ?_
        rotate_left
        · intro w' hSw; obtain ⟨e0, e1, e2, e3⟩ := hSw
          go_simp; try with_reducible rfl
        try simp only [Act.put, List.setIfInBounds_toArray, List.set_cons_zero, List.set_cons_succ]
        refine wpAnyH_take (i := 5) (v := ?_) (by simp only [List.getElem?_toArray, List.getElem?_cons_succ, List.getElem?_cons_zero]; rfl) (by kernel_rfl) (by kernel_rfl) (by kernel_rfl) (by exact fun _ _ _ h => h) (Or.inl ⟨by rfl, ?_⟩) (by assumption) ?_
        rotate_left
        · intro w' hSw; obtain ⟨e0, e1, e2, e3⟩ := hSw
          go_simp; try with_reducible rfl
        try simp only [Act.put, List.setIfInBounds_toArray, List.set_cons_zero, List.set_cons_succ]
        refine wpAnyH_take (i := 6) (v := ?_) (by simp only [List.getElem?_toArray, List.getElem?_cons_succ, List.getElem?_cons_zero]; rfl) (by kernel_rfl) (by kernel_rfl) (by kernel_rfl) (by exact fun _ _ _ h => h) (Or.inl ⟨by rfl, ?_⟩) (by assumption) ?_
        rotate_left
        · intro w' hSw; obtain ⟨e0, e1, e2, e3⟩ := hSw
          go_simp; try with_reducible rfl
        try simp only [Act.put, List.setIfInBounds_toArray, List.set_cons_zero, List.set_cons_succ]
        refine wpAnyH_take (i := 8) (v := ?_) (by simp only [List.getElem?_toArray, List.getElem?_cons_succ, List.getElem?_cons_zero]; rfl) (by kernel_rfl) (by kernel_rfl) (by kernel_rfl) (by exact fun _ _ _ h => h) (Or.inl ⟨by rfl, ?_⟩) (by assumption) ?_
        rotate_left
        · intro w' hSw; obtain ⟨e0, e1, e2, e3⟩ := hSw
          go_simp; try with_reducible rfl
        try simp only [Act.put, List.setIfInBounds_toArray, List.set_cons_zero, List.set_cons_succ]
        refine wpAnyH_ready (rs := [7]) (by kernel_rfl) (by simp) ?_
        refine AllReadyH.cons (by simp only [List.getElem?_toArray, List.getElem?_cons_succ, List.getElem?_cons_zero]; rfl) (fun K hK => ?_) AllReadyH.nil
        go_simp
        go_at_call 92
        refine (HAr.out _ (HB.out.drew)).mono ?_
        rintro e w5 ⟨⟨v5, rfl, ho5⟩, hb⟩
        have rb : Below wr.heap.size wr w5 := (Below.refl _ _).drew.trans hb
        have hS5 : w5.cell? ⟨w.heap.size, 0, none⟩ = some (.slice a t.net.stops.length c) ∧ w5.cell? ⟨w.heap.size, 1, none⟩ = some (.slice a' t.net.lines.length c') ∧ w5.cell? ⟨w.heap.size, 2, none⟩ = some (.slice b t.trips.length d) ∧ w5.cell? ⟨gd_, k, none⟩ = some (.int .i64 dk) := ⟨bkeep rb p0, bkeep rb p1, bkeep rb p2, bkeep rb hdc⟩
        have HOw5 := Lib.hid (own_later HOwn.out rb)
        have HB5 : Hid (Below w.heap.size w w5) := HB.out.trans (rb.mono HB.out.size)
        have hz5 := rb.size
        obtain ⟨ag, ac, rfl⟩ := own_shape ho5
        obtain ⟨ab, rfl, -, -, hac⟩ := ownI_at ho5 (by omega) (arrT_len _ _ _ _ _ _)
        have hax := hac tN htN
        rw [HX.out] at hax
        clear hb rb ho5 hac
        go_wp2_with fail
        refine hK.out _ _ hS5 (fun hH7 => ?_)
        clear hK K
        try simp only [Act.put, List.setIfInBounds_toArray, List.set_cons_zero, List.set_cons_succ]
        refine wpAnyH_take (i := 9) (v := ?_) (by simp only [List.getElem?_toArray, List.getElem?_cons_succ, List.getElem?_cons_zero]; rfl) (by kernel_rfl) (by kernel_rfl) (by kernel_rfl) (by exact fun _ _ _ h => h) (Or.inl ⟨by rfl, ?_⟩) (by assumption) ?_
        rotate_left
        · intro w' hSw; obtain ⟨e0, e1, e2, e3⟩ := hSw
          go_simp; try with_reducible rfl
        try simp only [Act.put, List.setIfInBounds_toArray, List.set_cons_zero, List.set_cons_succ]
        refine wpAnyH_ready (rs := [10]) (by kernel_rfl) (by simp) ?_
        refine AllReadyH.cons (by simp only [List.getElem?_toArray, List.getElem?_cons_succ, List.getElem?_cons_zero]; rfl) (fun K hK => ?_) AllReadyH.nil
        go_simp
        refine hK.out _ _ hS5 (fun hH10 => ?_)
        clear hK K
        try simp only [Act.put, List.setIfInBounds_toArray, List.set_cons_zero, List.set_cons_succ]
        refine wpAnyH_take (i := 11) (v := ?_) (by simp only [List.getElem?_toArray, List.getElem?_cons_succ, List.getElem?_cons_zero]; rfl) (by kernel_rfl) (by kernel_rfl) (by kernel_rfl) (by exact fun _ _ _ h => h) (Or.inl ⟨by rfl, ?_⟩) (by assumption) ?_
        rotate_left
        · intro w' hSw; obtain ⟨e0, e1, e2, e3⟩ := hSw
          go_simp; try with_reducible rfl
        try simp only [Act.put, List.setIfInBounds_toArray, List.set_cons_zero, List.set_cons_succ]
        refine wpAnyH_done (by kernel_rfl) ?_ _
        obtain ⟨q0, q1, q2, qd⟩ := hS5
        clear hH7 hH10 p0 p1 p2 hdc HOwn HB
        by_cases h0 : 0 ≤ ax
        · by_cases h1 : ax ≤ by_
          · have HRes : Hid (ldF t ch frm (tN : Int) by_ = (dk, true)) := by
              show _ = _
              rw [HR.out, ← HFi.out, find_first hlt HNot.out (by rw [HDk.out, HGx.out]; exact decide_eq_true ⟨h0, h1⟩), HDk.out]
            go_wp2_with fail
            go_ret2
            exact ⟨by rw [HRes.out]; rfl, HB5.out⟩
          · have HNo : Hid (∀ d ∈ ds.take (k + 1), gd d = false) := by
              intro x hx
              rw [HTk.out] at hx
              rcases List.mem_append.1 hx with hx | hx
              · exact HNot.out x hx
              · simp at hx; rw [hx, HGx.out]; exact decide_eq_false (by omega)
            go_wp2_with fail
            go_roundw
            case rel => exact ⟨k + 1, by omega, by go_num, HNo, q0, q1, q2, HOw5, HB5⟩
            case measure => simp [RowKit.intOf]; omega
        · have HNo : Hid (∀ d ∈ ds.take (k + 1), gd d = false) := by
            intro x hx
            rw [HTk.out] at hx
            rcases List.mem_append.1 hx with hx | hx
            · exact HNot.out x hx
            · simp at hx; rw [hx, HGx.out]; exact decide_eq_false (by omega)
          go_wp2_with fail
          go_roundw
          case rel => exact ⟨k + 1, by omega, by go_num, HNo, q0, q1, q2, HOw5, HB5⟩
          case measure => simp [RowKit.intOf]; omega
      · obtain rfl : k = ds.length := by omega
        have hk1 : ¬ (ds.length : Int) < (ds.length : Int) := by omega
        have HRes : Hid (ldF t ch frm (tN : Int) by_ = (0, false)) := by
          show _ = _
          rw [HR.out, ← HFi.out, List.find?_eq_none.2 (fun x hx => by have := HNot.out x (by rw [List.take_length]; exact hx); simp [this])]
        go_wp2_with fail
        go_ret2
        exact ⟨by rw [HRes.out]; rfl, HB.out⟩
theorem bothLatestDeparture (t : TTD) (hf : TTFits t) (hs : TTSmall t) (ch : Int) (w1 : (Lit.int .i64 ch).wf = true) (frm : Int) (w2 : (Lit.int .i64 frm).wf = true) (too : Int) (w3 : (Lit.int .i64 too).wf = true) (by_ : Int) (w4 : (Lit.int .i64 by_).wf = true) : ∃ (x : Int) (b : Bool), ∀ v w, TTAt w v t →
    Calls Try.prog 33 #[v, .int .i64 ch, .int .i64 frm, .int .i64 too, .int .i64 by_] w (fun e w' => e = .returned (.tuple #[.int .i64 x, .bool b]) ∧ Below w.heap.size w w') ∧
    Calls Try.prog 34 #[v, .int .i64 ch, .int .i64 frm, .int .i64 too, .int .i64 by_] w (fun e w' => e = .returned (.tuple #[.int .i64 x, .bool b]) ∧ Below w.heap.size w w') :=
  ⟨_, _, fun v w h => ⟨specLD_any v t ch frm too by_ w h hf hs, implLD_any v t ch frm too by_ w h hf hs⟩⟩
end Go.Proofs.Ytniankcjgcackaa
