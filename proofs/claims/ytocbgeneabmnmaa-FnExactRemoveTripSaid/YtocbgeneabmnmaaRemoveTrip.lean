/-
  What spec.RemoveTrip returns.
-/
import Derived.Test.YtocbgeneabmnmaaTripNumber
import Derived.Test.YtocbgeneabmnmaaWithout
import Derived.Test.YtocbgeneabmnmaaDelTrip
import Derived.Test.YtocbgeneabmnmaaCopyTT
namespace Go.Proofs.Ytocbgeneabmnmaa
open Go.RowKit
set_option linter.unusedVariables false

-- REMOVE
noncomputable def reF (t : TTD) (id : Int) : TTD × Bool := if TTGood t ∧ foundB id t.trips = true then (wiT t (placeOf id t.trips), true) else (⟨⟨[], []⟩, []⟩, false)
theorem reF_small {t : TTD} {id : Int} (hs : TTSmall t) : TTSmall (reF t id).1 := by
  unfold reF
  split
  · refine ⟨hs.1, ?_⟩
    have := hs.2
    unfold TripsSmall at *
    simp only [wiT, List.length_append, List.length_take, List.length_drop]
    omega
  · exact ⟨⟨by simp, by simp, by simp, by simp [lineTot]⟩, by simp [TripsSmall]⟩

set_option maxRecDepth 100000 in
set_option maxHeartbeats 4000000 in
theorem specRemoveTrip_any (v : Value) (t : TTD) (id : Int) (w : World) (hr : TTAt w v t) (hf : TTFits t) (hs : TTSmall t) :
    Calls Try.prog 46 #[v, .int .i64 id] w fun e w' => ∃ z, e = .returned (.tuple #[z, .bool (reF t id).2]) ∧ TTL w.heap.size w'.heap.size w' z (reF t id).1 ∧ Below w.heap.size w w' := by
  have HG := Lib.hid (fun W (hW : Below w.heap.size w W) => l5Good_any v t W (hr.below rfl hW) hf)
  have HF := Lib.hid (fun W (hW : Below w.heap.size w W) => l5Find_any v t id W (hr.below rfl hW) hs)
  have HCp := Lib.hid (fun W (hW : Below w.heap.size w W) (hg : NetGood t.net) (hl : t.trips.length ≤ 12) p hp => l5Without_any v t p W (hr.below rfl hW) hg hl hp)
  obtain ⟨a, c, a', c', b, d, rfl, -, -⟩ := tt_open hr
  clear hr
  have HI : Hid (Rz ((w.alloc (.cells #[.slice a t.net.stops.length c, .slice a' t.net.lines.length c', .slice b t.trips.length d] 30 (0, 0))).alloc (.cells #[.slice none 0 0, .slice none 0 0, .slice none 0 0] 30 (0, 0))) (w.heap.size + 1)) := ⟨by go_simp, by go_simp, by go_simp, by simp, fun o => by go_simp⟩
  have HB0 : Hid (Below w.heap.size w ((w.alloc (.cells #[.slice a t.net.stops.length c, .slice a' t.net.lines.length c', .slice b t.trips.length d] 30 (0, 0))).alloc (.cells #[.slice none 0 0, .slice none 0 0, .slice none 0 0] 30 (0, 0)))) := ((Below.refl _ _).alloc (Nat.le_refl _) _).alloc (by simp) _
  by_cases hg : TTGood t
  · rw [ttB_yes hg] at HG
    cases hfd : foundB id t.trips with
    | true =>
      obtain ⟨hfi, hp⟩ := findI_found hg.Asc hfd
      rw [hfi] at HF
      have hlt0 : ¬ (placeOf id t.trips : Int) < 0 := by omega
      have HCp2 := Lib.hid (fun W (hW : Below w.heap.size w W) => HCp.out W hW hg.1 hg.2.1 _ hp)
      have HN : Hid (reF t id = (wiT t (placeOf id t.trips), true)) := if_pos ⟨hg, hfd⟩
      clear hf hs hg hfd HCp hfi
      go_enter Try.func46, Try.ntmps46
      go_wp2_with fail
      go_at_call 60
      refine (HG.out _ HB0.out).mono ?_
      rintro e w1 ⟨rfl, hb1⟩
      have HB1 := Lib.hid (HB0.out.trans (hb1.mono HB0.out.size))
      have HR1 := Lib.hid (HI.out.later hb1)
      have p0 : w1.cell? ⟨w.heap.size, 0, none⟩ = some (.slice a t.net.stops.length c) := bkeep hb1 (by go_simp)
      have p1 : w1.cell? ⟨w.heap.size, 1, none⟩ = some (.slice a' t.net.lines.length c') := bkeep hb1 (by go_simp)
      have p2 : w1.cell? ⟨w.heap.size, 2, none⟩ = some (.slice b t.trips.length d) := bkeep hb1 (by go_simp)
      clear hb1
      go_wp2_with fail
      go_at_call 68
      refine (HF.out _ HB1.out).mono ?_
      rintro e w2 ⟨rfl, hb2⟩
      have HB2 := Lib.hid (HB1.out.trans (hb2.mono HB1.out.size))
      have HR2 := Lib.hid (HR1.out.later hb2)
      have q0 := bkeep hb2 p0
      have q1 := bkeep hb2 p1
      have q2 := bkeep hb2 p2
      clear hb2 p0 p1 p2 HB1 HR1
      go_wp2_with fail
      refine wp_region_held_drew (S := (fun w' => w'.cell? ⟨w.heap.size, 0, none⟩ = some (.slice a t.net.stops.length c) ∧ w'.cell? ⟨w.heap.size, 1, none⟩ = some (.slice a' t.net.lines.length c') ∧ w'.cell? ⟨w.heap.size, 2, none⟩ = some (.slice b t.trips.length d) ∧ Below w.heap.size w w')) (by kernel_rfl) ?_ (fun hHeld => ?_)
      · exact ⟨q0, q1, q2, HB2.out.drew⟩
      refine wpAnyH_take (i := 0) (v := ?_) (by simp only [List.getElem?_toArray, List.getElem?_cons_zero]; rfl) (by kernel_rfl) (by kernel_rfl) (by kernel_rfl) (by exact fun _ _ _ h => h) (Or.inl ⟨by rfl, ?_⟩) (by assumption) ?_
      rotate_left
      · intro w' hSw; obtain ⟨e1, e2, e3, _⟩ := hSw
        go_simp; try with_reducible rfl
      try simp only [Act.put, List.setIfInBounds_toArray, List.set_cons_zero, List.set_cons_succ]
      refine wpAnyH_take (i := 1) (v := ?_) (by simp only [List.getElem?_toArray, List.getElem?_cons_succ, List.getElem?_cons_zero]; rfl) (by kernel_rfl) (by kernel_rfl) (by kernel_rfl) (by exact fun _ _ _ h => h) (Or.inl ⟨by rfl, ?_⟩) (by assumption) ?_
      rotate_left
      · intro w' hSw; obtain ⟨e1, e2, e3, _⟩ := hSw
        go_simp; try with_reducible rfl
      try simp only [Act.put, List.setIfInBounds_toArray, List.set_cons_zero, List.set_cons_succ]
      refine wpAnyH_take (i := 2) (v := ?_) (by simp only [List.getElem?_toArray, List.getElem?_cons_succ, List.getElem?_cons_zero]; rfl) (by kernel_rfl) (by kernel_rfl) (by kernel_rfl) (by exact fun _ _ _ h => h) (Or.inl ⟨by rfl, ?_⟩) (by assumption) ?_
      rotate_left
      · intro w' hSw; obtain ⟨e1, e2, e3, _⟩ := hSw
        go_simp; try with_reducible rfl
      try simp only [Act.put, List.setIfInBounds_toArray, List.set_cons_zero, List.set_cons_succ]
      refine wpAnyH_ready (rs := [3]) (by kernel_rfl) (by simp) ?_
      refine AllReadyH.cons (by simp only [List.getElem?_toArray, List.getElem?_cons_succ, List.getElem?_cons_zero]; rfl) (fun K hK => ?_) AllReadyH.nil
      go_simp
      go_at_call 68
      refine (HF.out _ (belT hHeld)).mono ?_
      rintro e w3 ⟨rfl, hb3⟩
      have HR3 := Lib.hid (show Rz w3 (w.heap.size + 1) from Rz.later (w := w2.drew) HR2.out hb3)
      go_wp2_with fail
      refine hK.out _ _ ?_ (fun hH3 => ?_)
      · exact keepT hb3 hHeld
      clear hK K
      try simp only [Act.put, List.setIfInBounds_toArray, List.set_cons_zero, List.set_cons_succ]
      refine wpAnyH_ready (rs := [4]) (by kernel_rfl) (by simp) ?_
      refine AllReadyH.cons (by simp only [List.getElem?_toArray, List.getElem?_cons_succ, List.getElem?_cons_zero]; rfl) (fun K hK => ?_) AllReadyH.nil
      go_simp
      go_at_call 95
      refine (HCp2.out _ (belT hH3)).mono ?_
      rintro e w4 ⟨z, rfl, hi4, hb4⟩
      have HI4 := Lib.hid hi4
      have HR4 := Lib.hid (HR3.out.later hb4)
      obtain ⟨x1, x2, x3, x4, x5, x6, rfl⟩ := Timetable_open hi4.at
      go_wp2_with fail
      refine hK.out _ _ ?_ (fun hH4 => ?_)
      · exact keepT hb4 hH3
      clear hK K hi4
      try simp only [Act.put, List.setIfInBounds_toArray, List.set_cons_zero, List.set_cons_succ]
      obtain ⟨r0, r1, r2, rz, rf⟩ := HR4.out
      refine wpAnyH_ready (rs := [5]) (by kernel_rfl) (by simp) ?_
      refine AllReadyH.cons (by simp only [List.getElem?_toArray, List.getElem?_cons_succ, List.getElem?_cons_zero]; rfl) (fun K hK => ?_) AllReadyH.nil
      go_simp
      refine hK.out _ _ ?_ (fun hH5 => ?_)
      · exact ⟨(set_otherT (by omega)).trans ((set_otherT (by omega)).trans ((set_otherT (by omega)).trans hH4.1)), (set_otherT (by omega)).trans ((set_otherT (by omega)).trans ((set_otherT (by omega)).trans hH4.2.1)), (set_otherT (by omega)).trans ((set_otherT (by omega)).trans ((set_otherT (by omega)).trans hH4.2.2.1)), ((hH4.2.2.2.setCell (p := ⟨w.heap.size + 1, _, none⟩) (by simp) _).setCell (p := ⟨w.heap.size + 1, _, none⟩) (by simp) _).setCell (p := ⟨w.heap.size + 1, _, none⟩) (by simp) _⟩
      clear hK K
      try simp only [Act.put, List.setIfInBounds_toArray, List.set_cons_zero, List.set_cons_succ]
      refine wpAnyH_take (i := 6) (v := ?_) (by simp only [List.getElem?_toArray, List.getElem?_cons_succ, List.getElem?_cons_zero]; rfl) (by kernel_rfl) (by kernel_rfl) (by kernel_rfl) (by exact fun _ _ _ h => h) (Or.inl ⟨by rfl, ?_⟩) (by assumption) ?_
      rotate_left
      · intro w' hSw; obtain ⟨e1, e2, e3, _⟩ := hSw
        go_simp; try with_reducible rfl
      try simp only [Act.put, List.setIfInBounds_toArray, List.set_cons_zero, List.set_cons_succ]
      refine wpAnyH_done (by kernel_rfl) ?_ _
      go_wp2_with fail
      refine bodyPost_ret (v := .tuple #[.agg #[.slice x1 (wiT t (placeOf id t.trips)).net.stops.length x2, .slice x3 (wiT t (placeOf id t.trips)).net.lines.length x4, .slice x5 (wiT t (placeOf id t.trips)).trips.length x6], .bool true]) (by simp only [results, Try.results46]; go_simp) rfl ?_
      rw [HN.out]
      have ho : ∀ u0 u1 u2 : Value, Out (w.heap.size + 1) (w.heap.size + 2) w4 (((w4.setCell ⟨w.heap.size + 1, 0, none⟩ u0).setCell ⟨w.heap.size + 1, 1, none⟩ u1).setCell ⟨w.heap.size + 1, 2, none⟩ u2) := fun u0 u1 u2 => (((Out.refl _ _ _).setCell (p := ⟨_, _, none⟩) (by simp) (by simp) _).setCell (p := ⟨_, _, none⟩) (by simp) (by simp) _).setCell (p := ⟨_, _, none⟩) (by simp) (by simp) _
      have hz3 := HR3.out.2.2.2.1
      exact ⟨_, rfl, (HI4.out.out (ho _ _ _) (.inr (by omega))).base (by omega) (by simp [World.setCell]), hH5.2.2.2⟩
    | false =>
      have hfi := findI_none hg.Asc hfd
      rw [hfi] at HF
      have HN : Hid (reF t id = (⟨⟨[], []⟩, []⟩, false)) := if_neg (fun h => by rw [hfd] at h; cases h.2)
      clear hf hs hg hfd HCp hfi
      go_enter Try.func46, Try.ntmps46
      go_wp2_with fail
      go_at_call 60
      refine (HG.out _ HB0.out).mono ?_
      rintro e w1 ⟨rfl, hb1⟩
      have HB1 := Lib.hid (HB0.out.trans (hb1.mono HB0.out.size))
      have HR1 := Lib.hid (HI.out.later hb1)
      have p0 : w1.cell? ⟨w.heap.size, 0, none⟩ = some (.slice a t.net.stops.length c) := bkeep hb1 (by go_simp)
      have p1 : w1.cell? ⟨w.heap.size, 1, none⟩ = some (.slice a' t.net.lines.length c') := bkeep hb1 (by go_simp)
      have p2 : w1.cell? ⟨w.heap.size, 2, none⟩ = some (.slice b t.trips.length d) := bkeep hb1 (by go_simp)
      clear hb1
      go_wp2_with fail
      go_at_call 68
      refine (HF.out _ HB1.out).mono ?_
      rintro e w2 ⟨rfl, hb2⟩
      have HB2 := Lib.hid (HB1.out.trans (hb2.mono HB1.out.size))
      obtain ⟨r0, r1, r2, rz, rf⟩ := HR1.out.later hb2
      clear hb2 p0 p1 p2 HB1
      go_wp2_with fail
      refine bodyPost_ret (v := .tuple #[.agg #[.slice none 0 0, .slice none 0 0, .slice none 0 0], .bool false]) (by simp only [results, Try.results46]; go_simp) rfl ?_
      rw [HN.out]
      have hbz := fun (u0 u1 u2 : Value) => ((HB2.out.setCell (p := ⟨w.heap.size + 1, 0, none⟩) (by simp) u0).setCell (p := ⟨w.heap.size + 1, 1, none⟩) (by simp) u1).setCell (p := ⟨w.heap.size + 1, 2, none⟩) (by simp) u2
      exact ⟨_, rfl, TTL.zero _ _ _ (hbz (.slice none 0 0) (.slice none 0 0) (.slice none 0 0)).size, hbz _ _ _⟩
  · rw [ttB_no hg] at HG
    have HN : Hid (reF t id = (⟨⟨[], []⟩, []⟩, false)) := if_neg (fun h => hg h.1)
    clear hf hs hg HCp HF
    go_enter Try.func46, Try.ntmps46
    go_wp2_with fail
    go_at_call 60
    refine (HG.out _ HB0.out).mono ?_
    rintro e w1 ⟨rfl, hb1⟩
    have HB1 := Lib.hid (HB0.out.trans (hb1.mono HB0.out.size))
    obtain ⟨r0, r1, r2, rz, rf⟩ := HI.out.later hb1
    clear hb1
    go_wp2_with fail
    refine bodyPost_ret (v := .tuple #[.agg #[.slice none 0 0, .slice none 0 0, .slice none 0 0], .bool false]) (by simp only [results, Try.results46]; go_simp) rfl ?_
    rw [HN.out]
    have hbz := fun (u0 u1 u2 : Value) => ((HB1.out.setCell (p := ⟨w.heap.size + 1, 0, none⟩) (by simp) u0).setCell (p := ⟨w.heap.size + 1, 1, none⟩) (by simp) u1).setCell (p := ⟨w.heap.size + 1, 2, none⟩) (by simp) u2
    exact ⟨_, rfl, TTL.zero _ _ _ (hbz (.slice none 0 0) (.slice none 0 0) (.slice none 0 0)).size, hbz _ _ _⟩

theorem del_tail (xs : List TripD) (p : Nat) (hp : p < xs.length) (cs : List Value) (h : cs.take (xs.length * 3) = tripC xs) : (cs.drop ((p + 1) * 3)).take ((xs.length - (p + 1)) * 3) = tripC (xs.drop (p + 1)) := by
  have : (cs.take (xs.length * 3)).drop ((p + 1) * 3) = (cs.drop ((p + 1) * 3)).take ((xs.length - (p + 1)) * 3) := by
    rw [List.drop_take]; congr 1; omega
  rw [← this, h]
  have e : tripC xs = tripC (xs.take (p + 1)) ++ tripC (xs.drop (p + 1)) := by rw [← tripC_append, List.take_append_drop]
  rw [e, ← show (tripC (xs.take (p + 1))).length = (p + 1) * 3 by rw [tripC_len]; simp; omega]
  exact List.drop_left
theorem del_cells (xs : List TripD) (p : Nat) (hp : p < xs.length) (cs : List Value) (h : cs.take (xs.length * 3) = tripC xs) : cs.take (p * 3) ++ (cs.drop ((p + 1) * 3)).take ((xs.length - (p + 1)) * 3) = tripC (xs.take p ++ xs.drop (p + 1)) := by
  have hA : cs.take (p * 3) = tripC (xs.take p) := by
    have : (cs.take (xs.length * 3)).take (p * 3) = cs.take (p * 3) := by rw [List.take_take, Nat.min_eq_left (by omega)]
    rw [← this, h]
    have e : tripC xs = tripC (xs.take p) ++ tripC (xs.drop p) := by rw [← tripC_append, List.take_append_drop]
    rw [e, ← show (tripC (xs.take p)).length = p * 3 by rw [tripC_len]; simp; omega]
    exact List.take_left
  have hB : (cs.drop ((p + 1) * 3)).take ((xs.length - (p + 1)) * 3) = tripC (xs.drop (p + 1)) := by
    have : (cs.take (xs.length * 3)).drop ((p + 1) * 3) = (cs.drop ((p + 1) * 3)).take ((xs.length - (p + 1)) * 3) := by
      rw [List.drop_take]; congr 1; omega
    rw [← this, h]
    have e : tripC xs = tripC (xs.take (p + 1)) ++ tripC (xs.drop (p + 1)) := by rw [← tripC_append, List.take_append_drop]
    rw [e, ← show (tripC (xs.take (p + 1))).length = (p + 1) * 3 by rw [tripC_len]; simp; omega]
    exact List.drop_left
  rw [hA, hB, tripC_append]

set_option maxRecDepth 100000 in
set_option maxHeartbeats 4000000 in
theorem implRemoveTrip_any (v : Value) (t : TTD) (id : Int) (w : World) (hr : TTAt w v t) (hf : TTFits t) (hs : TTSmall t) :
    Calls Try.prog 21 #[v, .int .i64 id] w fun e w' => ∃ z, e = .returned (.tuple #[z, .bool (reF t id).2]) ∧ TTIn w.heap.size w'.heap.size w' z (reF t id).1 ∧ Below w.heap.size w w' := by
  have HT := Lib.hid (fun W (hW : Below w.heap.size w W) => implTripNumber_any v t id W (hr.below rfl hW) hf hs)
  have HCp := Lib.hid (fun W (hW : Below w.heap.size w W) (hg : NetGood t.net) (hl : t.trips.length ≤ 12) => copyTimetable_any v t W (hr.below rfl hW) hg hl)
  obtain ⟨a, c, a', c', b, d, rfl, -, -⟩ := tt_open hr
  clear hr
  have HI : Hid (Rz ((w.alloc (.cells #[.slice a t.net.stops.length c, .slice a' t.net.lines.length c', .slice b t.trips.length d] 30 (0, 0))).alloc (.cells #[.slice none 0 0, .slice none 0 0, .slice none 0 0] 30 (0, 0))) (w.heap.size + 1)) := ⟨by go_simp, by go_simp, by go_simp, by simp, fun o => by go_simp⟩
  have HB0 : Hid (Below w.heap.size w ((w.alloc (.cells #[.slice a t.net.stops.length c, .slice a' t.net.lines.length c', .slice b t.trips.length d] 30 (0, 0))).alloc (.cells #[.slice none 0 0, .slice none 0 0, .slice none 0 0] 30 (0, 0)))) := ((Below.refl _ _).alloc (Nat.le_refl _) _).alloc (by simp) _
  by_cases hgf : TTGood t ∧ foundB id t.trips = true
  · rw [show numF t id = ((placeOf id t.trips : Int), true) from if_pos hgf] at HT
    have HN : Hid (reF t id = (wiT t (placeOf id t.trips), true)) := if_pos hgf
    obtain ⟨hg, hfd⟩ := hgf
    have hp := (findI_found hg.Asc hfd).2
    have HCp2 := Lib.hid (fun W (hW : Below w.heap.size w W) => HCp.out W hW hg.1 hg.2.1)
    have hl12 := hg.2.1
    clear hf hs hg hfd HCp
    have hp1 : (placeOf id t.trips : Int) < (t.trips.length : Int) := by omega
    have hp0 : (0 : Int) ≤ (placeOf id t.trips : Int) := by omega
    have hwp : IntKind.i64.wrap ((placeOf id t.trips : Int) + 1) = ((placeOf id t.trips + 1 : Nat) : Int) := by
      simp [IntKind.wrap, IntKind.bits, IntKind.signed]
      split <;> omega
    go_enter Try.func21, Try.ntmps21
    go_wp2_with fail
    go_at_call 38
    refine (HT.out _ HB0.out).mono ?_
    rintro e w1 ⟨rfl, hb1⟩
    have HB1 := Lib.hid (HB0.out.trans (hb1.mono HB0.out.size))
    have HR1 := Lib.hid (HI.out.later hb1)
    have p0 : w1.cell? ⟨w.heap.size, 0, none⟩ = some (.slice a t.net.stops.length c) := bkeep hb1 (by go_simp)
    have p1 : w1.cell? ⟨w.heap.size, 1, none⟩ = some (.slice a' t.net.lines.length c') := bkeep hb1 (by go_simp)
    have p2 : w1.cell? ⟨w.heap.size, 2, none⟩ = some (.slice b t.trips.length d) := bkeep hb1 (by go_simp)
    clear hb1
    go_wp2_with fail
    go_at_call 56
    refine (HCp2.out _ HB1.out).mono ?_
    rintro e w2 ⟨a5, c5, a5', c5', b5, d5, rfl, hi2, hb2⟩
    have HB2 := Lib.hid (HB1.out.trans (hb2.mono HB1.out.size))
    have HR2 := Lib.hid (HR1.out.later hb2)
    have HI2 := Lib.hid hi2
    clear hi2 hb2 p0 p1 p2
    obtain ⟨m, m', hNet, htr, hl1, hl2, hl3, hside⟩ : ∃ m m', NetIn m m' w2 (.agg #[.slice a5 t.net.stops.length c5, .slice a5' t.net.lines.length c5']) t.net ∧ TripsIn w1.heap.size w2.heap.size w2 (.slice (some ⟨b5, 0, none⟩) t.trips.length d5) t.trips ∧ w1.heap.size ≤ m ∧ m ≤ m' ∧ m' ≤ w2.heap.size ∧ (b5 < m ∨ m' ≤ b5) := by
      obtain ⟨_, _, _, m, m', hv, h1, h2, h3, h4, h5⟩ := HI2.out
      simp at hv
      obtain ⟨rfl, rfl, rfl⟩ := hv
      exact ⟨m, m', h1, h2, h3.1, h3.2, h4, h5 b5 rfl⟩
    have hb5 := htr.1.lt b5 rfl
    have hD : ∃ X, X = w2.alloc (.cells #[.slice a5 t.net.stops.length c5, .slice a5' t.net.lines.length c5', .slice (some ⟨b5, 0, none⟩) t.trips.length d5] 30 (0, 0)) ∧ Calls Try.prog 65 #[.slice (some ⟨b5, 0, none⟩) t.trips.length d5, .int .i64 (placeOf id t.trips : Int), .int .i64 ((placeOf id t.trips : Int) + 1)] X fun e w' => e = .returned (.slice (some ⟨b5, 0, none⟩) (t.trips.length - 1) d5) ∧ X.grownBy w' (some b5) ∧ w'.ownsRow b5 32 3 (.slice (some ⟨b5, 0, none⟩) (t.trips.length - 1) d5) (t.trips.length - 1) (tripC (t.trips.take (placeOf id t.trips) ++ t.trips.drop (placeOf id t.trips + 1))) := by
      refine ⟨_, rfl, ?_⟩
      have ho := (htr.later ((Below.refl w2.heap.size w2).alloc (Nat.le_refl _) (.cells #[.slice a5 t.net.stops.length c5, .slice a5' t.net.lines.length c5', .slice (some ⟨b5, 0, none⟩) t.trips.length d5] 30 (0, 0)))).1
      obtain ⟨hlen, h2⟩ := ho
      rcases h2 with ⟨hv, _⟩ | ⟨g', cap, cur, hv, hB, hh, hnc, hcm, hcs, htake⟩
      · simp at hv
      simp at hv
      obtain ⟨rfl, rfl⟩ := hv
      have h9 := delTrip_any _ b5 t.trips.length d5 (placeOf id t.trips) cur hh hp hnc hcm hcs (by rw [del_tail t.trips _ hp _ htake]; exact tripC_cells _)
      rw [del_cells t.trips _ hp _ htake, show ((placeOf id t.trips + 1 : Nat) : Int) = (placeOf id t.trips : Int) + 1 by omega] at h9
      exact h9
    obtain ⟨w3, hw3, hD⟩ := hD
    have hs3 : w3.heap.size = w2.heap.size + 1 := by rw [hw3]; simp
    have HB3 : Hid (Below w.heap.size w w3) := by rw [hw3]; exact HB2.out.alloc HB2.out.size _
    have HR3 : Hid (Rz w3 (w.heap.size + 1)) := by rw [hw3]; exact HR2.out.later ((Below.refl w2.heap.size w2).alloc (Nat.le_refl _) _)
    have hNet3 : NetIn m m' w3 (.agg #[.slice a5 t.net.stops.length c5, .slice a5' t.net.lines.length c5']) t.net := by rw [hw3]; exact hNet.later ((Below.refl w2.heap.size w2).alloc (Nat.le_refl _) _)
    have t0 : w3.cell? ⟨w2.heap.size, 0, none⟩ = some (.slice a5 t.net.stops.length c5) := by rw [hw3]; go_simp
    have t1 : w3.cell? ⟨w2.heap.size, 1, none⟩ = some (.slice a5' t.net.lines.length c5') := by rw [hw3]; go_simp
    have t2 : w3.cell? ⟨w2.heap.size, 2, none⟩ = some (.slice (some ⟨b5, 0, none⟩) t.trips.length d5) := by rw [hw3]; go_simp
    have tf : ∀ o, w3.frozen? ⟨w2.heap.size, o, none⟩ = false := fun o => by rw [hw3]; go_simp
    go_wp2_with fail
    rw [← hw3]
    refine hD.mono ?_
    rintro e w4 ⟨rfl, hgr, hown⟩
    have hne : ∀ q, q ≠ b5 → some q ≠ some b5 := fun q hq e => hq (by simpa using e)
    have hz1 := HR1.out.2.2.2.1
    have u0 := hgr.cell t0 (hne _ (by dsimp only; omega))
    have u1 := hgr.cell t1 (hne _ (by dsimp only; omega))
    have u2 := hgr.cell t2 (hne _ (by dsimp only; omega))
    have uf : ∀ o, w4.frozen? ⟨w2.heap.size, o, none⟩ = false := fun o => by rw [hgr.frozen_far ⟨w2.heap.size, o, none⟩ (by dsimp only; omega) (hne _ (by dsimp only; omega))]; exact tf o
    obtain ⟨r0, r1, r2, rz, rf⟩ := HR3.out.grown hgr (hne _ (by omega)) (by omega)
    have HB4 := Lib.hid (HB3.out.grown hgr HB3.out.size (fun q hq => by simp at hq; omega))
    have hNet4 := Lib.hid (hNet3.keep hgr.size (fun q h1 h2 h3 => hgr.block q h3 (hne _ (by omega))))
    have HOw := Lib.hid hown
    have hz4 := hgr.size
    have hlt4 := (hown.lt b5 rfl).2
    have hqa : w.heap.size + 1 ≠ w2.heap.size := by omega
    have hqb : w2.heap.size ≠ w.heap.size + 1 := by omega
    clear hgr hown t0 t1 t2 tf hw3 hD
    go_wp2_with fail
    refine bodyPost_ret (v := .tuple #[.agg #[.slice a5 t.net.stops.length c5, .slice a5' t.net.lines.length c5', .slice (some ⟨b5, 0, none⟩) (t.trips.length - 1) d5], .bool true]) (by simp only [results, Try.results21]; go_simp) rfl ?_
    rw [HN.out]
    have ho : ∀ u u0 u1 u2 : Value, Out (w.heap.size + 1) (w.heap.size + 2) (w4.setCell ⟨w2.heap.size, 2, none⟩ u) ((((w4.setCell ⟨w2.heap.size, 2, none⟩ u).setCell ⟨w.heap.size + 1, 0, none⟩ u0).setCell ⟨w.heap.size + 1, 1, none⟩ u1).setCell ⟨w.heap.size + 1, 2, none⟩ u2) := fun u u0 u1 u2 => (((Out.refl _ _ _).setCell (p := ⟨_, _, none⟩) (by simp) (by simp) _).setCell (p := ⟨_, _, none⟩) (by simp) (by simp) _).setCell (p := ⟨_, _, none⟩) (by simp) (by simp) _
    have ho1 : ∀ u : Value, Out w2.heap.size (w2.heap.size + 1) w4 (w4.setCell ⟨w2.heap.size, 2, none⟩ u) := fun u => (Out.refl _ _ _).setCell (p := ⟨_, _, none⟩) (by simp) (by simp) _
    have hbf : Below w.heap.size w ((((w4.setCell ⟨w2.heap.size, 2, none⟩ (.slice (some ⟨b5, 0, none⟩) (t.trips.length - 1) d5)).setCell ⟨w.heap.size + 1, 0, none⟩ (.slice a5 t.net.stops.length c5)).setCell ⟨w.heap.size + 1, 1, none⟩ (.slice a5' t.net.lines.length c5')).setCell ⟨w.heap.size + 1, 2, none⟩ (.slice (some ⟨b5, 0, none⟩) (t.trips.length - 1) d5)) := ((((HB4.out.setCell (p := ⟨w2.heap.size, 2, none⟩) (by show w.heap.size ≤ w2.heap.size; omega) _).setCell (p := ⟨w.heap.size + 1, 0, none⟩) (by simp) _).setCell (p := ⟨w.heap.size + 1, 1, none⟩) (by simp) _).setCell (p := ⟨w.heap.size + 1, 2, none⟩) (by simp) _)
    have hT7 := own_block HOw.out (w' := ((((w4.setCell ⟨w2.heap.size, 2, none⟩ (.slice (some ⟨b5, 0, none⟩) (t.trips.length - 1) d5)).setCell ⟨w.heap.size + 1, 0, none⟩ (.slice a5 t.net.stops.length c5)).setCell ⟨w.heap.size + 1, 1, none⟩ (.slice a5' t.net.lines.length c5')).setCell ⟨w.heap.size + 1, 2, none⟩ (.slice (some ⟨b5, 0, none⟩) (t.trips.length - 1) d5))) (fun g hg => by
      simp [Value.ownBlock] at hg
      subst hg
      rw [(ho _ _ _ _).block (.inr (by omega)) (by simp [World.setCell]; omega), (ho1 _).block (.inl (by omega)) hlt4])
    have hL : (t.trips.take (placeOf id t.trips) ++ t.trips.drop (placeOf id t.trips + 1)).length = t.trips.length - 1 := by simp; omega
    refine ⟨_, rfl, ?_, hbf⟩
    show TTIn _ _ _ _ ⟨t.net, t.trips.take (placeOf id t.trips) ++ t.trips.drop (placeOf id t.trips + 1)⟩
    exact ⟨_, _, _, m, m', rfl, (hNet4.out.out (ho1 _) (.inl (by omega))).out (ho _ _ _ _) (.inr (by omega)), ⟨by rw [hL]; exact own_base hT7 (by omega), fun g hg => by simp [Value.ownBlock] at hg; simp [World.setCell]; omega⟩, ⟨by omega, hl2⟩, by simp [World.setCell]; omega, fun g hg => by simp [Value.ownBlock] at hg; omega⟩
  · rw [show numF t id = (0, false) from if_neg hgf] at HT
    have HN : Hid (reF t id = (⟨⟨[], []⟩, []⟩, false)) := if_neg hgf
    clear hgf hf hs HCp
    go_enter Try.func21, Try.ntmps21
    go_wp2_with fail
    go_at_call 38
    refine (HT.out _ HB0.out).mono ?_
    rintro e w1 ⟨rfl, hb1⟩
    have HB1 := Lib.hid (HB0.out.trans (hb1.mono HB0.out.size))
    obtain ⟨r0, r1, r2, rz, rf⟩ := HI.out.later hb1
    clear hb1
    go_wp2_with fail
    refine bodyPost_ret (v := .tuple #[.agg #[.slice none 0 0, .slice none 0 0, .slice none 0 0], .bool false]) (by simp only [results, Try.results21]; go_simp) rfl ?_
    rw [HN.out]
    have hbz := fun (u0 u1 u2 : Value) => ((HB1.out.setCell (p := ⟨w.heap.size + 1, 0, none⟩) (by simp) u0).setCell (p := ⟨w.heap.size + 1, 1, none⟩) (by simp) u1).setCell (p := ⟨w.heap.size + 1, 2, none⟩) (by simp) u2
    exact ⟨_, rfl, TTIn.zero _ _ _ (hbz (.slice none 0 0) (.slice none 0 0) (.slice none 0 0)).size, hbz _ _ _⟩

theorem bothRemoveTrip (t : TTD) (hf : TTFits t) (hs : TTSmall t) (id : Int) (w1 : (Lit.int .i64 id).wf = true) : ∃ (res : TTD) (q : Bool), TTSmall res ∧ ∀ (v : Value) (w : World), TTAt w v t →
    Calls Try.prog 46 #[v, .int .i64 id] w (fun e w' => ∃ z, e = .returned (.tuple #[z, .bool q]) ∧ TTL w.heap.size w'.heap.size w' z res ∧ Below w.heap.size w w') ∧
    Calls Try.prog 21 #[v, .int .i64 id] w (fun e w' => ∃ z, e = .returned (.tuple #[z, .bool q]) ∧ TTIn w.heap.size w'.heap.size w' z res ∧ Below w.heap.size w w') :=
  ⟨_, _, reF_small hs, fun v w h => ⟨specRemoveTrip_any v t id w h hf hs, implRemoveTrip_any v t id w h hf hs⟩⟩
end Go.Proofs.Ytocbgeneabmnmaa
