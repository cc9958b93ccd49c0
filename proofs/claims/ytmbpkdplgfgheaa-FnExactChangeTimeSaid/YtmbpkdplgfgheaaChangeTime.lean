/-
  CONTRACTS: spec.ChangeTime; both sides.
-/
import Derived.Test.YtmbpkdplgfgheaaChangeTimeI
namespace Go.Proofs.Ytmbpkdplgfgheaa
open Go.RowKit
set_option linter.unusedVariables false
set_option linter.unusedSimpArgs false

theorem getD_at {xs : List Int} {k : Nat} (h : k < xs.length) : xs.getD k 0 = xs[k] := by simp [h]
theorem bestN_some {s : Option (Int × Int)} (h : s.isSome = true) : bestN s = bestV s := by cases s with
  | none => cases h
  | some bq => rfl
theorem bestN_none {s : Option (Int × Int)} (h : s.isSome = false) : bestN s = -1 := by cases s with
  | none => rfl
  | some bq => cases h
theorem runSum0 (l : LineD) (p : Nat) : runSum l 0 p = (l.runs.take p).sum := runSum_zero l p

set_option maxRecDepth 100000 in
set_option maxHeartbeats 8000000 in
theorem specChange_any (tv lv : Value) (t : TTD) (ws : List WlkD) (x y : Int) (w : World) (hr : TTAt w tv t) (hl : WalksAt w lv ws) (hf : TTFits t) (hs : TTSmall t) :
    Calls Try.prog 48 #[tv, lv, .int .i64 x, .int .i64 y] w fun e w' => e = .returned (.tuple #[.int .i64 (bestV (ctRes t ws x y)), .int .i64 (stopV (ctRes t ws x y)), .bool (ctRes t ws x y).isSome]) ∧ Below w.heap.size w w' := by
  have H1 := Lib.hid (fun W (h : Below w.heap.size w W) => l5Good_any tv t W (hr.below rfl h) hf)
  have htt := hr
  obtain ⟨a, c, a', c', tb, td, rfl, hn, htr⟩ := tt_open htt
  have H2 := Lib.hid (fun W (h : Below w.heap.size w W) => l7Good_any0 (.agg #[.slice a t.net.stops.length c, .slice a' t.net.lines.length c']) lv t.net ws W (hn.below rfl h) (hl.below rfl h) hf.1)
  have H3 := Lib.hid (fun W (h : Below w.heap.size w W) => l5Find_any _ t x W (hr.below rfl h) hs)
  have H4 := Lib.hid (fun W (h : Below w.heap.size w W) => l5Find_any _ t y W (hr.below rfl h) hs)
  by_cases h1 : ttB t = true
  · rw [h1] at H1
    have hg := ttB_iff h1
    have hasc : Asc t.trips := fun i j hij hj => hg.asc i j hij hj
    by_cases h2 : walksB t.net ws = true
    · rw [h2] at H2
      by_cases h3 : x = y
      · rw [show ctRes t ws x y = none from if_neg (fun h => h.2.2.1 h3)]
        have hd : (x == y) = true := by simpa using h3
        obtain ⟨lb, ld, rfl⟩ := WalkS_open hl
        clear hr hl hf hs hn htr h1 h2 h3 hg hasc H3 H4
        go_enter Try.func48, Try.ntmps48
        go_wp2_with fail
        go_at_call 120
        refine (H1.out _ ((Below.refl _ _).alloc (Nat.le_refl _) _)).mono ?_
        rintro e w1 ⟨rfl, hb1⟩
        have p0 : w1.cell? ⟨w.heap.size, 0, none⟩ = some (.slice a t.net.stops.length c) := bkeep hb1 (by go_simp)
        have p1 : w1.cell? ⟨w.heap.size, 1, none⟩ = some (.slice a' t.net.lines.length c') := bkeep hb1 (by go_simp)
        have p2 : w1.cell? ⟨w.heap.size, 2, none⟩ = some (.slice tb t.trips.length td) := bkeep hb1 (by go_simp)
        have HB1 : Hid (Below w.heap.size w w1 ∧ w.heap.size < w1.heap.size) := ⟨((Below.refl _ _).alloc (Nat.le_refl _) _).trans (hb1.mono (by simp)), by have := hb1.size; simp at this; omega⟩
        clear hb1
        go_wp2_with fail
        go_at_call 106
        refine (H2.out _ (HB1.out.1)).mono ?_
        rintro e w2 ⟨rfl, hb2⟩
        have p0 : w2.cell? ⟨w.heap.size, 0, none⟩ = some (.slice a t.net.stops.length c) := bkeep hb2 p0
        have p1 : w2.cell? ⟨w.heap.size, 1, none⟩ = some (.slice a' t.net.lines.length c') := bkeep hb2 p1
        have p2 : w2.cell? ⟨w.heap.size, 2, none⟩ = some (.slice tb t.trips.length td) := bkeep hb2 p2
        have HB2 : Hid (Below w.heap.size w w2 ∧ w.heap.size < w2.heap.size) := ⟨HB1.out.1.trans (hb2.mono HB1.out.1.size), by have := hb2.size; have := HB1.out.2; omega⟩
        clear hb2 HB1
        go_wp2_with fail
        go_ret3
        exact ⟨rfl, HB2.out.1⟩
      · have hd : (x == y) = false := by simpa using h3
        by_cases h4 : foundB x t.trips = true
        · obtain ⟨ei, hi⟩ := findI_found hasc h4
          rw [ei] at H3
          have hdi : decide (((placeOf x t.trips : Nat) : Int) < 0) = false := decide_eq_false (by omega)
          by_cases h5 : foundB y t.trips = true
          · obtain ⟨ej, hj⟩ := findI_found hasc h5
            rw [ej] at H4
            have hdj : decide (((placeOf y t.trips : Nat) : Int) < 0) = false := decide_eq_false (by omega)
            have HE : Hid (ctRes t ws x y = ctIn t ws (placeOf x t.trips) (placeOf y t.trips)) := if_pos ⟨h1, h2, h3, h4, h5⟩
            rw [HE.out]
            have hij : placeOf x t.trips ≠ placeOf y t.trips := fun e => by
              rw [foundB_at hi] at h4; rw [foundB_at hj] at h5
              have e1 := of_decide_eq_true h4
              have e2 := of_decide_eq_true h5
              simp only [e] at e1
              exact h3 (e1.symm.trans e2)
            generalize placeOf x t.trips = i at *
            generalize placeOf y t.trips = j at *
            obtain ⟨la, ga, hla⟩ := lineOf_tt hg hi
            obtain ⟨lb2, gb, hlb2⟩ := lineOf_tt hg hj
            have hv := (walksB_iff h2).2
            have hn8 := netGood_stops hg.1
            have HRes : Hid (chF ws t.net.stops.length (lnOf t.net t.trips[i]).stops (tkOf t.net t.trips[i]) (lnOf t.net t.trips[j]).stops (tkOf t.net t.trips[j]) (lnOf t.net t.trips[j]).runs.length (lnOf t.net t.trips[i]).runs.length = ctIn t ws i j) := by
              show _ = _
              unfold ctIn; rw [List.getElem?_eq_getElem hi, List.getElem?_eq_getElem hj]
            obtain ⟨sa0, sa1, hsa, hSa⟩ := l5Stops_any _ t i w hr hi la ga.line ga.lt
            obtain ⟨sb0, sb1, hsb, hSb⟩ := l5Stops_any _ t j w hr hj lb2 gb.line gb.lt
            have HSa := Lib.hid hSa
            have HSb := Lib.hid hSb
            have HAa := Lib.hid (fun p hp => l5At_any _ t i w hr hi la ga.line ga.lt ga.le ga.runs ga.s0 ga.s1 p hp)
            have HAb := Lib.hid (fun p hp => l5At_any _ t j w hr hj lb2 gb.line gb.lt gb.le gb.runs gb.s0 gb.s1 p hp)
            have HT0 := Lib.hid (fun f (hfn : f < t.net.stops.length) W (h : Below w.heap.size w W) => l7Times_any lv ws t.net.stops.length f W (hl.below rfl h) hv hn8 hfn)
            have HRt0 := Lib.hid (fun f (hfn : f < t.net.stops.length) => rowTimes_wt hv hfn hn8)
            have HLen0 := Lib.hid (fun f (hfn : f < t.net.stops.length) => wt_len hv hfn)
            have hgl := ga.lt
            have hgl2 := gb.lt
            have hlena := ga.len
            have hlea := ga.le
            have hlenb := gb.len
            have hleb := gb.le
            have HStA := Lib.hid ga.stops
            have HStB := Lib.hid gb.stops
            have HTa : Hid (∀ p, p < t.net.lines[la].runs.length + 1 → (tkOf t.net t.trips[i]).getD p 0 = t.trips[i].start + runSum t.net.lines[la] 0 p) := fun p hp => by
              unfold tkOf; rw [hla, tk_getD _ _ _ _ hp, runSum0]
            have HTb : Hid (∀ p, p < t.net.lines[lb2].runs.length + 1 → (tkOf t.net t.trips[j]).getD p 0 = t.trips[j].start + runSum t.net.lines[lb2] 0 p) := fun p hp => by
              unfold tkOf; rw [hlb2, tk_getD _ _ _ _ hp, runSum0]
            have HBa := Lib.hid (fun m (h : m < t.net.lines[la].runs.length + 1) => by have := tk_bounds ga.runs ga.le ga.s0 ga.s1 m h; rw [tk_getD _ _ _ _ h, ← runSum0] at this; exact this)
            have HBb := Lib.hid (fun m (h : m < t.net.lines[lb2].runs.length + 1) => by have := tk_bounds gb.runs gb.le gb.s0 gb.s1 m h; rw [tk_getD _ _ _ _ h, ← runSum0] at this; exact this)
            have HRise : Hid (RiseT (tkOf t.net t.trips[j]) t.net.lines[lb2].runs.length) := by
              show RiseT _ _
              unfold tkOf; rw [hlb2]; exact tk_rise (fun r hr => (gb.runs r hr).1)
            rw [hla, hlb2] at HRes
            obtain ⟨_, _, he, _, _, HCa⟩ := ints_open hsa
            simp at he
            obtain ⟨rfl, rfl⟩ := he
            obtain ⟨_, _, he, _, _, HCb⟩ := ints_open hsb
            simp at he
            obtain ⟨rfl, rfl⟩ := he
            obtain ⟨lb, ld, rfl⟩ := WalkS_open hl
            generalize tkOf t.net t.trips[i] = TA at *
            generalize tkOf t.net t.trips[j] = TB at *
            generalize hsta : t.trips[i].start = stA at *
            generalize hstb : t.trips[j].start = stB at *
            clear ei ej hsta hstb HE hla hlb2 hSa hSb hsa hsb hv hasc h1 h2 h4 h5 hf hs hn htr hr hl hg
            generalize t.net.lines[la] = ll at *
            generalize t.net.lines[lb2] = l2 at *
            clear ga gb
            generalize ctIn t ws i j = res at *
            have hlena1 : ll.runs.length + 1 ≤ ll.stops.length := by omega
            have hlena2 : ll.stops.length ≤ ll.runs.length + 1 := by omega
            have hlenb1 : l2.runs.length + 1 ≤ l2.stops.length := by omega
            have hlenb2 : l2.stops.length ≤ l2.runs.length + 1 := by omega
            have hijI : ((i : Nat) : Int) ≠ (j : Int) := by omega
            clear hlena hlenb hij
            go_enter Try.func48, Try.ntmps48
            go_wp2_with fail
            go_at_call 120
            refine (H1.out _ ((Below.refl _ _).alloc (Nat.le_refl _) _)).mono ?_
            rintro e w1 ⟨rfl, hb1⟩
            have p0 : w1.cell? ⟨w.heap.size, 0, none⟩ = some (.slice a t.net.stops.length c) := bkeep hb1 (by go_simp)
            have p1 : w1.cell? ⟨w.heap.size, 1, none⟩ = some (.slice a' t.net.lines.length c') := bkeep hb1 (by go_simp)
            have p2 : w1.cell? ⟨w.heap.size, 2, none⟩ = some (.slice tb t.trips.length td) := bkeep hb1 (by go_simp)
            have HB1 : Hid (Below w.heap.size w w1 ∧ w.heap.size < w1.heap.size) := ⟨((Below.refl _ _).alloc (Nat.le_refl _) _).trans (hb1.mono (by simp)), by have := hb1.size; simp at this; omega⟩
            clear hb1
            go_wp2_with fail
            go_at_call 106
            refine (H2.out _ (HB1.out.1)).mono ?_
            rintro e w2 ⟨rfl, hb2⟩
            have p0 : w2.cell? ⟨w.heap.size, 0, none⟩ = some (.slice a t.net.stops.length c) := bkeep hb2 p0
            have p1 : w2.cell? ⟨w.heap.size, 1, none⟩ = some (.slice a' t.net.lines.length c') := bkeep hb2 p1
            have p2 : w2.cell? ⟨w.heap.size, 2, none⟩ = some (.slice tb t.trips.length td) := bkeep hb2 p2
            have HB2 : Hid (Below w.heap.size w w2 ∧ w.heap.size < w2.heap.size) := ⟨HB1.out.1.trans (hb2.mono HB1.out.1.size), by have := hb2.size; have := HB1.out.2; omega⟩
            clear hb2 HB1
            go_wp2_with fail
            go_at_call 130
            refine (H3.out _ (HB2.out.1)).mono ?_
            rintro e w3 ⟨rfl, hb3⟩
            have p0 : w3.cell? ⟨w.heap.size, 0, none⟩ = some (.slice a t.net.stops.length c) := bkeep hb3 p0
            have p1 : w3.cell? ⟨w.heap.size, 1, none⟩ = some (.slice a' t.net.lines.length c') := bkeep hb3 p1
            have p2 : w3.cell? ⟨w.heap.size, 2, none⟩ = some (.slice tb t.trips.length td) := bkeep hb3 p2
            have HB3 : Hid (Below w.heap.size w w3 ∧ w.heap.size < w3.heap.size) := ⟨HB2.out.1.trans (hb3.mono HB2.out.1.size), by have := hb3.size; have := HB2.out.2; omega⟩
            clear hb3 HB2
            go_wp2_with fail
            go_at_call 130
            refine (H4.out _ (HB3.out.1)).mono ?_
            rintro e w4 ⟨rfl, hb4⟩
            have p0 : w4.cell? ⟨w.heap.size, 0, none⟩ = some (.slice a t.net.stops.length c) := bkeep hb4 p0
            have p1 : w4.cell? ⟨w.heap.size, 1, none⟩ = some (.slice a' t.net.lines.length c') := bkeep hb4 p1
            have p2 : w4.cell? ⟨w.heap.size, 2, none⟩ = some (.slice tb t.trips.length td) := bkeep hb4 p2
            have HB4 : Hid (Below w.heap.size w w4 ∧ w.heap.size < w4.heap.size) := ⟨HB3.out.1.trans (hb4.mono HB3.out.1.size), by have := hb4.size; have := HB3.out.2; omega⟩
            clear hb4 HB3
            go_wp2_with fail
            have hbel := HB4.out.1
            have hz4 := HB4.out.2
            clear HB4
            go_region_held3 (fun w' => w'.cell? ⟨w.heap.size, 0, none⟩ = some (.slice a t.net.stops.length c) ∧ w'.cell? ⟨w.heap.size, 1, none⟩ = some (.slice a' t.net.lines.length c') ∧ w'.cell? ⟨w.heap.size, 2, none⟩ = some (.slice tb t.trips.length td) ∧ Below w.heap.size w w')
              (first | (exact ⟨p0, p1, p2, hbel.drew⟩) | (exact keepT3 hb (by assumption)))
              (first | (go_at_call_of 130 x; refine (H3.out _ (belT3 (by assumption))).mono ?_; rintro e w' ⟨rfl, hb⟩) | (go_at_call_of 130 y; refine (H4.out _ (belT3 (by assumption))).mono ?_; rintro e w' ⟨rfl, hb⟩))
            obtain ⟨p0, p1, p2, qb⟩ := (by assumption : _ ∧ _)
            clear hbel
            go_wp2_with fail
            go_region_held3 (fun w' => w'.cell? ⟨w.heap.size, 0, none⟩ = some (.slice a t.net.stops.length c) ∧ w'.cell? ⟨w.heap.size, 1, none⟩ = some (.slice a' t.net.lines.length c') ∧ w'.cell? ⟨w.heap.size, 2, none⟩ = some (.slice tb t.trips.length td) ∧ Below w.heap.size w w')
              (first | (exact ⟨p0, p1, p2, qb.drew⟩) | (exact keepT3 hb (by assumption)))
              (first | (go_at_call_of 122 (i : Int); refine (HSa.out _ (belT3 (by assumption))).mono ?_; rintro e w' ⟨rfl, hb⟩) | (go_at_call_of 122 (j : Int); refine (HSb.out _ (belT3 (by assumption))).mono ?_; rintro e w' ⟨rfl, hb⟩))
            obtain ⟨p0, p1, p2, qb⟩ := (by assumption : _ ∧ _)
            go_wp2_with fail
            obtain ⟨wq, rfl⟩ : ∃ wq : World, wq = w' := ⟨_, rfl⟩
            have HB5 := Lib.hid qb
            obtain ⟨ba, oa, rfl, hba, -⟩ := HCa.out 0 (by omega)
            obtain ⟨bb, obb, rfl, hbb, -⟩ := HCb.out 0 (by omega)
            have HSta : Hid (∀ m (h : m < ll.stops.length), w.cell? ⟨ba, oa + m, none⟩ = some (.int .i64 (ll.stops[m]'h))) := fun m h => by
              obtain ⟨b, off, h1, _, h2⟩ := HCa.out m h
              simp at h1
              obtain ⟨rfl, rfl⟩ := h1
              exact h2
            have HStb : Hid (∀ m (h : m < l2.stops.length), w.cell? ⟨bb, obb + m, none⟩ = some (.int .i64 (l2.stops[m]'h))) := fun m h => by
              obtain ⟨b, off, h1, _, h2⟩ := HCb.out m h
              simp at h1
              obtain ⟨rfl, rfl⟩ := h1
              exact h2
            clear HCa HCb qb H1 H2 H3 H4 HSa HSb hdi hdj hd
            go_loopw [15, 16, 17] (fun ob os ok wr => ∃ (p : Nat) (s : Option (Int × Int)), p ≤ ll.runs.length ∧ ok = .int .i64 ((p + 1 : Nat) : Int) ∧ Hid (chF ws t.net.stops.length ll.stops TA l2.stops TB l2.runs.length p = s) ∧ ob = .int .i64 (bestN s) ∧ os = .int .i64 (stopV s) ∧ wr.cell? ⟨w.heap.size, 0, none⟩ = some (.slice a t.net.stops.length c) ∧ wr.cell? ⟨w.heap.size, 1, none⟩ = some (.slice a' t.net.lines.length c') ∧ wr.cell? ⟨w.heap.size, 2, none⟩ = some (.slice tb t.trips.length td) ∧ Hid (Below w.heap.size w wr))
              (fun _ _ ok _ => ll.runs.length + 1 - (RowKit.intOf ok).toNat)
            case atStart => exact ⟨0, none, Nat.zero_le _, rfl, rfl, rfl, rfl, p0, p1, p2, HB5⟩
            case round =>
              clear p0 p1 p2 HB5
              obtain ⟨p, s, hp, rfl, HS, rfl, rfl, p0, p1, p2, HB⟩ := hrel
              obtain ⟨wo, rfl⟩ : ∃ wo : World, wo = wr := ⟨_, rfl⟩
              by_cases hlt : p < ll.runs.length
              · have hp1 : ((p + 1 : Nat) : Int) < (ll.stops.length : Int) := by omega
                have hp2 : (p : Int) + 1 < (ll.stops.length : Int) := by omega
                have hp0 : (0 : Int) ≤ (p : Int) + 1 := by omega
                have hps : p + 1 < ll.stops.length := by omega
                have hst := HStA.out ll.stops[p + 1] (List.getElem_mem hps)
                have k5 := bkeep HB.out (HSta.out (p + 1) hps)
                obtain ⟨sm, hsm⟩ := Int.eq_ofNat_of_zero_le hst.1
                have hsn : sm < t.net.stops.length := by omega
                rw [hsm] at k5
                have hgs : ll.stops.getD (p + 1) 0 = (sm : Int) := by rw [getD_at hps, hsm]
                have HA := Lib.hid (HAa.out (p + 1) (by omega))
                have hAb := HBa.out (p + 1) (by omega)
                have HCh : Hid (chF ws t.net.stops.length ll.stops TA l2.stops TB l2.runs.length (p + 1) = updC s (stA + runSum ll 0 (p + 1)) (sm : Int) TB (catF l2.stops TB (wt ws t.net.stops.length sm) (stA + runSum ll 0 (p + 1)) l2.runs.length)) := by
                  show _ = _
                  have h1 := HS.out
                  rw [chF, h1, hgs, HTa.out (p + 1) (by omega), Int.toNat_natCast]
                have HPos : Hid (∀ b q, s = some (b, q) → 0 ≤ b) := fun b q h => chF_nonneg ws t.net.stops.length ll.stops TA l2.stops TB l2.runs.length p b q (HS.out.trans h)
                have HT := Lib.hid (HT0.out sm hsn)
                have HRt := Lib.hid (HRt0.out sm hsn)
                have hlenR := HLen0.out sm hsn
                generalize stA + runSum ll 0 (p + 1) = A at *
                generalize wt ws t.net.stops.length sm = R at *
                have hn0 : 0 < t.net.stops.length := by omega
                have hbel := HB.out
                have HSm : Hid (ll.stops[p + 1]'hps = (sm : Int)) := hsm
                clear hst hsm hgs
                go_wp2_with fail
                go_region_held3 (fun w' => w'.cell? ⟨w.heap.size, 0, none⟩ = some (.slice a t.net.stops.length c) ∧ w'.cell? ⟨w.heap.size, 1, none⟩ = some (.slice a' t.net.lines.length c') ∧ w'.cell? ⟨w.heap.size, 2, none⟩ = some (.slice tb t.trips.length td) ∧ w'.cell? ⟨ba, oa + (p + 1), none⟩ = some (.int .i64 (sm : Int)) ∧ Below w.heap.size w w')
                  (first | (exact ⟨p0, p1, p2, k5, hbel.drew⟩) | (exact keepT4 hb (by assumption)))
                  ((go_at_call 107; refine (HT.out _ (belT4 (by assumption))).mono ?_; rintro e w' ⟨⟨ra, rc, rfl, hor⟩, hb⟩))
                obtain ⟨p0, p1, p2, k5, qb⟩ := (by assumption : _ ∧ _)
                obtain ⟨g3, rfl, hg3, hg3l, hRc⟩ := own_cells hor hn0 hlenR
                have HRow := Lib.hid hRc
                have HB6 := Lib.hid qb
                clear hor hRc qb hbel HT HB
                go_wp2_with fail
                obtain ⟨wi, rfl⟩ : ∃ wi : World, wi = w' := ⟨_, rfl⟩
                go_loopw [15, 16, 19] (fun ob os om wr => ∃ (m : Nat) (s2 : Option (Int × Int)), m ≤ l2.runs.length ∧ om = .int .i64 (m : Int) ∧ Hid (updC s A (sm : Int) TB (catF l2.stops TB R A m) = s2) ∧ ob = .int .i64 (bestN s2) ∧ os = .int .i64 (stopV s2) ∧ wr.cell? ⟨w.heap.size, 0, none⟩ = some (.slice a t.net.stops.length c) ∧ wr.cell? ⟨w.heap.size, 1, none⟩ = some (.slice a' t.net.lines.length c') ∧ wr.cell? ⟨w.heap.size, 2, none⟩ = some (.slice tb t.trips.length td) ∧ Hid (∀ q, q < t.net.stops.length → wr.cell? ⟨g3, q, none⟩ = some (.int .i64 (wat R q))) ∧ Hid (Below w.heap.size w wr))
                  (fun _ _ om _ => l2.runs.length + 1 - (RowKit.intOf om).toNat)
                case atStart => exact ⟨0, s, Nat.zero_le _, rfl, rfl, rfl, rfl, p0, p1, p2, HRow, HB6⟩
                case round =>
                  clear p0 p1 p2 HRow HB6 k5
                  obtain ⟨m, s2, hm, rfl, HU, rfl, rfl, p0, p1, p2, HRow, HB⟩ := hrel
                  by_cases hml : m < l2.runs.length
                  · have hm1 : (m : Int) + 1 < (l2.stops.length : Int) := by omega
                    have hms : m < l2.stops.length := by omega
                    have hst := HStB.out l2.stops[m] (List.getElem_mem hms)
                    have c5 := bkeep HB.out (HStb.out m hms)
                    have k5 := bkeep HB.out (HSta.out (p + 1) hps)
                    obtain ⟨sv, hsv⟩ := Int.eq_ofNat_of_zero_le hst.1
                    have hvn : sv < t.net.stops.length := by omega
                    rw [hsv] at c5
                    have hvl : (sv : Int) < (t.net.stops.length : Int) := by omega
                    have hm3 : (m : Int) < (l2.stops.length : Int) := by omega
                    have hgv : l2.stops.getD m 0 = (sv : Int) := by rw [getD_at hms, hsv]
                    have r5 := HRow.out sv hvn
                    have HBt := Lib.hid (HAb.out m (by omega))
                    have hBb := HBb.out m (by omega)
                    have hRv := HRt.out sv (by rw [hlenR]; exact hvn)
                    have htb := HTb.out m (by omega)
                    rw [HSm.out] at k5
                    have HOk : Hid (okC l2.stops TB R A m ↔ 0 ≤ wat R sv ∧ A + wat R sv ≤ stB + runSum l2 0 m) := by
                      show _ ↔ _
                      unfold okC
                      rw [hgv, htb]
                      simp only [Int.toNat_natCast]
                    have HY : Hid (okC l2.stops TB R A m → (s2.isSome = false ∨ (stB + runSum l2 0 m) - A < bestV s2) → updC s A (sm : Int) TB (catF l2.stops TB R A (m + 1)) = some ((stB + runSum l2 0 m) - A, (sm : Int))) := fun h1 h2 => by
                      have := upd_yes (s := s) (A := A) (stop := (sm : Int)) hml HRise.out h1 (by rw [HU.out, htb]; exact h2)
                      rw [htb] at this; exact this
                    have HN : Hid (¬ (okC l2.stops TB R A m ∧ (s2.isSome = false ∨ (stB + runSum l2 0 m) - A < bestV s2)) → updC s A (sm : Int) TB (catF l2.stops TB R A (m + 1)) = s2) := fun h => by
                      rw [upd_no (by rw [HU.out, htb]; exact h)]; exact HU.out
                    have hpos2 : s2.isSome = true → 0 ≤ bestV s2 := fun h => by
                      cases s2 with
                      | none => cases h
                      | some bq => exact updC_nonneg HPos.out bq.1 bq.2 HU.out
                    clear hst hsv hgv htb HU
                    generalize stB + runSum l2 0 m = TM at *
                    generalize wat R sv = RV at *
                    have hww : IntKind.i64.wrap (TM - A) = TM - A := IntWalk.i64_in _ (by omega)
                    have hbel : Below wr.heap.size wr wr := Below.refl _ _
                    go_wp2_with fail
                    go_region_held3 (fun w' => w'.cell? ⟨w.heap.size, 0, none⟩ = some (.slice a t.net.stops.length c) ∧ w'.cell? ⟨w.heap.size, 1, none⟩ = some (.slice a' t.net.lines.length c') ∧ w'.cell? ⟨w.heap.size, 2, none⟩ = some (.slice tb t.trips.length td) ∧ Below wr.heap.size wr w')
                      (first | (exact ⟨p0, p1, p2, hbel.drew⟩) | (exact keepT3 hb (by assumption)))
                      (first | (go_at_call_of 123 (j : Int); refine (HBt.out _ (HB.out.trans ((belT3 (by assumption)).mono HB.out.size))).mono ?_; rintro e w' ⟨rfl, hb⟩) | (go_at_call_of 123 (i : Int); refine (HA.out _ (HB.out.trans ((belT3 (by assumption)).mono HB.out.size))).mono ?_; rintro e w' ⟨rfl, hb⟩))
                    obtain ⟨p0, p1, p2, qb⟩ := (by assumption : _ ∧ _)
                    obtain ⟨wz, rfl⟩ : ∃ wz : World, wz = w' := ⟨_, rfl⟩
                    have c5 := bkeep qb c5
                    have k5 := bkeep qb k5
                    have r5 := bkeep qb r5
                    have HRow2 : Hid (∀ q, q < t.net.stops.length → wz.cell? ⟨g3, q, none⟩ = some (.int .i64 (wat R q))) := fun q hq => bkeep qb (HRow.out q hq)
                    have HB7 : Hid (Below w.heap.size w wz) := HB.out.trans (qb.mono HB.out.size)
                    clear qb HRow HB hbel HBt
                    by_cases hk1 : 0 ≤ RV
                    · have g1 : decide (0 ≤ RV) = true := decide_eq_true hk1
                      by_cases hk2 : RV ≤ TM - A
                      · have g2 : decide (RV ≤ TM - A) = true := decide_eq_true hk2
                        have hok := HOk.out.2 ⟨hk1, by omega⟩
                        by_cases hs2 : s2.isSome = false
                        · have g3 : decide (bestN s2 < 0) = true := by rw [bestN_none hs2]; rfl
                          have HX := Lib.hid (HY.out hok (.inl hs2))
                          clear HY HN HOk hok hpos2 hs2
                          go_wp2_with fail
                          exact ⟨⟨m + 1, some (TM - A, (sm : Int)), by omega, by go_num, HX, rfl, rfl, p0, p1, p2, HRow2, HB7⟩, by simp [RowKit.intOf]; omega⟩
                        · have hs3 : s2.isSome = true := by
                            cases h : s2.isSome with
                            | true => rfl
                            | false => exact absurd h hs2
                          have hps2 := hpos2 hs3
                          have ebn := bestN_some hs3
                          have g3 : decide (bestN s2 < 0) = false := by rw [ebn]; exact decide_eq_false (by omega)
                          by_cases hlt3 : TM - A < bestV s2
                          · have g4 : decide (TM - A < bestN s2) = true := by rw [ebn]; exact decide_eq_true hlt3
                            have HX := Lib.hid (HY.out hok (.inr hlt3))
                            clear HY HN HOk hok hpos2 hs2 hs3 ebn hps2 hlt3
                            go_wp2_with fail
                            exact ⟨⟨m + 1, some (TM - A, (sm : Int)), by omega, by go_num, HX, rfl, rfl, p0, p1, p2, HRow2, HB7⟩, by simp [RowKit.intOf]; omega⟩
                          · have g4 : decide (TM - A < bestN s2) = false := by rw [ebn]; exact decide_eq_false hlt3
                            have HX := Lib.hid (HN.out (fun h => h.2.elim (fun h => hs2 h) (fun h => hlt3 h)))
                            clear HY HN HOk hok hpos2 hs2 hs3 ebn hps2 hlt3
                            go_wp2_with fail
                            exact ⟨⟨m + 1, s2, by omega, by go_num, HX, rfl, rfl, p0, p1, p2, HRow2, HB7⟩, by simp [RowKit.intOf]; omega⟩
                      · have g2 : decide (RV ≤ TM - A) = false := decide_eq_false hk2
                        have HX := Lib.hid (HN.out (fun h => hk2 (by have := (HOk.out.1 h.1).2; omega)))
                        clear HY HN HOk hpos2
                        go_wp2_with fail
                        exact ⟨⟨m + 1, s2, by omega, by go_num, HX, rfl, rfl, p0, p1, p2, HRow2, HB7⟩, by simp [RowKit.intOf]; omega⟩
                    · have g1 : decide (0 ≤ RV) = false := decide_eq_false hk1
                      have HX := Lib.hid (HN.out (fun h => hk1 (HOk.out.1 h.1).1))
                      clear HY HN HOk hpos2
                      go_wp2_with fail
                      exact ⟨⟨m + 1, s2, by omega, by go_num, HX, rfl, rfl, p0, p1, p2, HRow2, HB7⟩, by simp [RowKit.intOf]; omega⟩
                  · have hme : m = l2.runs.length := by omega
                    have HNx : Hid (chF ws t.net.stops.length ll.stops TA l2.stops TB l2.runs.length (p + 1) = s2) := by show _ = _; rw [HCh.out, ← hme]; exact HU.out
                    have hm1 : ¬ (m : Int) + 1 < (l2.stops.length : Int) := by omega
                    clear hme
                    go_wp2_with fail
                    exact ⟨⟨p + 1, s2, by omega, by go_num, HNx, rfl, rfl, p0, p1, p2, HB⟩, by simp [RowKit.intOf]; omega⟩
              · have hpe : p = ll.runs.length := by omega
                have HE2 : Hid (res = s) := by show _ = _; rw [← HRes.out, ← hpe]; exact HS.out
                have hp1 : ¬ ((p + 1 : Nat) : Int) < (ll.stops.length : Int) := by omega
                have hp2 : ¬ (p : Int) + 1 < (ll.stops.length : Int) := by omega
                have hposs : s.isSome = true → 0 ≤ bestV s := fun h => by
                  cases s with
                  | none => cases h
                  | some bq => exact chF_nonneg ws t.net.stops.length ll.stops TA l2.stops TB l2.runs.length p bq.1 bq.2 HS.out
                clear hpe HS
                by_cases hs2 : s.isSome = false
                · have g3 : decide (bestN s < 0) = true := by rw [bestN_none hs2]; rfl
                  have HE3 : Hid (s = none) := by
                    show _ = _
                    cases s with
                    | none => rfl
                    | some bq => cases hs2
                  clear hs2 hposs
                  go_wp2_with fail
                  go_ret3
                  refine ⟨?_, HB.out⟩
                  rw [HE2.out, HE3.out]
                  rfl
                · have hs3 : s.isSome = true := by
                    cases h : s.isSome with
                    | true => rfl
                    | false => exact absurd h hs2
                  have HEb := Lib.hid (bestN_some hs3)
                  have hps2 := hposs hs3
                  have g3 : decide (bestN s < 0) = false := by rw [HEb.out]; exact decide_eq_false (by omega)
                  have HS3 := Lib.hid hs3
                  clear hs2 hs3 hposs hps2
                  go_wp2_with fail
                  go_ret3
                  refine ⟨?_, HB.out⟩
                  rw [HE2.out, ← HEb.out, HS3.out]
                  rfl
          · rw [show ctRes t ws x y = none from if_neg (fun h => h5 h.2.2.2.2)]
            have h5 : foundB y t.trips = false := by simpa using h5
            have en := findI_none hasc h5
            rw [en] at H4
            obtain ⟨lb, ld, rfl⟩ := WalkS_open hl
            clear hr hl hf hs hn htr h1 h2 h3 h4 h5 hg hasc en ei
            go_enter Try.func48, Try.ntmps48
            go_wp2_with fail
            go_at_call 120
            refine (H1.out _ ((Below.refl _ _).alloc (Nat.le_refl _) _)).mono ?_
            rintro e w1 ⟨rfl, hb1⟩
            have p0 : w1.cell? ⟨w.heap.size, 0, none⟩ = some (.slice a t.net.stops.length c) := bkeep hb1 (by go_simp)
            have p1 : w1.cell? ⟨w.heap.size, 1, none⟩ = some (.slice a' t.net.lines.length c') := bkeep hb1 (by go_simp)
            have p2 : w1.cell? ⟨w.heap.size, 2, none⟩ = some (.slice tb t.trips.length td) := bkeep hb1 (by go_simp)
            have HB1 : Hid (Below w.heap.size w w1 ∧ w.heap.size < w1.heap.size) := ⟨((Below.refl _ _).alloc (Nat.le_refl _) _).trans (hb1.mono (by simp)), by have := hb1.size; simp at this; omega⟩
            clear hb1
            go_wp2_with fail
            go_at_call 106
            refine (H2.out _ (HB1.out.1)).mono ?_
            rintro e w2 ⟨rfl, hb2⟩
            have p0 : w2.cell? ⟨w.heap.size, 0, none⟩ = some (.slice a t.net.stops.length c) := bkeep hb2 p0
            have p1 : w2.cell? ⟨w.heap.size, 1, none⟩ = some (.slice a' t.net.lines.length c') := bkeep hb2 p1
            have p2 : w2.cell? ⟨w.heap.size, 2, none⟩ = some (.slice tb t.trips.length td) := bkeep hb2 p2
            have HB2 : Hid (Below w.heap.size w w2 ∧ w.heap.size < w2.heap.size) := ⟨HB1.out.1.trans (hb2.mono HB1.out.1.size), by have := hb2.size; have := HB1.out.2; omega⟩
            clear hb2 HB1
            go_wp2_with fail
            go_at_call 130
            refine (H3.out _ (HB2.out.1)).mono ?_
            rintro e w3 ⟨rfl, hb3⟩
            have p0 : w3.cell? ⟨w.heap.size, 0, none⟩ = some (.slice a t.net.stops.length c) := bkeep hb3 p0
            have p1 : w3.cell? ⟨w.heap.size, 1, none⟩ = some (.slice a' t.net.lines.length c') := bkeep hb3 p1
            have p2 : w3.cell? ⟨w.heap.size, 2, none⟩ = some (.slice tb t.trips.length td) := bkeep hb3 p2
            have HB3 : Hid (Below w.heap.size w w3 ∧ w.heap.size < w3.heap.size) := ⟨HB2.out.1.trans (hb3.mono HB2.out.1.size), by have := hb3.size; have := HB2.out.2; omega⟩
            clear hb3 HB2
            go_wp2_with fail
            go_at_call 130
            refine (H4.out _ (HB3.out.1)).mono ?_
            rintro e w4 ⟨rfl, hb4⟩
            have p0 : w4.cell? ⟨w.heap.size, 0, none⟩ = some (.slice a t.net.stops.length c) := bkeep hb4 p0
            have p1 : w4.cell? ⟨w.heap.size, 1, none⟩ = some (.slice a' t.net.lines.length c') := bkeep hb4 p1
            have p2 : w4.cell? ⟨w.heap.size, 2, none⟩ = some (.slice tb t.trips.length td) := bkeep hb4 p2
            have HB4 : Hid (Below w.heap.size w w4 ∧ w.heap.size < w4.heap.size) := ⟨HB3.out.1.trans (hb4.mono HB3.out.1.size), by have := hb4.size; have := HB3.out.2; omega⟩
            clear hb4 HB3
            go_wp2_with fail
            go_ret3
            exact ⟨rfl, HB4.out.1⟩
        · rw [show ctRes t ws x y = none from if_neg (fun h => h4 h.2.2.2.1)]
          have h4 : foundB x t.trips = false := by simpa using h4
          have en := findI_none hasc h4
          rw [en] at H3
          obtain ⟨lb, ld, rfl⟩ := WalkS_open hl
          clear hr hl hf hs hn htr h1 h2 h3 h4 hg hasc H4 en
          go_enter Try.func48, Try.ntmps48
          go_wp2_with fail
          go_at_call 120
          refine (H1.out _ ((Below.refl _ _).alloc (Nat.le_refl _) _)).mono ?_
          rintro e w1 ⟨rfl, hb1⟩
          have p0 : w1.cell? ⟨w.heap.size, 0, none⟩ = some (.slice a t.net.stops.length c) := bkeep hb1 (by go_simp)
          have p1 : w1.cell? ⟨w.heap.size, 1, none⟩ = some (.slice a' t.net.lines.length c') := bkeep hb1 (by go_simp)
          have p2 : w1.cell? ⟨w.heap.size, 2, none⟩ = some (.slice tb t.trips.length td) := bkeep hb1 (by go_simp)
          have HB1 : Hid (Below w.heap.size w w1 ∧ w.heap.size < w1.heap.size) := ⟨((Below.refl _ _).alloc (Nat.le_refl _) _).trans (hb1.mono (by simp)), by have := hb1.size; simp at this; omega⟩
          clear hb1
          go_wp2_with fail
          go_at_call 106
          refine (H2.out _ (HB1.out.1)).mono ?_
          rintro e w2 ⟨rfl, hb2⟩
          have p0 : w2.cell? ⟨w.heap.size, 0, none⟩ = some (.slice a t.net.stops.length c) := bkeep hb2 p0
          have p1 : w2.cell? ⟨w.heap.size, 1, none⟩ = some (.slice a' t.net.lines.length c') := bkeep hb2 p1
          have p2 : w2.cell? ⟨w.heap.size, 2, none⟩ = some (.slice tb t.trips.length td) := bkeep hb2 p2
          have HB2 : Hid (Below w.heap.size w w2 ∧ w.heap.size < w2.heap.size) := ⟨HB1.out.1.trans (hb2.mono HB1.out.1.size), by have := hb2.size; have := HB1.out.2; omega⟩
          clear hb2 HB1
          go_wp2_with fail
          go_at_call 130
          refine (H3.out _ (HB2.out.1)).mono ?_
          rintro e w3 ⟨rfl, hb3⟩
          have p0 : w3.cell? ⟨w.heap.size, 0, none⟩ = some (.slice a t.net.stops.length c) := bkeep hb3 p0
          have p1 : w3.cell? ⟨w.heap.size, 1, none⟩ = some (.slice a' t.net.lines.length c') := bkeep hb3 p1
          have p2 : w3.cell? ⟨w.heap.size, 2, none⟩ = some (.slice tb t.trips.length td) := bkeep hb3 p2
          have HB3 : Hid (Below w.heap.size w w3 ∧ w.heap.size < w3.heap.size) := ⟨HB2.out.1.trans (hb3.mono HB2.out.1.size), by have := hb3.size; have := HB2.out.2; omega⟩
          clear hb3 HB2
          go_wp2_with fail
          go_ret3
          exact ⟨rfl, HB3.out.1⟩
    · rw [show ctRes t ws x y = none from if_neg (fun h => h2 h.2.1)]
      have h2 : walksB t.net ws = false := by simpa using h2
      rw [h2] at H2
      obtain ⟨lb, ld, rfl⟩ := WalkS_open hl
      clear hr hl hf hs hn htr h1 h2 hg hasc H3 H4
      go_enter Try.func48, Try.ntmps48
      go_wp2_with fail
      go_at_call 120
      refine (H1.out _ ((Below.refl _ _).alloc (Nat.le_refl _) _)).mono ?_
      rintro e w1 ⟨rfl, hb1⟩
      have p0 : w1.cell? ⟨w.heap.size, 0, none⟩ = some (.slice a t.net.stops.length c) := bkeep hb1 (by go_simp)
      have p1 : w1.cell? ⟨w.heap.size, 1, none⟩ = some (.slice a' t.net.lines.length c') := bkeep hb1 (by go_simp)
      have p2 : w1.cell? ⟨w.heap.size, 2, none⟩ = some (.slice tb t.trips.length td) := bkeep hb1 (by go_simp)
      have HB1 : Hid (Below w.heap.size w w1 ∧ w.heap.size < w1.heap.size) := ⟨((Below.refl _ _).alloc (Nat.le_refl _) _).trans (hb1.mono (by simp)), by have := hb1.size; simp at this; omega⟩
      clear hb1
      go_wp2_with fail
      go_at_call 106
      refine (H2.out _ (HB1.out.1)).mono ?_
      rintro e w2 ⟨rfl, hb2⟩
      have p0 : w2.cell? ⟨w.heap.size, 0, none⟩ = some (.slice a t.net.stops.length c) := bkeep hb2 p0
      have p1 : w2.cell? ⟨w.heap.size, 1, none⟩ = some (.slice a' t.net.lines.length c') := bkeep hb2 p1
      have p2 : w2.cell? ⟨w.heap.size, 2, none⟩ = some (.slice tb t.trips.length td) := bkeep hb2 p2
      have HB2 : Hid (Below w.heap.size w w2 ∧ w.heap.size < w2.heap.size) := ⟨HB1.out.1.trans (hb2.mono HB1.out.1.size), by have := hb2.size; have := HB1.out.2; omega⟩
      clear hb2 HB1
      go_wp2_with fail
      go_ret3
      exact ⟨rfl, HB2.out.1⟩
  · rw [show ctRes t ws x y = none from if_neg (fun h => h1 h.1)]
    have h1 : ttB t = false := by simpa using h1
    rw [h1] at H1
    obtain ⟨lb, ld, rfl⟩ := WalkS_open hl
    clear hr hl hf hs hn htr h1 H2 H3 H4
    go_enter Try.func48, Try.ntmps48
    go_wp2_with fail
    go_at_call 120
    refine (H1.out _ ((Below.refl _ _).alloc (Nat.le_refl _) _)).mono ?_
    rintro e w1 ⟨rfl, hb1⟩
    have p0 : w1.cell? ⟨w.heap.size, 0, none⟩ = some (.slice a t.net.stops.length c) := bkeep hb1 (by go_simp)
    have p1 : w1.cell? ⟨w.heap.size, 1, none⟩ = some (.slice a' t.net.lines.length c') := bkeep hb1 (by go_simp)
    have p2 : w1.cell? ⟨w.heap.size, 2, none⟩ = some (.slice tb t.trips.length td) := bkeep hb1 (by go_simp)
    have HB1 : Hid (Below w.heap.size w w1 ∧ w.heap.size < w1.heap.size) := ⟨((Below.refl _ _).alloc (Nat.le_refl _) _).trans (hb1.mono (by simp)), by have := hb1.size; simp at this; omega⟩
    clear hb1
    go_wp2_with fail
    go_ret3
    exact ⟨rfl, HB1.out.1⟩

theorem bothChangeTime (t : TTD) (hf : TTFits t) (hs : TTSmall t) (ws : List WlkD) (hwf : WalksFit ws) (hws : WalksSmall ws) (x : Int) (w2 : (Lit.int .i64 x).wf = true) (y : Int) (w3 : (Lit.int .i64 y).wf = true) : ∃ (r0 r1 : Int) (r2 : Bool), ∀ (v v' : Value) (w : World), TTAt w v t → WalksAt w v' ws →
    Calls Try.prog 48 #[v, v', .int .i64 x, .int .i64 y] w (fun e w' => e = .returned (.tuple #[.int .i64 r0, .int .i64 r1, .bool r2]) ∧ Below w.heap.size w w') ∧ Calls Try.prog 47 #[v, v', .int .i64 x, .int .i64 y] w (fun e w' => e = .returned (.tuple #[.int .i64 r0, .int .i64 r1, .bool r2]) ∧ Below w.heap.size w w') :=
  ⟨_, _, _, fun v v' w h h' => ⟨specChange_any v v' t ws x y w h h' hf hs, implChange_any v v' t ws x y w h h' hf hs⟩⟩
end Go.Proofs.Ytmbpkdplgfgheaa
