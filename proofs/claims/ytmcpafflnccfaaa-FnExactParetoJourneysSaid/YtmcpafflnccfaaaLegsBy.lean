/-
  CONTRACT of impl.legsByStop: the legs of all trips, by the stops at which they begin.
-/
import Derived.Test.YtmcpafflnccfaaaLegMap
import Derived.Test.YtmcpafflnccfaaaMc
import Derived.Test.YtmcpafflnccfaaaStopTimesOf
import Derived.Test.YtmcpafflnccfaaaMf
import Derived.OrdersHeld
import Derived.Deep.RegionHeld
namespace Go.Proofs.Ytmcpafflnccfaaa
open Go.RowKit Go.Maps Jrn
set_option linter.unusedVariables false
set_option linter.unusedSimpArgs false

theorem wfI {a : Int} (h0 : 0 ≤ a) (h1 : a ≤ 1000000) : (Lit.int .i64 a).wf = true := by
  simp [Lit.wf, IntKind.bits, IntKind.signed, IntKind.min, IntKind.max]
  omega
theorem ownI_at {B : Nat} {w : World} {a : Option Addr} {c n : Nat} {R : List Int} (h : w.ownsRow B 3 1 (.slice a n c) n (ints R)) (hn : 0 < n) (hR : R.length = n) :
    ∃ g, a = some ⟨g, 0, none⟩ ∧ B ≤ g ∧ g < w.heap.size ∧ ∀ k, k < n → w.cell? ⟨g, k, none⟩ = some (.int .i64 (R.getD k 0)) := by
  obtain ⟨g, rfl⟩ : ∃ g, a = some ⟨g, 0, none⟩ := by
    obtain ⟨_, h2⟩ := h
    rcases h2 with ⟨hv, h0⟩ | ⟨g, cap, cur, hv, hg, hblk, h3, h4, h5, h6⟩
    · omega
    · simp at hv; exact ⟨g, hv.1⟩
  refine ⟨g, rfl, (h.lt g rfl).1, (h.lt g rfl).2, fun k hk => ?_⟩
  rw [h.cellAt k (by omega)]
  unfold ints
  rw [List.getElem?_map, List.getElem?_eq_getElem (by omega), List.getD_eq_getElem?_getD, List.getElem?_eq_getElem (by omega)]
  rfl
theorem rowI_at {w : World} {a : Option Addr} {c : Nat} {R : List Int} (h : RowAt w (.slice a R.length c) (ints R)) (hn : 0 < R.length) :
    ∃ g q, a = some ⟨g, q, none⟩ ∧ g < w.heap.size ∧ ∀ k, k < R.length → w.cell? ⟨g, q + k, none⟩ = some (.int .i64 (R.getD k 0)) := by
  obtain ⟨a', c', he, _, _, HC⟩ := ints_open h
  simp at he
  obtain ⟨rfl, rfl⟩ := he
  obtain ⟨g, q, rfl, hg, _⟩ := HC.out 0 hn
  refine ⟨g, q, rfl, hg, fun k hk => ?_⟩
  obtain ⟨g', q', he, _, h2⟩ := HC.out k hk
  simp at he
  obtain ⟨rfl, rfl⟩ := he
  rw [h2, List.getD_eq_getElem?_getD, List.getElem?_eq_getElem hk]
  rfl

set_option maxRecDepth 100000 in
set_option maxHeartbeats 8000000 in
theorem legsByStop_any (v : Value) (t : TTD) (w : World) (hr : TTAt w v t) (hg : TTGood t) :
    Calls Try.prog 57 #[v] w fun e w' => (e = .returned (.map (some (w.heap.size + 1))) ∧ LegMap (w.heap.size + 2) (w.heap.size + 1) (fun _ => False) w' (allLegs (rides t))) ∧ Below w.heap.size w w' := by
  have HG := Lib.hid hg
  obtain ⟨a, c, a', c', b, d, rfl, hn, ht⟩ := tt_open hr
  have HN := Lib.hid hn
  have HT := Lib.hid ht
  have hlen12 := hg.2.1
  have hst8 : t.net.stops.length ≤ 8 := hg.1.1.2.1
  have hmm := @run_makeMap Try.prog
  clear hr hg hn ht
  go_enter Try.func57, Try.ntmps57
  go_wp2_with fail
  go_loopw [15] (fun q wr => ∃ k : Nat, k ≤ t.trips.length ∧ q = .int .i64 k ∧ Hid (LegMap (w.heap.size + 2) (w.heap.size + 1) (fun _ => False) wr (allLegs ((rides t).take k))) ∧ wr.cell? ⟨w.heap.size, 0, none⟩ = some (.slice a t.net.stops.length c) ∧ wr.cell? ⟨w.heap.size, 1, none⟩ = some (.slice a' t.net.lines.length c') ∧ Hid (Below w.heap.size w wr ∧ w.heap.size + 2 ≤ wr.heap.size))
    (fun q _ => t.trips.length - (RowKit.intOf q).toNat)
  case atStart =>
    have hm := LegMap.made (w.alloc (.cells #[.slice a t.net.stops.length c, .slice a' t.net.lines.length c', .slice b t.trips.length d] 38))
    simp only [World.size_alloc] at hm
    exact ⟨0, Nat.zero_le _, rfl, by show LegMap _ _ _ _ _; simpa [allLegs] using hm, by go_simp, by go_simp, ⟨((Below.refl _ _).alloc (Nat.le_refl _) _).alloc (by simp) _, by simp⟩⟩
  case round =>
    obtain ⟨wo, rfl⟩ : ∃ wo : World, wo = wr := ⟨_, rfl⟩
    obtain ⟨k, hk, rfl, HLM, p0, p1, HB⟩ := hrel
    by_cases hlt : k < t.trips.length
    · obtain ⟨g, go, rfl, hgb, y0, y1, y2⟩ := trip_at (HT.out.below rfl HB.out.1) k hlt
      obtain ⟨li, hli, hfa⟩ := ride_facts HG.out k hlt
      obtain ⟨lb, lq, s0, s1, r0, r1, rfl, hlb, -, x1, -, hrs, hrr⟩ := net_line (HN.out.below rfl HB.out.1) li hli
      obtain ⟨lb', lq', s0', s1', r0', r1', he', hlbw, -, x1w, -, hrsw, -⟩ := net_line HN.out li hli
      have HRide := Lib.hid (rides_at t k (by rw [rides_len]; exact hlt))
      have HTake := Lib.hid (allLegs_take_succ (rides t) k (by rw [rides_len]; exact hlt))
      have hlenk := allLegs_len HG.out k (by omega)
      rw [HRide.out, hfa.ride] at HTake
      have HTm := Lib.hid (fun W (h : Below w.heap.size w W) => stopTimesOf_any _ t.net (t.trips[k]) W (HN.out.below rfl h) li hfa.line hli (by have := hfa.len6; have := hfa.lenr; omega) hfa.runs hfa.s0 hfa.s1)
      have hn2 := hfa.len2
      have hn6 := hfa.len6
      have hnr := hfa.lenr
      have hln := hfa.line
      have HSt := Lib.hid hfa.stops
      have HTmB := Lib.hid hfa.time
      have hTl : (tk (t.trips[k]).start t.net.lines[li].runs (t.net.lines[li].runs.length + 1)).length = t.net.lines[li].stops.length := by rw [tk_len, hnr]
      have hi1 := hfa.id1
      have hi2 := hfa.id2
      rw [hln] at y1
      unfold tripV at HTm
      rw [hln] at HTm
      rw [hnr] at HTm HTake HTmB hTl
      have hk1 : (k : Int) < (t.trips.length : Int) := by omega
      have hli1 : (li : Int) < (t.net.lines.length : Int) := by omega
      clear hfa hrr HRide
      generalize tk (t.trips[k]).start t.net.lines[li].runs t.net.lines[li].stops.length = T at *
      generalize t.trips[k] = x at *
      obtain ⟨xi, xl, xs⟩ := x
      simp only at *
      generalize t.net.lines[li].stops = st at *
      obtain ⟨sb, sq, rfl, hsb, hsc⟩ := rowI_at hrs (by omega)
      have HSC := Lib.hid hsc
      have HBw := Lib.hid HB.out.1
      -- the row lies below the call
      have hsbw : sb < w.heap.size := by
        simp at he'
        obtain ⟨rfl, rfl⟩ := he'
        have := HBw.out.cell (p := ⟨lb, lq + li * 3 + 1, none⟩) hlbw
        rw [x1, x1w] at this
        simp at this
        obtain ⟨he1, rfl⟩ := this
        obtain ⟨sb', sq', he2, h2, -⟩ := rowI_at hrsw (by omega)
        rw [he2] at he1
        simp at he1
        omega
      clear he' hlbw x1w hrsw hrs hsc
      generalize hnn : st.length = n at *
      go_wp2_with fail
      obtain ⟨wa, hwa⟩ : ∃ wa : World, wa = wo.alloc (.cells #[.int .i64 xi, .int .i64 (li : Int), .int .i64 xs] 125) := ⟨_, rfl⟩
      have b0 : wa.cell? ⟨wo.heap.size, 0, none⟩ = some (.int .i64 xi) := by rw [hwa]; go_simp
      have b1 : wa.cell? ⟨wo.heap.size, 1, none⟩ = some (.int .i64 (li : Int)) := by rw [hwa]; go_simp
      have b2 : wa.cell? ⟨wo.heap.size, 2, none⟩ = some (.int .i64 xs) := by rw [hwa]; go_simp
      have q0 : wa.cell? ⟨w.heap.size, 0, none⟩ = some (.slice a t.net.stops.length c) := by rw [hwa]; exact acell p0 _
      have q1 : wa.cell? ⟨w.heap.size, 1, none⟩ = some (.slice (some ⟨lb, lq, none⟩) t.net.lines.length c') := by rw [hwa]; exact acell p1 _
      have hba : Below wo.heap.size wo wa := by rw [hwa]; exact (Below.refl _ _).alloc (Nat.le_refl _) _
      have hza : wa.heap.size = wo.heap.size + 1 := by rw [hwa]; simp
      have x1 := bkeep hba x1
      have HBa : Hid (Below w.heap.size w wa) := HB.out.1.trans (hba.mono HBw.out.size)
      have HZa := Lib.hid hza
      have HBA := Lib.hid hba
      rw [← hwa]
      clear hwa hza hba p0 p1 y0 y1 y2
      refine wp_region_held_drew (S := (fun w' => w'.cell? ⟨w.heap.size, 0, none⟩ = some (.slice a t.net.stops.length c) ∧ w'.cell? ⟨w.heap.size, 1, none⟩ = some (.slice (some ⟨lb, lq, none⟩) t.net.lines.length c') ∧ w'.cell? ⟨wo.heap.size, 0, none⟩ = some (.int .i64 xi) ∧ w'.cell? ⟨wo.heap.size, 1, none⟩ = some (.int .i64 (li : Int)) ∧ w'.cell? ⟨wo.heap.size, 2, none⟩ = some (.int .i64 xs) ∧ w'.cell? ⟨lb, lq + li * 3 + 1, none⟩ = some (.slice (some ⟨sb, sq, none⟩) n s1))) (by kernel_rfl) ?_ (fun hHeld => ?_)
      · exact ⟨q0, q1, b0, b1, b2, x1⟩
      refine wpAnyH_take (i := 0) (v := ?_) (by simp only [List.getElem?_toArray, List.getElem?_cons_zero]; rfl) (by kernel_rfl) (by kernel_rfl) (by kernel_rfl) (by exact fun _ _ _ h => h) (Or.inl ⟨by rfl, ?_⟩) (by assumption) ?_
      rotate_left
      · intro w' hSw; obtain ⟨e1, e2, e3, e4, e5, e6⟩ := hSw
        go_simp; try with_reducible rfl
      try simp only [Act.put, List.setIfInBounds_toArray, List.set_cons_zero, List.set_cons_succ]
      refine wpAnyH_take (i := 1) (v := ?_) (by simp only [List.getElem?_toArray, List.getElem?_cons_succ, List.getElem?_cons_zero]; rfl) (by kernel_rfl) (by kernel_rfl) (by kernel_rfl) (by exact fun _ _ _ h => h) (Or.inl ⟨by rfl, ?_⟩) (by assumption) ?_
      rotate_left
      · intro w' hSw; obtain ⟨e1, e2, e3, e4, e5, e6⟩ := hSw
        go_simp; try with_reducible rfl
      try simp only [Act.put, List.setIfInBounds_toArray, List.set_cons_zero, List.set_cons_succ]
      refine wpAnyH_take (i := 2) (v := ?_) (by simp only [List.getElem?_toArray, List.getElem?_cons_succ, List.getElem?_cons_zero]; rfl) (by kernel_rfl) (by kernel_rfl) (by kernel_rfl) (by exact fun _ _ _ h => h) (Or.inl ⟨by rfl, ?_⟩) (by assumption) ?_
      rotate_left
      · intro w' hSw; obtain ⟨e1, e2, e3, e4, e5, e6⟩ := hSw
        go_simp; try with_reducible rfl
      try simp only [Act.put, List.setIfInBounds_toArray, List.set_cons_zero, List.set_cons_succ]
      refine wpAnyH_take (i := 3) (v := ?_) (by simp only [List.getElem?_toArray, List.getElem?_cons_succ, List.getElem?_cons_zero]; rfl) (by kernel_rfl) (by kernel_rfl) (by kernel_rfl) (by exact fun _ _ _ h => h) (Or.inl ⟨by rfl, ?_⟩) (by assumption) ?_
      rotate_left
      · intro w' hSw; obtain ⟨e1, e2, e3, e4, e5, e6⟩ := hSw
        go_simp; try with_reducible rfl
      try simp only [Act.put, List.setIfInBounds_toArray, List.set_cons_zero, List.set_cons_succ]
      refine wpAnyH_take (i := 4) (v := ?_) (by simp only [List.getElem?_toArray, List.getElem?_cons_succ, List.getElem?_cons_zero]; rfl) (by kernel_rfl) (by kernel_rfl) (by kernel_rfl) (by exact fun _ _ _ h => h) (Or.inl ⟨by rfl, ?_⟩) (by assumption) ?_
      rotate_left
      · intro w' hSw; obtain ⟨e1, e2, e3, e4, e5, e6⟩ := hSw
        go_simp; try with_reducible rfl
      try simp only [Act.put, List.setIfInBounds_toArray, List.set_cons_zero, List.set_cons_succ]
      refine wpAnyH_take (i := 5) (v := ?_) (by simp only [List.getElem?_toArray, List.getElem?_cons_succ, List.getElem?_cons_zero]; rfl) (by kernel_rfl) (by kernel_rfl) (by kernel_rfl) (by exact fun _ _ _ h => h) (Or.inl ⟨by rfl, ?_⟩) (by assumption) ?_
      rotate_left
      · intro w' hSw; obtain ⟨e1, e2, e3, e4, e5, e6⟩ := hSw
        go_simp; try with_reducible rfl
      try simp only [Act.put, List.setIfInBounds_toArray, List.set_cons_zero, List.set_cons_succ]
      refine wpAnyH_take (i := 6) (v := ?_) (by simp only [List.getElem?_toArray, List.getElem?_cons_succ, List.getElem?_cons_zero]; rfl) (by kernel_rfl) (by kernel_rfl) (by kernel_rfl) (by exact fun _ _ _ h => h) (Or.inl ⟨by rfl, ?_⟩) (by assumption) ?_
      rotate_left
      · intro w' hSw; obtain ⟨e1, e2, e3, e4, e5, e6⟩ := hSw
        go_simp; try with_reducible rfl
      try simp only [Act.put, List.setIfInBounds_toArray, List.set_cons_zero, List.set_cons_succ]
      refine wpAnyH_take (i := 7) (v := ?_) (by simp only [List.getElem?_toArray, List.getElem?_cons_succ, List.getElem?_cons_zero]; rfl) (by kernel_rfl) (by kernel_rfl) (by kernel_rfl) (by exact fun _ _ _ h => h) (Or.inl ⟨by rfl, ?_⟩) (by assumption) ?_
      rotate_left
      · intro w' hSw; obtain ⟨e1, e2, e3, e4, e5, e6⟩ := hSw
        go_simp; try with_reducible rfl
      try simp only [Act.put, List.setIfInBounds_toArray, List.set_cons_zero, List.set_cons_succ]
      refine wpAnyH_take (i := 8) (v := ?_) (by simp only [List.getElem?_toArray, List.getElem?_cons_succ, List.getElem?_cons_zero]; rfl) (by kernel_rfl) (by kernel_rfl) (by kernel_rfl) (by exact fun _ _ _ h => h) (Or.inl ⟨by rfl, ?_⟩) (by assumption) ?_
      rotate_left
      · intro w' hSw; obtain ⟨e1, e2, e3, e4, e5, e6⟩ := hSw
        go_simp; try with_reducible rfl
      try simp only [Act.put, List.setIfInBounds_toArray, List.set_cons_zero, List.set_cons_succ]
      refine wpAnyH_take (i := 9) (v := ?_) (by simp only [List.getElem?_toArray, List.getElem?_cons_succ, List.getElem?_cons_zero]; rfl) (by kernel_rfl) (by kernel_rfl) (by kernel_rfl) (by exact fun _ _ _ h => h) (Or.inl ⟨by rfl, ?_⟩) (by assumption) ?_
      rotate_left
      · intro w' hSw; obtain ⟨e1, e2, e3, e4, e5, e6⟩ := hSw
        go_simp; try with_reducible rfl
      try simp only [Act.put, List.setIfInBounds_toArray, List.set_cons_zero, List.set_cons_succ]
      refine wpAnyH_take (i := 10) (v := ?_) (by simp only [List.getElem?_toArray, List.getElem?_cons_succ, List.getElem?_cons_zero]; rfl) (by kernel_rfl) (by kernel_rfl) (by kernel_rfl) (by exact fun _ _ _ h => h) (Or.inl ⟨by rfl, ?_⟩) (by assumption) ?_
      rotate_left
      · intro w' hSw; obtain ⟨e1, e2, e3, e4, e5, e6⟩ := hSw
        go_simp; try with_reducible rfl
      try simp only [Act.put, List.setIfInBounds_toArray, List.set_cons_zero, List.set_cons_succ]
      refine wpAnyH_ready (rs := [11]) (by kernel_rfl) (by simp) ?_
      refine AllReadyH.cons (by simp only [List.getElem?_toArray, List.getElem?_cons_succ, List.getElem?_cons_zero]; rfl) (fun K hK => ?_) AllReadyH.nil
      go_simp
      go_at_call 102
      refine (HTm.out _ HBa.out.drew).mono ?_
      rintro e w2 ⟨⟨tv, rfl, ho2⟩, hb2⟩
      have rb : Below wa.heap.size wa w2 := (Below.refl _ _).drew.trans hb2
      have hS2 : w2.cell? ⟨w.heap.size, 0, none⟩ = some (.slice a t.net.stops.length c) ∧ w2.cell? ⟨w.heap.size, 1, none⟩ = some (.slice (some ⟨lb, lq, none⟩) t.net.lines.length c') ∧ w2.cell? ⟨wo.heap.size, 0, none⟩ = some (.int .i64 xi) ∧ w2.cell? ⟨wo.heap.size, 1, none⟩ = some (.int .i64 (li : Int)) ∧ w2.cell? ⟨wo.heap.size, 2, none⟩ = some (.int .i64 xs) ∧ w2.cell? ⟨lb, lq + li * 3 + 1, none⟩ = some (.slice (some ⟨sb, sq, none⟩) n s1) := ⟨bkeep rb q0, bkeep rb q1, bkeep rb b0, bkeep rb b1, bkeep rb b2, bkeep rb x1⟩
      have HO2 := Lib.hid ho2
      have HRB := Lib.hid rb
      clear hb2 ho2 rb
      go_wp2_with fail
      refine hK.out _ _ hS2 (fun hH11 => ?_)
      clear hK K
      try simp only [Act.put, List.setIfInBounds_toArray, List.set_cons_zero, List.set_cons_succ]
      refine wpAnyH_take (i := 12) (v := ?_) (by simp only [List.getElem?_toArray, List.getElem?_cons_succ, List.getElem?_cons_zero]; rfl) (by kernel_rfl) (by kernel_rfl) (by kernel_rfl) (by exact fun _ _ _ h => h) (Or.inl ⟨by rfl, ?_⟩) (by assumption) ?_
      rotate_left
      · intro w' hSw; go_simp; try with_reducible rfl
      try simp only [Act.put, List.setIfInBounds_toArray, List.set_cons_zero, List.set_cons_succ]
      refine wpAnyH_take (i := 13) (v := ?_) (by simp only [List.getElem?_toArray, List.getElem?_cons_succ, List.getElem?_cons_zero]; rfl) (by kernel_rfl) (by kernel_rfl) (by kernel_rfl) (by exact fun _ _ _ h => h) (Or.inl ⟨by rfl, ?_⟩) (by assumption) ?_
      rotate_left
      · intro w' hSw; go_simp; try with_reducible rfl
      try simp only [Act.put, List.setIfInBounds_toArray, List.set_cons_zero, List.set_cons_succ]
      refine wpAnyH_done (by kernel_rfl) ?_ _
      obtain ⟨q0, q1, b0, -, -, -⟩ := hS2

      obtain ⟨ta, tc, rfl⟩ := own_shape HO2.out
      obtain ⟨gt, rfl, hgt1, hgt2, hTc⟩ := ownI_at HO2.out (by omega) hTl
      have HTC := Lib.hid hTc
      have hz2 := HRB.out.size
      have hzo := HB.out.2
      have hza := HZa.out
      simp only [World.drew] at hgt1
      have HWo2 : Hid (Below wo.heap.size wo w2) := HBA.out.trans (HRB.out.mono (by omega))
      have HW2 : Hid (Below w.heap.size w w2) := HBw.out.trans (HWo2.out.mono HBw.out.size)
      have HLM2 : Hid (LegMap (w.heap.size + 2) (w.heap.size + 1) (fun g => wo.heap.size ≤ g ∧ g < w2.heap.size) w2 (allLegs ((rides t).take k))) := (HLM.out.reno (No' := fun g => wo.heap.size ≤ g ∧ g < w2.heap.size) (fun g h => .inr h.1)).later HWo2.out
      clear hTc HO2 HTm HB HBa HLM
      go_wp2_with fail
      go_loopw [33] (fun q wr => ∃ i : Nat, i ≤ n ∧ q = .int .i64 i ∧ Hid (LegMap (w.heap.size + 2) (w.heap.size + 1) (fun g => wo.heap.size ≤ g ∧ g < w2.heap.size) wr (allLegs ((rides t).take k) ++ legsTo ⟨xi, st, T⟩ i)) ∧ Hid (∀ q, q < w2.heap.size → (q < w.heap.size + 1 ∨ wo.heap.size ≤ q) → wr.heap[q]? = w2.heap[q]?) ∧ Hid (Below w.heap.size w wr ∧ w2.heap.size ≤ wr.heap.size))
        (fun q _ => n - (RowKit.intOf q).toNat)
      case atStart => exact ⟨0, Nat.zero_le _, rfl, by show LegMap _ _ _ _ _; simpa [legsTo] using HLM2.out, fun _ _ _ => rfl, ⟨HW2.out, Nat.le_refl _⟩⟩
      case round =>
        obtain ⟨wi, rfl⟩ : ∃ wi : World, wi = wr := ⟨_, rfl⟩
        obtain ⟨i, hi, rfl, HLM, HK, HB⟩ := hrel
        by_cases hlt2 : i < n
        · obtain ⟨sF, hsF⟩ : ∃ x, st.getD i 0 = x := ⟨_, rfl⟩
          have z0 : wi.cell? ⟨sb, sq + i, none⟩ = some (.int .i64 sF) := by
            rw [← hsF]
            exact (World.cell?_of_block (HK.out sb (by omega) (.inl (by omega)))).trans (bkeep HWo2.out (HSC.out i hlt2))
          have hsFb := HSt.out sF (by rw [← hsF]; exact getD_mem (by omega))
          have hwf : (Lit.int .i64 sF).wf = true := wfI (by omega) (by omega)
          have HSF := Lib.hid hsF
          have HWF := Lib.hid hwf
          have hi1 : (i : Int) < (n : Int) := by omega
          clear hsF hwf
          go_wp2_with fail
          go_loopw [10] (fun q wr => ∃ dd : Nat, i + 1 + dd ≤ n ∧ q = .int .i64 ((i : Int) + 1 + (dd : Int)) ∧ Hid (LegMap (w.heap.size + 2) (w.heap.size + 1) (fun g => wo.heap.size ≤ g ∧ g < w2.heap.size) wr (allLegs ((rides t).take k) ++ legsTo ⟨xi, st, T⟩ i ++ legsFrom ⟨xi, st, T⟩ i dd)) ∧ Hid (∀ q, q < w2.heap.size → (q < w.heap.size + 1 ∨ wo.heap.size ≤ q) → wr.heap[q]? = w2.heap[q]?) ∧ Hid (Below w.heap.size w wr ∧ w2.heap.size ≤ wr.heap.size))
            (fun q _ => n - (RowKit.intOf q).toNat)
          case atStart => exact ⟨0, by omega, by simp, by show LegMap _ _ _ _ _; simpa [legsFrom] using HLM.out, HK.out, HB.out⟩
          case round =>
            clear HLM HK HB z0
            obtain ⟨dd, hdd, rfl, HLM, HK, HB⟩ := hrel
            by_cases hlt3 : i + 1 + dd < n
            · have HSucc := Lib.hid (legsFrom_succ ⟨xi, st, T⟩ i dd)
              obtain ⟨j, hj⟩ : ∃ j, i + 1 + dd = j := ⟨_, rfl⟩
              have hjI : (i : Int) + 1 + (dd : Int) = (j : Int) := by omega
              rw [hj] at HSucc hlt3
              rw [hjI]
              obtain ⟨sD, hsD⟩ : ∃ x, st.getD j 0 = x := ⟨_, rfl⟩
              obtain ⟨tA, htA⟩ : ∃ x, T.getD i 0 = x := ⟨_, rfl⟩
              obtain ⟨tB, htB⟩ : ∃ x, T.getD j 0 = x := ⟨_, rfl⟩
              have z0 : wr.cell? ⟨sb, sq + j, none⟩ = some (.int .i64 sD) := by
                rw [← hsD]
                exact (World.cell?_of_block (HK.out sb (by omega) (.inl (by omega)))).trans (bkeep HWo2.out (HSC.out j hlt3))
              have z1 : wr.cell? ⟨wo.heap.size, 0, none⟩ = some (.int .i64 xi) := (World.cell?_of_block (HK.out wo.heap.size (by omega) (.inr (Nat.le_refl _)))).trans b0
              have z2 : wr.cell? ⟨gt, i, none⟩ = some (.int .i64 tA) := by
                rw [← htA]
                exact (World.cell?_of_block (HK.out gt hgt2 (.inr (by omega)))).trans (HTC.out i hlt2)
              have z3 : wr.cell? ⟨gt, j, none⟩ = some (.int .i64 tB) := by
                rw [← htB]
                exact (World.cell?_of_block (HK.out gt hgt2 (.inr (by omega)))).trans (HTC.out j hlt3)
              have HLeg : Hid (legR ⟨xi, st, T⟩ i j = ⟨xi, sF, sD, tA, tB⟩) := by
                show legR _ _ _ = _
                unfold legR
                simp only [HSF.out, hsD, htA, htB]
              have hzr := HB.out.2
              have hll : (allLegs ((rides t).take k) ++ legsTo ⟨xi, st, T⟩ i ++ legsFrom ⟨xi, st, T⟩ i dd).length + 1 ≤ 1048576 := by
                have h6 := rideLegs_len ⟨xi, st, T⟩ (by show st.length ≤ 6; omega) i (by show i ≤ st.length; omega)
                rw [List.length_append, List.length_append, legsFrom_len]
                omega
              obtain ⟨v, v', w3, w4, hlk, hap, hup, hlm4, hbel, hkeep⟩ := HLM.out.push ⟨xi, sF, sD, tA, tB⟩ HWF.out hll (by omega) (fun g h => by have := h.2; omega) ((wr.alloc (.cells #[.int .i64 xi, .int .i64 sF, .int .i64 sD, .int .i64 tA, .int .i64 tB] 62 (0, 0))).drew) (((Below.refl _ _).alloc (Nat.le_refl _) _).drew) wr.heap.size (fun q u hq => legC_one wr _ _ q u hq)
              have HLM4 : Hid (LegMap (w.heap.size + 2) (w.heap.size + 1) (fun g => wo.heap.size ≤ g ∧ g < w2.heap.size) w4 (allLegs ((rides t).take k) ++ legsTo ⟨xi, st, T⟩ i ++ legsFrom ⟨xi, st, T⟩ i (dd + 1))) := by
                show LegMap _ _ _ _ _
                rw [HSucc.out, HLeg.out, ← List.append_assoc]
                exact hlm4
              have hkp3 : ∀ q, ((q < w.heap.size + 1) ∨ (wo.heap.size ≤ q ∧ q < w2.heap.size)) → w3.heap[q]? = wr.heap[q]? ∧ w4.heap[q]? = wr.heap[q]? := fun q hq => hkeep q (by omega) (by omega)
              have HK4 : Hid (∀ q, q < w2.heap.size → (q < w.heap.size + 1 ∨ wo.heap.size ≤ q) → w4.heap[q]? = w2.heap[q]?) := fun q h1 h2 => (hkp3 q (by omega)).2.trans (HK.out q h1 h2)
              have hb34 := hbel w.heap.size (by omega) (by omega)
              have HB4 : Hid (Below w.heap.size w w4 ∧ w2.heap.size ≤ w4.heap.size) := ⟨HB.out.1.trans hb34.2, by have := hb34.2.size; omega⟩
              have hj0 : (0 : Int) ≤ (j : Int) := by omega
              have hjn : (j : Int) < (n : Int) := by omega
              clear hlm4 hbel hkeep hsD htA htB hll hb34 HLM HK HB HLeg HSucc
              go_wp2_with fail
              refine wp_region_held_drew (S := (fun w' => w'.cell? ⟨sb, sq + j, none⟩ = some (.int .i64 sD) ∧ w'.cell? ⟨wo.heap.size, 0, none⟩ = some (.int .i64 xi) ∧ w'.cell? ⟨gt, i, none⟩ = some (.int .i64 tA) ∧ w'.cell? ⟨gt, j, none⟩ = some (.int .i64 tB))) (by kernel_rfl) ?_ (fun hHeld => ?_)
              · exact ⟨z0, z1, z2, z3⟩
              refine wpAnyH_take (i := 0) (v := ?_) (by simp only [List.getElem?_toArray, List.getElem?_cons_zero]; rfl) (by kernel_rfl) (by kernel_rfl) (by kernel_rfl) (by exact fun _ _ _ h => h) (Or.inl ⟨by rfl, ?_⟩) (by assumption) ?_
              rotate_left
              · intro w' hSw; obtain ⟨e1, e2, e3, e4⟩ := hSw
                go_simp; try with_reducible rfl
              try simp only [Act.put, List.setIfInBounds_toArray, List.set_cons_zero, List.set_cons_succ]
              refine wpAnyH_take (i := 1) (v := ?_) (by simp only [List.getElem?_toArray, List.getElem?_cons_succ, List.getElem?_cons_zero]; rfl) (by kernel_rfl) (by kernel_rfl) (by kernel_rfl) (by exact fun _ _ _ h => h) (Or.inl ⟨by rfl, ?_⟩) (by assumption) ?_
              rotate_left
              · intro w' hSw; obtain ⟨e1, e2, e3, e4⟩ := hSw
                go_simp; try with_reducible rfl
              try simp only [Act.put, List.setIfInBounds_toArray, List.set_cons_zero, List.set_cons_succ]
              refine wpAnyH_take (i := 2) (v := ?_) (by simp only [List.getElem?_toArray, List.getElem?_cons_succ, List.getElem?_cons_zero]; rfl) (by kernel_rfl) (by kernel_rfl) (by kernel_rfl) (by exact fun _ _ _ h => h) (Or.inl ⟨by rfl, ?_⟩) (by assumption) ?_
              rotate_left
              · intro w' hSw; obtain ⟨e1, e2, e3, e4⟩ := hSw
                go_simp; try with_reducible rfl
              try simp only [Act.put, List.setIfInBounds_toArray, List.set_cons_zero, List.set_cons_succ]
              refine wpAnyH_take (i := 3) (v := ?_) (by simp only [List.getElem?_toArray, List.getElem?_cons_succ, List.getElem?_cons_zero]; rfl) (by kernel_rfl) (by kernel_rfl) (by kernel_rfl) (by exact fun _ _ _ h => h) (Or.inl ⟨by rfl, ?_⟩) (by assumption) ?_
              rotate_left
              · intro w' hSw; obtain ⟨e1, e2, e3, e4⟩ := hSw
                go_simp; try with_reducible rfl
              try simp only [Act.put, List.setIfInBounds_toArray, List.set_cons_zero, List.set_cons_succ]
              refine wpAnyH_take (i := 5) (v := ?_) (by simp only [List.getElem?_toArray, List.getElem?_cons_succ, List.getElem?_cons_zero]; rfl) (by kernel_rfl) (by kernel_rfl) (by kernel_rfl) (by exact fun _ _ _ h => h) (Or.inl ⟨by rfl, ?_⟩) (by assumption) ?_
              rotate_left
              · intro w' hSw; obtain ⟨e1, e2, e3, e4⟩ := hSw
                go_simp; try with_reducible rfl
              try simp only [Act.put, List.setIfInBounds_toArray, List.set_cons_zero, List.set_cons_succ]
              refine wpAnyH_take (i := 6) (v := ?_) (by simp only [List.getElem?_toArray, List.getElem?_cons_succ, List.getElem?_cons_zero]; rfl) (by kernel_rfl) (by kernel_rfl) (by kernel_rfl) (by exact fun _ _ _ h => h) (Or.inl ⟨by rfl, ?_⟩) (by assumption) ?_
              rotate_left
              · intro w' hSw; obtain ⟨e1, e2, e3, e4⟩ := hSw
                go_simp; try with_reducible rfl
              try simp only [Act.put, List.setIfInBounds_toArray, List.set_cons_zero, List.set_cons_succ]
              refine wpAnyH_take (i := 7) (v := ?_) (by simp only [List.getElem?_toArray, List.getElem?_cons_succ, List.getElem?_cons_zero]; rfl) (by kernel_rfl) (by kernel_rfl) (by kernel_rfl) (by exact fun _ _ _ h => h) (Or.inl ⟨by rfl, ?_⟩) (by assumption) ?_
              rotate_left
              · intro w' hSw; obtain ⟨e1, e2, e3, e4⟩ := hSw
                go_simp; try with_reducible rfl
              try simp only [Act.put, List.setIfInBounds_toArray, List.set_cons_zero, List.set_cons_succ]
              refine wpAnyH_take (i := 8) (v := ?_) (by simp only [List.getElem?_toArray, List.getElem?_cons_succ, List.getElem?_cons_zero]; rfl) (by kernel_rfl) (by kernel_rfl) (by kernel_rfl) (by exact fun _ _ _ h => h) (Or.inl ⟨by rfl, ?_⟩) (by assumption) ?_
              rotate_left
              · intro w' hSw; obtain ⟨e1, e2, e3, e4⟩ := hSw
                go_simp; try with_reducible rfl
              try simp only [Act.put, List.setIfInBounds_toArray, List.set_cons_zero, List.set_cons_succ]
              refine wpAnyH_take (i := 9) (v := ?_) (by simp only [List.getElem?_toArray, List.getElem?_cons_succ, List.getElem?_cons_zero]; rfl) (by kernel_rfl) (by kernel_rfl) (by kernel_rfl) (by exact fun _ _ _ h => h) (Or.inl ⟨by rfl, ?_⟩) (by assumption) ?_
              rotate_left
              · intro w' hSw; obtain ⟨e1, e2, e3, e4⟩ := hSw
                go_simp; try with_reducible rfl
              try simp only [Act.put, List.setIfInBounds_toArray, List.set_cons_zero, List.set_cons_succ]
              refine wpAnyH_take (i := 10) (v := ?_) (by simp only [List.getElem?_toArray, List.getElem?_cons_succ, List.getElem?_cons_zero]; rfl) (by kernel_rfl) (by kernel_rfl) (by kernel_rfl) (by exact fun _ _ _ h => h) (Or.inl ⟨by rfl, ?_⟩) (by assumption) ?_
              rotate_left
              · intro w' hSw; obtain ⟨e1, e2, e3, e4⟩ := hSw
                go_simp; try with_reducible rfl
              try simp only [Act.put, List.setIfInBounds_toArray, List.set_cons_zero, List.set_cons_succ]
              refine wpAnyH_take (i := 11) (v := ?_) (by simp only [List.getElem?_toArray, List.getElem?_cons_succ, List.getElem?_cons_zero]; rfl) (by kernel_rfl) (by kernel_rfl) (by kernel_rfl) (by exact fun _ _ _ h => h) (Or.inl ⟨by rfl, ?_⟩) (by assumption) ?_
              rotate_left
              · intro w' hSw; obtain ⟨e1, e2, e3, e4⟩ := hSw
                go_simp; try with_reducible rfl
              try simp only [Act.put, List.setIfInBounds_toArray, List.set_cons_zero, List.set_cons_succ]
              refine wpAnyH_take (i := 12) (v := ?_) (by simp only [List.getElem?_toArray, List.getElem?_cons_succ, List.getElem?_cons_zero]; rfl) (by kernel_rfl) (by kernel_rfl) (by kernel_rfl) (by exact fun _ _ _ h => h) (Or.inl ⟨by rfl, ?_⟩) (by assumption) ?_
              rotate_left
              · intro w' hSw; obtain ⟨e1, e2, e3, e4⟩ := hSw
                go_simp; try with_reducible rfl
              try simp only [Act.put, List.setIfInBounds_toArray, List.set_cons_zero, List.set_cons_succ]
              refine wpAnyH_take (i := 13) (v := ?_) (by simp only [List.getElem?_toArray, List.getElem?_cons_succ, List.getElem?_cons_zero]; rfl) (by kernel_rfl) (by kernel_rfl) (by kernel_rfl) (by exact fun _ _ _ h => h) (Or.inl ⟨by rfl, ?_⟩) (by assumption) ?_
              rotate_left
              · intro w' hSw; obtain ⟨e1, e2, e3, e4⟩ := hSw
                go_simp; try with_reducible rfl
              try simp only [Act.put, List.setIfInBounds_toArray, List.set_cons_zero, List.set_cons_succ]
              refine wpAnyH_take (i := 14) (v := ?_) (by simp only [List.getElem?_toArray, List.getElem?_cons_succ, List.getElem?_cons_zero]; rfl) (by kernel_rfl) (by kernel_rfl) (by kernel_rfl) (by exact fun _ _ _ h => h) (Or.inl ⟨by rfl, ?_⟩) (by assumption) ?_
              rotate_left
              · intro w' hSw; obtain ⟨e1, e2, e3, e4⟩ := hSw
                go_simp; try with_reducible rfl
              try simp only [Act.put, List.setIfInBounds_toArray, List.set_cons_zero, List.set_cons_succ]
              refine wpAnyH_take (i := 15) (v := ?_) (by simp only [List.getElem?_toArray, List.getElem?_cons_succ, List.getElem?_cons_zero]; rfl) (by kernel_rfl) (by kernel_rfl) (by kernel_rfl) (by exact fun _ _ _ h => h) (Or.inl ⟨by rfl, ?_⟩) (by assumption) ?_
              rotate_left
              · intro w' hSw; obtain ⟨e1, e2, e3, e4⟩ := hSw
                go_simp; try with_reducible rfl
              try simp only [Act.put, List.setIfInBounds_toArray, List.set_cons_zero, List.set_cons_succ]
              refine wpAnyH_take (i := 16) (v := ?_) (by simp only [List.getElem?_toArray, List.getElem?_cons_succ, List.getElem?_cons_zero]; rfl) (by kernel_rfl) (by kernel_rfl) (by kernel_rfl) (by exact fun _ _ _ h => h) (Or.inl ⟨by rfl, ?_⟩) (by assumption) ?_
              rotate_left
              · intro w' hSw; obtain ⟨e1, e2, e3, e4⟩ := hSw
                go_simp; try with_reducible rfl
              try simp only [Act.put, List.setIfInBounds_toArray, List.set_cons_zero, List.set_cons_succ]
              refine wpAnyH_take (i := 17) (v := ?_) (by simp only [List.getElem?_toArray, List.getElem?_cons_succ, List.getElem?_cons_zero]; rfl) (by kernel_rfl) (by kernel_rfl) (by kernel_rfl) (by exact fun _ _ _ h => h) (Or.inl ⟨by rfl, ?_⟩) (by assumption) ?_
              rotate_left
              · intro w' hSw; obtain ⟨e1, e2, e3, e4⟩ := hSw
                go_simp; try with_reducible rfl
              try simp only [Act.put, List.setIfInBounds_toArray, List.set_cons_zero, List.set_cons_succ]
              refine wpAnyH_take (i := 18) (v := ?_) (by simp only [List.getElem?_toArray, List.getElem?_cons_succ, List.getElem?_cons_zero]; rfl) (by kernel_rfl) (by kernel_rfl) (by kernel_rfl) (by exact fun _ _ _ h => h) (Or.inl ⟨by rfl, ?_⟩) (by assumption) ?_
              rotate_left
              · intro w' hSw; obtain ⟨e1, e2, e3, e4⟩ := hSw
                go_simp; try with_reducible rfl
              try simp only [Act.put, List.setIfInBounds_toArray, List.set_cons_zero, List.set_cons_succ]
              refine wpAnyH_take (i := 19) (v := ?_) (by simp only [List.getElem?_toArray, List.getElem?_cons_succ, List.getElem?_cons_zero]; rfl) (by kernel_rfl) (by kernel_rfl) (by kernel_rfl) (by exact fun _ _ _ h => h) (Or.inl ⟨by rfl, ?_⟩) (by assumption) ?_
              rotate_left
              · intro w' hSw; obtain ⟨e1, e2, e3, e4⟩ := hSw
                go_simp; try with_reducible rfl
              try simp only [Act.put, List.setIfInBounds_toArray, List.set_cons_zero, List.set_cons_succ]
              refine wpAnyH_take (i := 20) (v := ?_) (by simp only [List.getElem?_toArray, List.getElem?_cons_succ, List.getElem?_cons_zero]; rfl) (by kernel_rfl) (by kernel_rfl) (by kernel_rfl) (by exact fun _ _ _ h => h) (Or.inl ⟨by rfl, ?_⟩) (by assumption) ?_
              rotate_left
              · intro w' hSw; obtain ⟨e1, e2, e3, e4⟩ := hSw
                go_simp; try with_reducible rfl
              try simp only [Act.put, List.setIfInBounds_toArray, List.set_cons_zero, List.set_cons_succ]
              refine wpAnyH_ready (rs := [4, 21]) (by kernel_rfl) (by simp) ?_
              refine AllReadyH.cons (by simp only [List.getElem?_toArray, List.getElem?_cons_succ, List.getElem?_cons_zero]; rfl) (fun K hK => ?_) (AllReadyH.cons (by simp only [List.getElem?_toArray, List.getElem?_cons_succ, List.getElem?_cons_zero]; rfl) (fun K hK => ?_) AllReadyH.nil)
              · refine step_lookup_run rfl (.tmp 48) (.tmp 49) 90 rfl rfl rfl (hlk _ ((Below.refl _ _).drew)) ?_
                refine hK.out _ _ ⟨z0, z1, z2, z3⟩ (fun hH4 => ?_)
                clear hK K
                try simp only [Act.put, List.setIfInBounds_toArray, List.set_cons_zero, List.set_cons_succ]
                refine wpAnyH_ready (rs := [21]) (by kernel_rfl) (by simp) ?_
                refine AllReadyH.cons (by simp only [List.getElem?_toArray, List.getElem?_cons_succ, List.getElem?_cons_zero]; rfl) (fun K hK => ?_) AllReadyH.nil
                go_simp
                refine hK.out _ _ ⟨acell z0 _, acell z1 _, acell z2 _, acell z3 _⟩ (fun hH21 => ?_)
                clear hK K
                try simp only [Act.put, List.setIfInBounds_toArray, List.set_cons_zero, List.set_cons_succ]
                refine wpAnyH_ready (rs := [22]) (by kernel_rfl) (by simp) ?_
                refine AllReadyH.cons (by simp only [List.getElem?_toArray, List.getElem?_cons_succ, List.getElem?_cons_zero]; rfl) (fun K hK => ?_) AllReadyH.nil
                refine step_append_run rfl (.tmp 50) (.tmp 67) 30 rfl rfl rfl hap ?_
                refine hK.out _ _ ⟨(World.cell?_of_block (hkp3 sb (.inl (by omega))).1).trans z0, (World.cell?_of_block (hkp3 wo.heap.size (.inr ⟨by omega, by omega⟩)).1).trans z1, (World.cell?_of_block (hkp3 gt (.inr ⟨by omega, by omega⟩)).1).trans z2, (World.cell?_of_block (hkp3 gt (.inr ⟨by omega, by omega⟩)).1).trans z3⟩ (fun hH22 => ?_)
                clear hK K
                try simp only [Act.put, List.setIfInBounds_toArray, List.set_cons_zero, List.set_cons_succ]
                refine wpAnyH_ready (rs := [23]) (by kernel_rfl) (by simp) ?_
                refine AllReadyH.cons (by simp only [List.getElem?_toArray, List.getElem?_cons_succ, List.getElem?_cons_zero]; rfl) (fun K hK => ?_) AllReadyH.nil
                refine step_mapUpdate_run rfl (.tmp 46) (.tmp 47) (.tmp 68) 90 rfl rfl rfl rfl hup ?_
                refine hK.out _ _ ⟨(World.cell?_of_block (hkp3 sb (.inl (by omega))).2).trans z0, (World.cell?_of_block (hkp3 wo.heap.size (.inr ⟨by omega, by omega⟩)).2).trans z1, (World.cell?_of_block (hkp3 gt (.inr ⟨by omega, by omega⟩)).2).trans z2, (World.cell?_of_block (hkp3 gt (.inr ⟨by omega, by omega⟩)).2).trans z3⟩ (fun hH23 => ?_)
                clear hK K
                try simp only [Act.put, List.setIfInBounds_toArray, List.set_cons_zero, List.set_cons_succ]
                refine wpAnyH_done (by kernel_rfl) ?_ _
                go_wp2_with fail
                go_roundw
                case rel => exact ⟨dd + 1, by omega, by go_num, HLM4, HK4, HB4⟩
                case measure => simp [RowKit.intOf]; omega
              · go_simp
                refine hK.out _ _ ⟨acell z0 _, acell z1 _, acell z2 _, acell z3 _⟩ (fun hH21 => ?_)
                clear hK K
                try simp only [Act.put, List.setIfInBounds_toArray, List.set_cons_zero, List.set_cons_succ]
                refine wpAnyH_ready (rs := [4]) (by kernel_rfl) (by simp) ?_
                refine AllReadyH.cons (by simp only [List.getElem?_toArray, List.getElem?_cons_succ, List.getElem?_cons_zero]; rfl) (fun K hK => ?_) AllReadyH.nil
                refine step_lookup_run rfl (.tmp 48) (.tmp 49) 90 rfl rfl rfl (hlk _ (((Below.refl _ _).alloc (Nat.le_refl _) _).drew)) ?_
                refine hK.out _ _ ⟨acell z0 _, acell z1 _, acell z2 _, acell z3 _⟩ (fun hH4 => ?_)
                clear hK K
                try simp only [Act.put, List.setIfInBounds_toArray, List.set_cons_zero, List.set_cons_succ]
                refine wpAnyH_ready (rs := [22]) (by kernel_rfl) (by simp) ?_
                refine AllReadyH.cons (by simp only [List.getElem?_toArray, List.getElem?_cons_succ, List.getElem?_cons_zero]; rfl) (fun K hK => ?_) AllReadyH.nil
                refine step_append_run rfl (.tmp 50) (.tmp 67) 30 rfl rfl rfl hap ?_
                refine hK.out _ _ ⟨(World.cell?_of_block (hkp3 sb (.inl (by omega))).1).trans z0, (World.cell?_of_block (hkp3 wo.heap.size (.inr ⟨by omega, by omega⟩)).1).trans z1, (World.cell?_of_block (hkp3 gt (.inr ⟨by omega, by omega⟩)).1).trans z2, (World.cell?_of_block (hkp3 gt (.inr ⟨by omega, by omega⟩)).1).trans z3⟩ (fun hH22 => ?_)
                clear hK K
                try simp only [Act.put, List.setIfInBounds_toArray, List.set_cons_zero, List.set_cons_succ]
                refine wpAnyH_ready (rs := [23]) (by kernel_rfl) (by simp) ?_
                refine AllReadyH.cons (by simp only [List.getElem?_toArray, List.getElem?_cons_succ, List.getElem?_cons_zero]; rfl) (fun K hK => ?_) AllReadyH.nil
                refine step_mapUpdate_run rfl (.tmp 46) (.tmp 47) (.tmp 68) 90 rfl rfl rfl rfl hup ?_
                refine hK.out _ _ ⟨(World.cell?_of_block (hkp3 sb (.inl (by omega))).2).trans z0, (World.cell?_of_block (hkp3 wo.heap.size (.inr ⟨by omega, by omega⟩)).2).trans z1, (World.cell?_of_block (hkp3 gt (.inr ⟨by omega, by omega⟩)).2).trans z2, (World.cell?_of_block (hkp3 gt (.inr ⟨by omega, by omega⟩)).2).trans z3⟩ (fun hH23 => ?_)
                clear hK K
                try simp only [Act.put, List.setIfInBounds_toArray, List.set_cons_zero, List.set_cons_succ]
                refine wpAnyH_done (by kernel_rfl) ?_ _
                go_wp2_with fail
                go_roundw
                case rel => exact ⟨dd + 1, by omega, by go_num, HLM4, HK4, HB4⟩
                case measure => simp [RowKit.intOf]; omega

            · have hlt3' : ¬ (i : Int) + 1 + (dd : Int) < (n : Int) := by omega
              have HX : Hid (allLegs ((rides t).take k) ++ legsTo ⟨xi, st, T⟩ (i + 1) = allLegs ((rides t).take k) ++ legsTo ⟨xi, st, T⟩ i ++ legsFrom ⟨xi, st, T⟩ i dd) := by
                show _ = _
                rw [legsTo_succ, List.append_assoc]
                show _ ++ (_ ++ legsFrom ⟨xi, st, T⟩ i (st.length - (i + 1))) = _
                rw [show st.length - (i + 1) = dd by omega]
              go_wp2_with fail
              go_roundw
              case rel => exact ⟨i + 1, by omega, by go_num, by show LegMap _ _ _ _ _; rw [HX.out]; exact HLM.out, HK, HB⟩
              case measure => simp [RowKit.intOf]; omega
        · have hlt2' : ¬ (i : Int) < (n : Int) := by omega
          have p0 : wi.cell? ⟨w.heap.size, 0, none⟩ = some (.slice a t.net.stops.length c) := (World.cell?_of_block (HK.out w.heap.size (by omega) (.inl (by omega)))).trans q0
          have p1 : wi.cell? ⟨w.heap.size, 1, none⟩ = some (.slice (some ⟨lb, lq, none⟩) t.net.lines.length c') := (World.cell?_of_block (HK.out w.heap.size (by omega) (.inl (by omega)))).trans q1
          have HX : Hid (LegMap (w.heap.size + 2) (w.heap.size + 1) (fun _ => False) wi (allLegs ((rides t).take (k + 1)))) := by
            show LegMap _ _ _ _ _
            rw [HTake.out]
            obtain rfl : i = n := by omega
            have h := HLM.out.reno (No' := fun _ => False) (fun g h => h.elim)
            unfold rideLegs
            show LegMap _ _ _ _ (_ ++ legsTo ⟨xi, st, T⟩ st.length)
            rw [hnn]; exact h
          have hzw := HB.out.2
          have HBx : Hid (Below w.heap.size w wi ∧ w.heap.size + 2 ≤ wi.heap.size) := ⟨HB.out.1, by omega⟩
          go_wp2_with fail
          go_roundw
          case rel => exact ⟨k + 1, by omega, by go_num, HX, p0, p1, HBx⟩
          case measure => simp [RowKit.intOf]; omega
    · have hk1 : ¬ (k : Int) < (t.trips.length : Int) := by omega
      have HX : Hid (LegMap (w.heap.size + 2) (w.heap.size + 1) (fun _ => False) wo (allLegs (rides t))) := by
        have h := HLM.out
        rw [List.take_of_length_le (by rw [rides_len]; omega)] at h
        exact h
      go_wp2_with fail
      go_ret
      exact ⟨⟨rfl, HX.out⟩, HB.out.1⟩
end Go.Proofs.Ytmcpafflnccfaaa
