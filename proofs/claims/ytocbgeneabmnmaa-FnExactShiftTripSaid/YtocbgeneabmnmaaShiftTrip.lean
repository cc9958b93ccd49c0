/-
  What spec.ShiftTrip and impl.ShiftTrip both return.
-/
import Derived.Test.YtocbgeneabmnmaaTripNumber
import Derived.Test.YtocbgeneabmnmaaL5Own
import Derived.Test.YtocbgeneabmnmaaCopyTT
import Derived.Test.YtocbgeneabmnmaaMa
namespace Go.Proofs.Ytocbgeneabmnmaa
open Go.RowKit
set_option linter.unusedVariables false

theorem tripC_start : ∀ (xs : List TripD) (k : Nat) (s : Int) (hk : k < xs.length), (tripC xs).set (k * 3 + 2) (.int .i64 s) = tripC (xs.set k ⟨(xs[k]).id, (xs[k]).line, s⟩)
  | x :: xs, 0, s, _ => rfl
  | x :: xs, k + 1, s, hk => by
    have := tripC_start xs k s (by simpa using hk)
    rw [show (k + 1) * 3 + 2 = k * 3 + 2 + 1 + 1 + 1 by omega]
    simpa [tripC] using this
/-- a trip that starts m minutes later, as the program adds -/
def shTrip (x : TripD) (m : Int) : TripD := ⟨x.id, x.line, wrap64 (x.start + m)⟩
def shT (t : TTD) (id m : Int) : TTD := ⟨t.net, if h : placeOf id t.trips < t.trips.length then t.trips.set (placeOf id t.trips) (shTrip (t.trips[placeOf id t.trips]) m) else t.trips⟩
theorem shT_at {t : TTD} {id m : Int} (h : placeOf id t.trips < t.trips.length) : shT t id m = ⟨t.net, t.trips.set (placeOf id t.trips) (shTrip (t.trips[placeOf id t.trips]) m)⟩ := by
  unfold shT; rw [dif_pos h]
theorem wrapT_wf (x : Int) : (Lit.int .i64 (wrap64 x)).wf = true := by
  simp [Lit.wf, IntKind.bits, IntKind.signed, IntKind.min, IntKind.max, wrap64]
  omega
theorem wf_64 {x : Int} (h : (Lit.int .i64 x).wf = true) : -9223372036854775808 ≤ x ∧ x ≤ 9223372036854775807 := by
  simpa [Lit.wf, IntKind.bits, IntKind.signed, IntKind.min, IntKind.max] using h
theorem shT_fits {t : TTD} {id m : Int} (h : placeOf id t.trips < t.trips.length) (hf : TTFits t) : TTFits (shT t id m) := by
  rw [shT_at h]
  refine ⟨hf.1, fun x hx => ?_⟩
  rcases List.mem_or_eq_of_mem_set hx with hx | rfl
  · exact hf.2 x hx
  · have := hf.2 _ (List.getElem_mem h)
    exact ⟨this.1, this.2.1, wrapT_wf _⟩
theorem shT_small {t : TTD} {id m : Int} (hs : TTSmall t) : TTSmall (shT t id m) := by
  by_cases h : placeOf id t.trips < t.trips.length
  · rw [shT_at h]; exact ⟨hs.1, by have := hs.2; unfold TripsSmall at *; simpa using this⟩
  · unfold shT; rw [dif_neg h]; exact hs
theorem sh_range {t : TTD} {id m : Int} (h : placeOf id t.trips < t.trips.length) (hg : TTGood t) (hm : (Lit.int .i64 m).wf = true) (hg2 : TTGood (shT t id m)) : -1799 ≤ m ∧ m ≤ 1799 := by
  have h1 := (hg.2.2 _ h h).2.2.1.2.1
  have h2 := hg2.2.2 (placeOf id t.trips) (by rw [shT_at h]; simpa using h) (by rw [shT_at h]; simpa using h)
  have h3 := h2.2.2.1.2.1
  have e : ((shT t id m).trips[placeOf id t.trips]'(by rw [shT_at h]; simpa using h)).start = wrap64 ((t.trips[placeOf id t.trips]).start + m) := by
    simp only [shT_at h, List.getElem_set_self]; rfl
  rw [e] at h3
  unfold TimeOk at h1 h3
  have hw := wf_64 hm
  unfold wrap64 at h3
  omega
theorem sh_wrap {x m : Int} (h1 : TimeOk x) (h2 : -1799 ≤ m ∧ m ≤ 1799) : wrap64 (x + m) = x + m := by
  unfold TimeOk at h1
  unfold wrap64
  omega

/-! a timetable of the call's own, one start changed -/
theorem TripsIn.start {l u g c : Nat} {w : World} {xs : List TripD} (h : TripsIn l u w (.slice (some ⟨g, 0, none⟩) xs.length c) xs) (k : Nat) (hk : k < xs.length) (s : Int) :
    TripsIn l u (w.setCell ⟨g, k * 3 + 2, none⟩ (.int .i64 s)) (.slice (some ⟨g, 0, none⟩) xs.length c) (xs.set k ⟨(xs[k]).id, (xs[k]).line, s⟩) := by
  have := (h.1.stored (k * 3 + 2) (.int .i64 s)).1
  rw [tripC_start xs k s hk] at this
  exact ⟨by rw [List.length_set]; exact this, h.2⟩
theorem TTIn.start {l u g c : Nat} {w : World} {s l' : Value} {t : TTD} (h : TTIn l u w (.agg #[s, l', .slice (some ⟨g, 0, none⟩) t.trips.length c]) t) (k : Nat) (hk : k < t.trips.length) (z : Int) :
    TTIn l u (w.setCell ⟨g, k * 3 + 2, none⟩ (.int .i64 z)) (.agg #[s, l', .slice (some ⟨g, 0, none⟩) t.trips.length c]) ⟨t.net, t.trips.set k ⟨(t.trips[k]).id, (t.trips[k]).line, z⟩⟩ := by
  obtain ⟨s1, l1, tr, m, m', hv, h1, h2, h3, h4, h5⟩ := h
  simp at hv
  obtain ⟨rfl, rfl, rfl⟩ := hv
  have hs := h5 g rfl
  exact ⟨_, _, _, m, m', rfl, h1.keep (by simp [World.setCell]) (fun q q1 q2 q3 => Below.heap_setCell _ _ _ _ (by show q ≠ g; omega)), h2.start k hk z, h3, h4, h5⟩
theorem TTL.start {l u g c : Nat} {w : World} {s l' : Value} {t : TTD} (h : TTL l u w (.agg #[s, l', .slice (some ⟨g, 0, none⟩) t.trips.length c]) t) (k : Nat) (hk : k < t.trips.length) (z : Int) :
    TTL l u (w.setCell ⟨g, k * 3 + 2, none⟩ (.int .i64 z)) (.agg #[s, l', .slice (some ⟨g, 0, none⟩) t.trips.length c]) ⟨t.net, t.trips.set k ⟨(t.trips[k]).id, (t.trips[k]).line, z⟩⟩ := by
  obtain ⟨s1, l1, tr, m, m', hv, h1, h2, h3, h4, h5⟩ := h
  simp at hv
  obtain ⟨rfl, rfl, rfl⟩ := hv
  have hs := h5 g rfl
  exact ⟨_, _, _, m, m', rfl, h1.keep (by simp [World.setCell]) (fun q q1 q2 q3 => Below.heap_setCell _ _ _ _ (by show q ≠ g; omega)), h2.start k hk z, h3, h4, h5⟩
theorem trip_cells {l u g c : Nat} {w : World} {xs : List TripD} (h : TripsIn l u w (.slice (some ⟨g, 0, none⟩) xs.length c) xs) (k : Nat) (hk : k < xs.length) :
    w.cell? ⟨g, k * 3, none⟩ = some (.int .i64 xs[k].id) ∧ w.cell? ⟨g, k * 3 + 1, none⟩ = some (.int .i64 xs[k].line) ∧ w.cell? ⟨g, k * 3 + 2, none⟩ = some (.int .i64 xs[k].start) ∧ (l ≤ g ∧ g < u ∧ g < w.heap.size) ∧ ∀ o, w.frozen? ⟨g, o, none⟩ = false := by
  have hc := fun j => h.1.cells (g := g) rfl (j := j)
  have e := fun j => addr_add g 0 j
  simp only [Nat.zero_add] at e
  have h0 := hc (k * 3) _ (tripC_get0 xs k hk)
  have h1 := hc (k * 3 + 1) _ (tripC_get1 xs k hk)
  have h2 := hc (k * 3 + 2) _ (tripC_get2 xs k hk)
  rw [e] at h0 h1 h2
  exact ⟨h0, h1, h2, ⟨(h.1.lt g rfl).1, h.2 g rfl, (h.1.lt g rfl).2⟩, fun o => h.1.frozenAt o⟩

theorem ifValid_any (v : Value) (t : TTD) (w : World) (hr : TTAt w v t) (hf : TTFits t) :
    Calls Try.prog 59 #[v] w fun e w' => e = .returned (.tuple #[if ttB t then v else .agg #[.slice none 0 0, .slice none 0 0, .slice none 0 0], .bool (ttB t)]) ∧ Below w.heap.size w w' := by
  have HG := Lib.hid (fun W (hW : Below w.heap.size w W) => implTT_any v t W (hr.below rfl hW) hf)
  obtain ⟨a, c, a', c', b, d, rfl, -, -⟩ := tt_open hr
  clear hr hf
  have HR0 : Hid (Rz ((w.alloc (.cells #[.slice a t.net.stops.length c, .slice a' t.net.lines.length c', .slice b t.trips.length d] 30 (0, 0))).alloc (.cells #[.slice none 0 0, .slice none 0 0, .slice none 0 0] 30 (0, 0))) (w.heap.size + 1)) := ⟨by go_simp, by go_simp, by go_simp, by simp, fun o => by go_simp⟩
  cases hb : ttB t with
  | true =>
    rw [hb] at HG
    clear hb
    go_enter Try.func59, Try.ntmps59
    go_wp2_with fail
    go_at_call 19
    refine (HG.out _ (((Below.refl _ _).alloc (Nat.le_refl _) _).alloc (by simp) _)).mono ?_
    rintro e w1 ⟨rfl, hb1⟩
    have HB1 : Hid (Below w.heap.size w w1) := (((Below.refl _ _).alloc (Nat.le_refl _) _).alloc (by simp) _).trans (hb1.mono (by simp; omega))
    have p0 : w1.cell? ⟨w.heap.size, 0, none⟩ = some (.slice a t.net.stops.length c) := bkeep hb1 (by go_simp)
    have p1 : w1.cell? ⟨w.heap.size, 1, none⟩ = some (.slice a' t.net.lines.length c') := bkeep hb1 (by go_simp)
    have p2 : w1.cell? ⟨w.heap.size, 2, none⟩ = some (.slice b t.trips.length d) := bkeep hb1 (by go_simp)
    obtain ⟨r0, r1, r2, rz, rf⟩ := HR0.out.later hb1
    clear hb1
    go_wp2_with fail
    refine bodyPost_ret (v := .tuple #[.agg #[.slice a t.net.stops.length c, .slice a' t.net.lines.length c', .slice b t.trips.length d], .bool true]) (by simp only [results, Try.results59]; go_simp) rfl ?_
    exact ⟨rfl, ((HB1.out.setCell (p := ⟨_, _, none⟩) (by simp) _).setCell (p := ⟨_, _, none⟩) (by simp) _).setCell (p := ⟨_, _, none⟩) (by simp) _⟩
  | false =>
    rw [hb] at HG
    clear hb
    go_enter Try.func59, Try.ntmps59
    go_wp2_with fail
    go_at_call 19
    refine (HG.out _ (((Below.refl _ _).alloc (Nat.le_refl _) _).alloc (by simp) _)).mono ?_
    rintro e w1 ⟨rfl, hb1⟩
    have HB1 : Hid (Below w.heap.size w w1) := (((Below.refl _ _).alloc (Nat.le_refl _) _).alloc (by simp) _).trans (hb1.mono (by simp; omega))
    obtain ⟨r0, r1, r2, rz, rf⟩ := HR0.out.later hb1
    clear hb1
    go_wp2_with fail
    refine bodyPost_ret (v := .tuple #[.agg #[.slice none 0 0, .slice none 0 0, .slice none 0 0], .bool false]) (by simp only [results, Try.results59]; go_simp) rfl ?_
    exact ⟨rfl, ((HB1.out.setCell (p := ⟨_, _, none⟩) (by simp) _).setCell (p := ⟨_, _, none⟩) (by simp) _).setCell (p := ⟨_, _, none⟩) (by simp) _⟩
-- SHIFT
theorem TripsIn.put3 {l u g c : Nat} {w : World} {xs : List TripD} (h : TripsIn l u w (.slice (some ⟨g, 0, none⟩) xs.length c) xs) (k : Nat) (hk : k < xs.length) (s : TripD) :
    TripsIn l u (((w.setCell ⟨g, k * 3, none⟩ (.int .i64 s.id)).setCell ⟨g, k * 3 + 1, none⟩ (.int .i64 s.line)).setCell ⟨g, k * 3 + 2, none⟩ (.int .i64 s.start)) (.slice (some ⟨g, 0, none⟩) xs.length c) (xs.set k s) := by
  have := (((h.1.stored (k * 3) (.int .i64 s.id)).1.stored (k * 3 + 1) (.int .i64 s.line)).1.stored (k * 3 + 2) (.int .i64 s.start)).1
  rw [tripC_set xs k s hk] at this
  exact ⟨by rw [List.length_set]; exact this, h.2⟩
theorem TTL.put3 {l u g c : Nat} {w : World} {s l' : Value} {t : TTD} (h : TTL l u w (.agg #[s, l', .slice (some ⟨g, 0, none⟩) t.trips.length c]) t) (k : Nat) (hk : k < t.trips.length) (z : TripD) :
    TTL l u (((w.setCell ⟨g, k * 3, none⟩ (.int .i64 z.id)).setCell ⟨g, k * 3 + 1, none⟩ (.int .i64 z.line)).setCell ⟨g, k * 3 + 2, none⟩ (.int .i64 z.start)) (.agg #[s, l', .slice (some ⟨g, 0, none⟩) t.trips.length c]) ⟨t.net, t.trips.set k z⟩ := by
  obtain ⟨s1, l1, tr, m, m', hv, h1, h2, h3, h4, h5⟩ := h
  simp at hv
  obtain ⟨rfl, rfl, rfl⟩ := hv
  have hs := h5 g rfl
  exact ⟨_, _, _, m, m', rfl, h1.keep (by simp [World.setCell]) (fun q q1 q2 q3 => by rw [Below.heap_setCell _ _ _ _ (by show q ≠ g; omega), Below.heap_setCell _ _ _ _ (by show q ≠ g; omega), Below.heap_setCell _ _ _ _ (by show q ≠ g; omega)]), h2.put3 k hk z, h3, h4, h5⟩
noncomputable def shF (t : TTD) (id m : Int) : TTD × Bool := if TTGood t ∧ foundB id t.trips = true ∧ TTGood (shT t id m) then (shT t id m, true) else (⟨⟨[], []⟩, []⟩, false)
theorem shF_small {t : TTD} {id m : Int} (hs : TTSmall t) : TTSmall (shF t id m).1 := by
  unfold shF
  split
  · exact shT_small hs
  · exact ⟨⟨by simp, by simp, by simp, by simp [lineTot]⟩, by simp [TripsSmall]⟩

set_option maxRecDepth 100000 in
set_option maxHeartbeats 4000000 in
theorem implShiftTrip_any (v : Value) (t : TTD) (id m : Int) (w : World) (hr : TTAt w v t) (hf : TTFits t) (hs : TTSmall t) :
    Calls Try.prog 24 #[v, .int .i64 id, .int .i64 m] w fun e w' => ∃ z, e = .returned (.tuple #[z, .bool (shF t id m).2]) ∧ TTIn w.heap.size w'.heap.size w' z (shF t id m).1 ∧ Below w.heap.size w w' := by
  have HT := Lib.hid (fun W (hW : Below w.heap.size w W) => implTripNumber_any v t id W (hr.below rfl hW) hf hs)
  have HCp := Lib.hid (fun W (hW : Below w.heap.size w W) (hg : NetGood t.net) (hl : t.trips.length ≤ 12) => copyTimetable_any v t W (hr.below rfl hW) hg hl)
  obtain ⟨a, c, a', c', b, d, rfl, -, -⟩ := tt_open hr
  clear hr
  have HI : Hid (Rz ((w.alloc (.cells #[.slice a t.net.stops.length c, .slice a' t.net.lines.length c', .slice b t.trips.length d] 30 (0, 0))).alloc (.cells #[.slice none 0 0, .slice none 0 0, .slice none 0 0] 30 (0, 0))) (w.heap.size + 1)) := ⟨by go_simp, by go_simp, by go_simp, by simp, fun o => by go_simp⟩
  have HB0 : Hid (Below w.heap.size w ((w.alloc (.cells #[.slice a t.net.stops.length c, .slice a' t.net.lines.length c', .slice b t.trips.length d] 30 (0, 0))).alloc (.cells #[.slice none 0 0, .slice none 0 0, .slice none 0 0] 30 (0, 0)))) := ((Below.refl _ _).alloc (Nat.le_refl _) _).alloc (by simp) _
  by_cases hgf : TTGood t ∧ foundB id t.trips = true
  · rw [show numF t id = ((placeOf id t.trips : Int), true) from if_pos hgf] at HT
    obtain ⟨hg, hfd⟩ := hgf
    have hp := (findI_found hg.Asc hfd).2
    have HCp2 := Lib.hid (fun W (hW : Below w.heap.size w W) => HCp.out W hW hg.1 hg.2.1)
    have hl12 := hg.2.1
    have HF2 := Lib.hid (shT_fits (m := m) hp hf)
    have HE : Hid (shT t id m = ⟨t.net, t.trips.set (placeOf id t.trips) ⟨(t.trips[placeOf id t.trips]).id, (t.trips[placeOf id t.trips]).line, wrap64 ((t.trips[placeOf id t.trips]).start + m)⟩⟩) := shT_at hp
    have HN : Hid (shF t id m = if ttB (shT t id m) = true then (shT t id m, true) else (⟨⟨[], []⟩, []⟩, false)) := by
      show _ = _
      unfold shF
      by_cases hq : TTGood (shT t id m)
      · rw [if_pos ⟨hg, hfd, hq⟩, if_pos (ttB_yes hq)]
      · rw [if_neg (fun h => hq h.2.2), if_neg (by rw [ttB_no hq]; simp)]
    clear hf hs hg hfd HCp
    have hp1 : (placeOf id t.trips : Int) < (t.trips.length : Int) := by omega
    have hp0 : (0 : Int) ≤ (placeOf id t.trips : Int) := by omega
    go_enter Try.func24, Try.ntmps24
    go_wp2_with fail
    go_at_call 38
    refine (HT.out _ HB0.out).mono ?_
    rintro e w1 ⟨rfl, hb1⟩
    have HB1 := Lib.hid (HB0.out.trans (hb1.mono HB0.out.size))
    have HR1 := Lib.hid (HI.out.later hb1)
    have p0 : w1.cell? ⟨w.heap.size, 0, none⟩ = some (.slice a t.net.stops.length c) := bkeep hb1 (by go_simp)
    have p1 : w1.cell? ⟨w.heap.size, 1, none⟩ = some (.slice a' t.net.lines.length c') := bkeep hb1 (by go_simp)
    have p2 : w1.cell? ⟨w.heap.size, 2, none⟩ = some (.slice b t.trips.length d) := bkeep hb1 (by go_simp)
    clear hb1
    go_wp2_with fail
    go_at_call 56
    refine (HCp2.out _ HB1.out).mono ?_
    rintro e w2 ⟨a5, c5, a5', c5', b5, d5, rfl, hi2, hb2⟩
    have HB2 := Lib.hid (HB1.out.trans (hb2.mono HB1.out.size))
    have HR2 := Lib.hid (HR1.out.later hb2)
    have HI2 := Lib.hid hi2
    have htr : TripsIn w1.heap.size w2.heap.size w2 (.slice (some ⟨b5, 0, none⟩) t.trips.length d5) t.trips := by
      obtain ⟨_, _, _, _, _, hv, _, h2, _⟩ := hi2
      simp at hv
      obtain ⟨-, -, rfl⟩ := hv
      exact h2
    obtain ⟨x0, x1, x2, ⟨hg1, hg2, hg3⟩, xf⟩ := trip_cells htr _ hp
    clear hi2 hb2 p0 p1 p2 htr
    go_wp2_with fail
    have hW3 : Below w.heap.size w (w2.setCell ⟨b5, placeOf id t.trips * 3 + 2, none⟩ (.int .i64 (wrap64 ((t.trips[placeOf id t.trips]).start + m)))) := HB2.out.setCell (p := ⟨b5, _, none⟩) (by have := HB1.out.size; show w.heap.size ≤ b5; omega) _
    have HI3 : Hid (TTIn w1.heap.size w2.heap.size (w2.setCell ⟨b5, placeOf id t.trips * 3 + 2, none⟩ (.int .i64 (wrap64 ((t.trips[placeOf id t.trips]).start + m)))) (.agg #[.slice a5 t.net.stops.length c5, .slice a5' t.net.lines.length c5', .slice (some ⟨b5, 0, none⟩) t.trips.length d5]) (shT t id m)) := by
      show TTIn _ _ _ _ _
      rw [HE.out]
      exact HI2.out.start _ hp _
    have HR3 : Hid (Rz (w2.setCell ⟨b5, placeOf id t.trips * 3 + 2, none⟩ (.int .i64 (wrap64 ((t.trips[placeOf id t.trips]).start + m)))) (w.heap.size + 1)) := by
      obtain ⟨r0, r1, r2, rz, rf⟩ := HR2.out
      have hz1 := HR1.out.2.2.2.1
      exact ⟨(set_otherT (by omega)).trans r0, (set_otherT (by omega)).trans r1, (set_otherT (by omega)).trans r2, by simpa [World.setCell] using rz, fun o => by rw [World.frozen?_setCell]; exact rf o⟩
    have hz13 : w1.heap.size ≤ w2.heap.size ∧ w.heap.size + 1 < w1.heap.size := ⟨by omega, HR1.out.2.2.2.1⟩
    obtain ⟨w3, hw3⟩ : ∃ w3 : World, w3 = w2.setCell ⟨b5, placeOf id t.trips * 3 + 2, none⟩ (.int .i64 (wrap64 ((t.trips[placeOf id t.trips]).start + m))) := ⟨_, rfl⟩
    have hs3 : w3.heap.size = w2.heap.size := by rw [hw3]; simp [World.setCell]
    rw [← hw3] at hW3 HI3 HR3 ⊢
    clear hw3 x0 x1 x2 xf
    go_at_call 59
    refine (ifValid_any _ (shT t id m) _ (HI3.out.later ((Below.refl _ _).alloc (Nat.le_refl _) _)).at HF2.out).mono ?_
    rintro e w4 ⟨rfl, hb4⟩
    have hb34 : Below w3.heap.size w3 w4 := ((Below.refl _ _).alloc (Nat.le_refl _) _).trans (hb4.mono (by simp))
    have HB4 := Lib.hid (hW3.trans (hb34.mono hW3.size))
    have HI4 := Lib.hid (HI3.out.later hb34)
    obtain ⟨r0, r1, r2, rz, rf⟩ := HR3.out.later hb34
    have hsz4 := hb34.size
    clear hb4 hb34 hW3
    have hq : ∀ (u0 u1 u2 : Value), Out (w.heap.size + 1) (w.heap.size + 2) w4 (((w4.setCell ⟨w.heap.size + 1, 0, none⟩ u0).setCell ⟨w.heap.size + 1, 1, none⟩ u1).setCell ⟨w.heap.size + 1, 2, none⟩ u2) := fun u0 u1 u2 => (((Out.refl _ _ _).setCell (p := ⟨_, _, none⟩) (by simp) (by simp) _).setCell (p := ⟨_, _, none⟩) (by simp) (by simp) _).setCell (p := ⟨_, _, none⟩) (by simp) (by simp) _
    cases hv : ttB (shT t id m) with
    | true =>
      have HN2 := Lib.hid (HN.out.trans (if_pos hv))
      go_wp2_with fail
      refine bodyPost_ret (v := .tuple #[.agg #[.slice a5 t.net.stops.length c5, .slice a5' t.net.lines.length c5', .slice (some ⟨b5, 0, none⟩) t.trips.length d5], .bool true]) (by simp only [results, Try.results24]; go_simp) rfl ?_
      rw [HN2.out]
      have hzz := (hq (.slice a5 t.net.stops.length c5) (.slice a5' t.net.lines.length c5') (.slice (some ⟨b5, 0, none⟩) t.trips.length d5)).below.size
      exact ⟨_, rfl, (HI4.out.out (hq _ _ _) (.inr (by omega))).base (by omega) (by omega), ((HB4.out.setCell (p := ⟨w.heap.size + 1, _, none⟩) (by simp) _).setCell (p := ⟨w.heap.size + 1, _, none⟩) (by simp) _).setCell (p := ⟨w.heap.size + 1, _, none⟩) (by simp) _⟩
    | false =>
      have HN2 := Lib.hid (HN.out.trans (if_neg (by rw [hv]; simp)))
      go_wp2_with fail
      refine bodyPost_ret (v := .tuple #[.agg #[.slice none 0 0, .slice none 0 0, .slice none 0 0], .bool false]) (by simp only [results, Try.results24]; go_simp) rfl ?_
      rw [HN2.out]
      have hbz := fun (u0 u1 u2 : Value) => ((HB4.out.setCell (p := ⟨w.heap.size + 1, 0, none⟩) (by simp) u0).setCell (p := ⟨w.heap.size + 1, 1, none⟩) (by simp) u1).setCell (p := ⟨w.heap.size + 1, 2, none⟩) (by simp) u2
      exact ⟨_, rfl, TTIn.zero _ _ _ (hbz (.slice none 0 0) (.slice none 0 0) (.slice none 0 0)).size, hbz _ _ _⟩
  · rw [show numF t id = (0, false) from if_neg hgf] at HT
    have HN : Hid (shF t id m = (⟨⟨[], []⟩, []⟩, false)) := if_neg (fun h => hgf ⟨h.1, h.2.1⟩)
    clear hgf hf hs HCp
    go_enter Try.func24, Try.ntmps24
    go_wp2_with fail
    go_at_call 38
    refine (HT.out _ HB0.out).mono ?_
    rintro e w1 ⟨rfl, hb1⟩
    have HB1 := Lib.hid (HB0.out.trans (hb1.mono HB0.out.size))
    obtain ⟨r0, r1, r2, rz, rf⟩ := HI.out.later hb1
    clear hb1
    go_wp2_with fail
    refine bodyPost_ret (v := .tuple #[.agg #[.slice none 0 0, .slice none 0 0, .slice none 0 0], .bool false]) (by simp only [results, Try.results24]; go_simp) rfl ?_
    rw [HN.out]
    have hbz := fun (u0 u1 u2 : Value) => ((HB1.out.setCell (p := ⟨w.heap.size + 1, 0, none⟩) (by simp) u0).setCell (p := ⟨w.heap.size + 1, 1, none⟩) (by simp) u1).setCell (p := ⟨w.heap.size + 1, 2, none⟩) (by simp) u2
    exact ⟨_, rfl, TTIn.zero _ _ _ (hbz (.slice none 0 0) (.slice none 0 0) (.slice none 0 0)).size, hbz _ _ _⟩

set_option maxRecDepth 100000 in
set_option maxHeartbeats 4000000 in
theorem specShiftTrip_any (v : Value) (t : TTD) (id m : Int) (w : World) (hr : TTAt w v t) (hf : TTFits t) (hs : TTSmall t) (hm : (Lit.int .i64 m).wf = true) :
    Calls Try.prog 25 #[v, .int .i64 id, .int .i64 m] w fun e w' => ∃ z, e = .returned (.tuple #[z, .bool (shF t id m).2]) ∧ TTL w.heap.size w'.heap.size w' z (shF t id m).1 ∧ Below w.heap.size w w' := by
  have HG := Lib.hid (fun W (hW : Below w.heap.size w W) => l5Good_any v t W (hr.below rfl hW) hf)
  have HF := Lib.hid (fun W (hW : Below w.heap.size w W) => l5Find_any v t id W (hr.below rfl hW) hs)
  have HCp := Lib.hid (fun W (hW : Below w.heap.size w W) (hg : NetGood t.net) (hl : t.trips.length ≤ 12) => l5Own_any v t W (hr.below rfl hW) hg hl)
  obtain ⟨a, c, a', c', b, d, rfl, -, -⟩ := tt_open hr
  clear hr
  have HI : Hid (Rz ((w.alloc (.cells #[.slice a t.net.stops.length c, .slice a' t.net.lines.length c', .slice b t.trips.length d] 30 (0, 0))).alloc (.cells #[.slice none 0 0, .slice none 0 0, .slice none 0 0] 30 (0, 0))) (w.heap.size + 1)) := ⟨by go_simp, by go_simp, by go_simp, by simp, fun o => by go_simp⟩
  have HB0 : Hid (Below w.heap.size w ((w.alloc (.cells #[.slice a t.net.stops.length c, .slice a' t.net.lines.length c', .slice b t.trips.length d] 30 (0, 0))).alloc (.cells #[.slice none 0 0, .slice none 0 0, .slice none 0 0] 30 (0, 0)))) := ((Below.refl _ _).alloc (Nat.le_refl _) _).alloc (by simp) _
  by_cases hg : TTGood t
  · rw [ttB_yes hg] at HG
    cases hfd : foundB id t.trips with
    | true =>
      obtain ⟨hfi, hp⟩ := findI_found hg.Asc hfd
      rw [hfi] at HF
      have hlt0 : ¬ (placeOf id t.trips : Int) < 0 := by omega
      by_cases hrg : -1799 ≤ m ∧ m ≤ 1799
      · have HCp2 := Lib.hid (fun W (hW : Below w.heap.size w W) => HCp.out W hW hg.1 hg.2.1)
        have hl12 := hg.2.1
        have HF2 := Lib.hid (shT_fits (m := m) hp hf)
        have HE : Hid (shT t id m = ⟨t.net, t.trips.set (placeOf id t.trips) ⟨(t.trips[placeOf id t.trips]).id, (t.trips[placeOf id t.trips]).line, wrap64 ((t.trips[placeOf id t.trips]).start + m)⟩⟩) := shT_at hp
        have HN : Hid (shF t id m = if ttB (shT t id m) = true then (shT t id m, true) else (⟨⟨[], []⟩, []⟩, false)) := by
          show _ = _
          unfold shF
          by_cases hq : TTGood (shT t id m)
          · rw [if_pos ⟨hg, hfd, hq⟩, if_pos (ttB_yes hq)]
          · rw [if_neg (fun h => hq h.2.2), if_neg (by rw [ttB_no hq]; simp)]
        have HRg := Lib.hid hrg
        clear hf hs hg hfd HCp hfi hrg
        have hp1 : (placeOf id t.trips : Int) < (t.trips.length : Int) := by omega
        have hp0 : (0 : Int) ≤ (placeOf id t.trips : Int) := by omega
        go_enter Try.func25, Try.ntmps25
        go_wp2_with fail
        go_at_call 60
        refine (HG.out _ HB0.out).mono ?_
        rintro e w1 ⟨rfl, hb1⟩
        have HB1 := Lib.hid (HB0.out.trans (hb1.mono HB0.out.size))
        have HR1 := Lib.hid (HI.out.later hb1)
        have p0 : w1.cell? ⟨w.heap.size, 0, none⟩ = some (.slice a t.net.stops.length c) := bkeep hb1 (by go_simp)
        have p1 : w1.cell? ⟨w.heap.size, 1, none⟩ = some (.slice a' t.net.lines.length c') := bkeep hb1 (by go_simp)
        have p2 : w1.cell? ⟨w.heap.size, 2, none⟩ = some (.slice b t.trips.length d) := bkeep hb1 (by go_simp)
        clear hb1
        go_wp2_with fail
        go_at_call 68
        refine (HF.out _ HB1.out).mono ?_
        rintro e w2 ⟨rfl, hb2⟩
        have HB2 := Lib.hid (HB1.out.trans (hb2.mono HB1.out.size))
        have HR2 := Lib.hid (HR1.out.later hb2)
        have q0 := bkeep hb2 p0
        have q1 := bkeep hb2 p1
        have q2 := bkeep hb2 p2
        clear hb2 p0 p1 p2 HB1 HR1
        go_wp2_with fail
        go_at_call 69
        refine (l1In_yes _ _ _ _ HRg.out).mono ?_
        rintro e w' ⟨rfl, rfl⟩
        go_wp2_with fail
        go_at_call 70
        refine (HCp2.out _ HB2.out).mono ?_
        rintro e w3 ⟨a5, c5, a5', c5', b5, d5, rfl, hi3, hb3⟩
        have HB3 := Lib.hid (HB2.out.trans (hb3.mono HB2.out.size))
        have HR3 := Lib.hid (HR2.out.later hb3)
        have HI3 := Lib.hid hi3
        have s0 := bkeep hb3 q0
        have s1 := bkeep hb3 q1
        have s2 := bkeep hb3 q2
        have hz2 := HR2.out.2.2.2.1
        clear hi3 hb3 q0 q1 q2
        have hz30 : w.heap.size + 1 < w3.heap.size := HR3.out.2.2.2.1
        have hz3 : w.heap.size < w3.heap.size := by omega
        go_wp2_with fail
        go_at_call 68
        refine (HF.out _ ?hfb).mono ?_
        case hfb => exact HB3.out.alloc HB3.out.size _
        rintro e w4 ⟨rfl, hb4⟩
        have htr : TripsIn w2.heap.size w3.heap.size w3 (.slice (some ⟨b5, 0, none⟩) t.trips.length d5) t.trips := by
          obtain ⟨_, _, _, _, _, hv, _, h2, _⟩ := HI3.out
          simp at hv
          obtain ⟨-, -, rfl⟩ := hv
          exact h2
        obtain ⟨x0, x1, x2, ⟨hg1, hg2, hg3⟩, xf⟩ := trip_cells htr _ hp
        have hb34 : Below w3.heap.size w3 w4 := ((Below.refl _ _).alloc (Nat.le_refl _) _).trans (hb4.mono (by simp))
        have HB4 := Lib.hid (HB3.out.trans (hb34.mono HB3.out.size))
        have HI4 := Lib.hid (HI3.out.later hb34)
        have HR4 := Lib.hid (HR3.out.later hb34)
        have y0 := bkeep hb34 x0
        have y1 := bkeep hb34 x1
        have y2 := bkeep hb34 x2
        have yf : ∀ o, w4.frozen? ⟨b5, o, none⟩ = false := fun o => by rw [hb34.frozen (p := ⟨b5, o, none⟩) hg3]; exact xf o
        have t0 : w4.cell? ⟨w3.heap.size, 0, none⟩ = some (.slice a5 t.net.stops.length c5) := bkeep hb4 (by go_simp)
        have t1 : w4.cell? ⟨w3.heap.size, 1, none⟩ = some (.slice a5' t.net.lines.length c5') := bkeep hb4 (by go_simp)
        have t2 : w4.cell? ⟨w3.heap.size, 2, none⟩ = some (.slice (some ⟨b5, 0, none⟩) t.trips.length d5) := bkeep hb4 (by go_simp)
        have hz4 : w3.heap.size < w4.heap.size := by have := hb4.size; simp at this; omega
        have hz45 : b5 < w4.heap.size := by omega
        have hne45 : b5 ≠ w4.heap.size := by omega
        have hne35 : b5 ≠ w3.heap.size := by omega
        have hne36 : w3.heap.size ≠ b5 := by omega
        clear hb4 hb34 x0 x1 x2 xf s0 s1 s2 htr
        go_wp2_with fail
        have hW5 : Below w.heap.size w (((w4.setCell ⟨b5, placeOf id t.trips * 3, none⟩ (.int .i64 (t.trips[placeOf id t.trips]).id)).setCell ⟨b5, placeOf id t.trips * 3 + 1, none⟩ (.int .i64 (t.trips[placeOf id t.trips]).line)).setCell ⟨b5, placeOf id t.trips * 3 + 2, none⟩ (.int .i64 (wrap64 ((t.trips[placeOf id t.trips]).start + m)))) := ((HB4.out.setCell (p := ⟨b5, _, none⟩) (by show w.heap.size ≤ b5; omega) _).setCell (p := ⟨b5, _, none⟩) (by show w.heap.size ≤ b5; omega) _).setCell (p := ⟨b5, _, none⟩) (by show w.heap.size ≤ b5; omega) _
        have HI5 : Hid (TTL w2.heap.size w3.heap.size (((w4.setCell ⟨b5, placeOf id t.trips * 3, none⟩ (.int .i64 (t.trips[placeOf id t.trips]).id)).setCell ⟨b5, placeOf id t.trips * 3 + 1, none⟩ (.int .i64 (t.trips[placeOf id t.trips]).line)).setCell ⟨b5, placeOf id t.trips * 3 + 2, none⟩ (.int .i64 (wrap64 ((t.trips[placeOf id t.trips]).start + m)))) (.agg #[.slice a5 t.net.stops.length c5, .slice a5' t.net.lines.length c5', .slice (some ⟨b5, 0, none⟩) t.trips.length d5]) (shT t id m)) := by
          show TTL _ _ _ _ _
          rw [HE.out]
          exact HI4.out.put3 _ hp ⟨(t.trips[placeOf id t.trips]).id, (t.trips[placeOf id t.trips]).line, wrap64 ((t.trips[placeOf id t.trips]).start + m)⟩
        have ho5 : ∀ q o, q ≠ b5 → (((w4.setCell ⟨b5, placeOf id t.trips * 3, none⟩ (.int .i64 (t.trips[placeOf id t.trips]).id)).setCell ⟨b5, placeOf id t.trips * 3 + 1, none⟩ (.int .i64 (t.trips[placeOf id t.trips]).line)).setCell ⟨b5, placeOf id t.trips * 3 + 2, none⟩ (.int .i64 (wrap64 ((t.trips[placeOf id t.trips]).start + m)))).cell? ⟨q, o, none⟩ = w4.cell? ⟨q, o, none⟩ := fun q o hq => (set_otherT hq).trans ((set_otherT hq).trans (set_otherT hq))
        have HR5 : Hid (Rz (((w4.setCell ⟨b5, placeOf id t.trips * 3, none⟩ (.int .i64 (t.trips[placeOf id t.trips]).id)).setCell ⟨b5, placeOf id t.trips * 3 + 1, none⟩ (.int .i64 (t.trips[placeOf id t.trips]).line)).setCell ⟨b5, placeOf id t.trips * 3 + 2, none⟩ (.int .i64 (wrap64 ((t.trips[placeOf id t.trips]).start + m)))) (w.heap.size + 1)) := by
          obtain ⟨r0, r1, r2, rz, rf⟩ := HR4.out
          exact ⟨(ho5 _ _ (by omega)).trans r0, (ho5 _ _ (by omega)).trans r1, (ho5 _ _ (by omega)).trans r2, by simpa [World.setCell] using rz, fun o => by simp only [World.frozen?_setCell]; exact rf o⟩
        have t0' := (ho5 _ _ hne36).trans t0
        have t1' := (ho5 _ _ hne36).trans t1
        have t2' := (ho5 _ _ hne36).trans t2
        clear ho5
        obtain ⟨w5, hw5⟩ : ∃ w5 : World, w5 = ((w4.setCell ⟨b5, placeOf id t.trips * 3, none⟩ (.int .i64 (t.trips[placeOf id t.trips]).id)).setCell ⟨b5, placeOf id t.trips * 3 + 1, none⟩ (.int .i64 (t.trips[placeOf id t.trips]).line)).setCell ⟨b5, placeOf id t.trips * 3 + 2, none⟩ (.int .i64 (wrap64 ((t.trips[placeOf id t.trips]).start + m))) := ⟨_, rfl⟩
        have hs5 : w5.heap.size = w4.heap.size := by rw [hw5]; simp [World.setCell]
        rw [← hw5] at hW5 HI5 HR5 t0' t1' t2' ⊢
        clear hw5 y0 y1 y2 yf t0 t1 t2
        go_at_call 60
        refine (l5Good_any _ (shT t id m) _ (HI5.out.later ((Below.refl _ _).alloc (Nat.le_refl _) _)).at HF2.out).mono ?_
        rintro e w6 ⟨rfl, hb6⟩
        have hb56 : Below w5.heap.size w5 w6 := ((Below.refl _ _).alloc (Nat.le_refl _) _).trans (hb6.mono (by simp))
        have HB6 := Lib.hid (hW5.trans (hb56.mono hW5.size))
        have HI6 := Lib.hid (HI5.out.later hb56)
        obtain ⟨r0, r1, r2, rz, rf⟩ := HR5.out.later hb56
        have z0 := bkeep hb56 t0'
        have z1 := bkeep hb56 t1'
        have z2 := bkeep hb56 t2'
        have hsz6 := hb56.size
        clear hb6 hb56 hW5 t0' t1' t2'
        have hq : ∀ (u0 u1 u2 : Value), Out (w.heap.size + 1) (w.heap.size + 2) w6 (((w6.setCell ⟨w.heap.size + 1, 0, none⟩ u0).setCell ⟨w.heap.size + 1, 1, none⟩ u1).setCell ⟨w.heap.size + 1, 2, none⟩ u2) := fun u0 u1 u2 => (((Out.refl _ _ _).setCell (p := ⟨_, _, none⟩) (by simp) (by simp) _).setCell (p := ⟨_, _, none⟩) (by simp) (by simp) _).setCell (p := ⟨_, _, none⟩) (by simp) (by simp) _
        cases hv : ttB (shT t id m) with
        | true =>
          have HN2 := Lib.hid (HN.out.trans (if_pos hv))
          go_wp2_with fail
          refine bodyPost_ret (v := .tuple #[.agg #[.slice a5 t.net.stops.length c5, .slice a5' t.net.lines.length c5', .slice (some ⟨b5, 0, none⟩) t.trips.length d5], .bool true]) (by simp only [results, Try.results25]; go_simp) rfl ?_
          rw [HN2.out]
          have hzz := (hq (.slice a5 t.net.stops.length c5) (.slice a5' t.net.lines.length c5') (.slice (some ⟨b5, 0, none⟩) t.trips.length d5)).below.size
          exact ⟨_, rfl, (HI6.out.out (hq _ _ _) (.inr (by omega))).base (by omega) (by omega), ((HB6.out.setCell (p := ⟨w.heap.size + 1, _, none⟩) (by simp) _).setCell (p := ⟨w.heap.size + 1, _, none⟩) (by simp) _).setCell (p := ⟨w.heap.size + 1, _, none⟩) (by simp) _⟩
        | false =>
          have HN2 := Lib.hid (HN.out.trans (if_neg (by rw [hv]; simp)))
          go_wp2_with fail
          refine bodyPost_ret (v := .tuple #[.agg #[.slice none 0 0, .slice none 0 0, .slice none 0 0], .bool false]) (by simp only [results, Try.results25]; go_simp) rfl ?_
          rw [HN2.out]
          have hbz := fun (u0 u1 u2 : Value) => ((HB6.out.setCell (p := ⟨w.heap.size + 1, 0, none⟩) (by simp) u0).setCell (p := ⟨w.heap.size + 1, 1, none⟩) (by simp) u1).setCell (p := ⟨w.heap.size + 1, 2, none⟩) (by simp) u2
          exact ⟨_, rfl, TTL.zero _ _ _ (hbz (.slice none 0 0) (.slice none 0 0) (.slice none 0 0)).size, hbz _ _ _⟩
      · have HN : Hid (shF t id m = (⟨⟨[], []⟩, []⟩, false)) := if_neg (fun h => hrg (sh_range hp hg hm h.2.2))
        have HRg := Lib.hid hrg
        clear hf hs hg hfd HCp hfi hrg
        go_enter Try.func25, Try.ntmps25
        go_wp2_with fail
        go_at_call 60
        refine (HG.out _ HB0.out).mono ?_
        rintro e w1 ⟨rfl, hb1⟩
        have HB1 := Lib.hid (HB0.out.trans (hb1.mono HB0.out.size))
        have HR1 := Lib.hid (HI.out.later hb1)
        have p0 : w1.cell? ⟨w.heap.size, 0, none⟩ = some (.slice a t.net.stops.length c) := bkeep hb1 (by go_simp)
        have p1 : w1.cell? ⟨w.heap.size, 1, none⟩ = some (.slice a' t.net.lines.length c') := bkeep hb1 (by go_simp)
        have p2 : w1.cell? ⟨w.heap.size, 2, none⟩ = some (.slice b t.trips.length d) := bkeep hb1 (by go_simp)
        clear hb1
        go_wp2_with fail
        go_at_call 68
        refine (HF.out _ HB1.out).mono ?_
        rintro e w2 ⟨rfl, hb2⟩
        have HB2 := Lib.hid (HB1.out.trans (hb2.mono HB1.out.size))
        obtain ⟨r0, r1, r2, rz, rf⟩ := HR1.out.later hb2
        clear hb2 p0 p1 p2 HB1
        go_wp2_with fail
        go_at_call 69
        refine (l1In_no _ _ _ _ HRg.out).mono ?_
        rintro e w' ⟨rfl, rfl⟩
        go_wp2_with fail
        refine bodyPost_ret (v := .tuple #[.agg #[.slice none 0 0, .slice none 0 0, .slice none 0 0], .bool false]) (by simp only [results, Try.results25]; go_simp) rfl ?_
        rw [HN.out]
        have hbz := fun (u0 u1 u2 : Value) => ((HB2.out.setCell (p := ⟨w.heap.size + 1, 0, none⟩) (by simp) u0).setCell (p := ⟨w.heap.size + 1, 1, none⟩) (by simp) u1).setCell (p := ⟨w.heap.size + 1, 2, none⟩) (by simp) u2
        exact ⟨_, rfl, TTL.zero _ _ _ (hbz (.slice none 0 0) (.slice none 0 0) (.slice none 0 0)).size, hbz _ _ _⟩
    | false =>
      have hfi := findI_none hg.Asc hfd
      rw [hfi] at HF
      have HN : Hid (shF t id m = (⟨⟨[], []⟩, []⟩, false)) := if_neg (fun h => by rw [hfd] at h; cases h.2.1)
      clear hf hs hg hfd HCp hfi
      go_enter Try.func25, Try.ntmps25
      go_wp2_with fail
      go_at_call 60
      refine (HG.out _ HB0.out).mono ?_
      rintro e w1 ⟨rfl, hb1⟩
      have HB1 := Lib.hid (HB0.out.trans (hb1.mono HB0.out.size))
      have HR1 := Lib.hid (HI.out.later hb1)
      have p0 : w1.cell? ⟨w.heap.size, 0, none⟩ = some (.slice a t.net.stops.length c) := bkeep hb1 (by go_simp)
      have p1 : w1.cell? ⟨w.heap.size, 1, none⟩ = some (.slice a' t.net.lines.length c') := bkeep hb1 (by go_simp)
      have p2 : w1.cell? ⟨w.heap.size, 2, none⟩ = some (.slice b t.trips.length d) := bkeep hb1 (by go_simp)
      clear hb1
      go_wp2_with fail
      go_at_call 68
      refine (HF.out _ HB1.out).mono ?_
      rintro e w2 ⟨rfl, hb2⟩
      have HB2 := Lib.hid (HB1.out.trans (hb2.mono HB1.out.size))
      obtain ⟨r0, r1, r2, rz, rf⟩ := HR1.out.later hb2
      clear hb2 p0 p1 p2 HB1
      go_wp2_with fail
      refine bodyPost_ret (v := .tuple #[.agg #[.slice none 0 0, .slice none 0 0, .slice none 0 0], .bool false]) (by simp only [results, Try.results25]; go_simp) rfl ?_
      rw [HN.out]
      have hbz := fun (u0 u1 u2 : Value) => ((HB2.out.setCell (p := ⟨w.heap.size + 1, 0, none⟩) (by simp) u0).setCell (p := ⟨w.heap.size + 1, 1, none⟩) (by simp) u1).setCell (p := ⟨w.heap.size + 1, 2, none⟩) (by simp) u2
      exact ⟨_, rfl, TTL.zero _ _ _ (hbz (.slice none 0 0) (.slice none 0 0) (.slice none 0 0)).size, hbz _ _ _⟩
  · rw [ttB_no hg] at HG
    have HN : Hid (shF t id m = (⟨⟨[], []⟩, []⟩, false)) := if_neg (fun h => hg h.1)
    clear hf hs hg HCp HF
    go_enter Try.func25, Try.ntmps25
    go_wp2_with fail
    go_at_call 60
    refine (HG.out _ HB0.out).mono ?_
    rintro e w1 ⟨rfl, hb1⟩
    have HB1 := Lib.hid (HB0.out.trans (hb1.mono HB0.out.size))
    obtain ⟨r0, r1, r2, rz, rf⟩ := HI.out.later hb1
    clear hb1
    go_wp2_with fail
    refine bodyPost_ret (v := .tuple #[.agg #[.slice none 0 0, .slice none 0 0, .slice none 0 0], .bool false]) (by simp only [results, Try.results25]; go_simp) rfl ?_
    rw [HN.out]
    have hbz := fun (u0 u1 u2 : Value) => ((HB1.out.setCell (p := ⟨w.heap.size + 1, 0, none⟩) (by simp) u0).setCell (p := ⟨w.heap.size + 1, 1, none⟩) (by simp) u1).setCell (p := ⟨w.heap.size + 1, 2, none⟩) (by simp) u2
    exact ⟨_, rfl, TTL.zero _ _ _ (hbz (.slice none 0 0) (.slice none 0 0) (.slice none 0 0)).size, hbz _ _ _⟩

theorem bothShiftTrip (t : TTD) (hf : TTFits t) (hs : TTSmall t) (id : Int) (w1 : (Lit.int .i64 id).wf = true) (m : Int) (w2 : (Lit.int .i64 m).wf = true) : ∃ (res : TTD) (q : Bool), TTSmall res ∧ ∀ (v : Value) (w : World), TTAt w v t →
    Calls Try.prog 25 #[v, .int .i64 id, .int .i64 m] w (fun e w' => ∃ z, e = .returned (.tuple #[z, .bool q]) ∧ TTL w.heap.size w'.heap.size w' z res ∧ Below w.heap.size w w') ∧
    Calls Try.prog 24 #[v, .int .i64 id, .int .i64 m] w (fun e w' => ∃ z, e = .returned (.tuple #[z, .bool q]) ∧ TTIn w.heap.size w'.heap.size w' z res ∧ Below w.heap.size w w') :=
  ⟨_, _, shF_small hs, fun v w h => ⟨specShiftTrip_any v t id m w h hf hs w2, implShiftTrip_any v t id m w h hf hs⟩⟩
end Go.Proofs.Ytocbgeneabmnmaa
