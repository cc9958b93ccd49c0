import Derived.Test.YtehpeifaknbcnaaTT
import Derived.Test.YtehpeifaknbcnaaTripX
namespace Go.Proofs.Ytehpeifaknbcnaa
open Go.RowKit
set_option linter.unusedVariables false

theorem szTimetable_x (v : Value) (t : TTD) (left : Int) (w : World) (hr : TTAt w v t) (hf : TTFits t) (h0 : 0 ≤ left) (h1 : left ≤ 1048576) :
    Calls Try.prog 19 #[v, .int .i64 left] w fun e w' => (∃ r : Int, e = .returned (.int .i64 r) ∧ (r = -1 ∨ (0 ≤ r ∧ r ≤ left ∧ TTSmall t))) ∧ Below w.heap.size w w' := by
  obtain ⟨a, c, a', c', b, d, rfl, hn, ht⟩ := tt_open hr
  have HN := Lib.hid (fun W (hW : Below w.heap.size w W) => szNetwork_x _ t.net left W (hn.below rfl hW) hf.1 h0 h1)
  have HT := Lib.hid (fun W (hW : Below w.heap.size w W) r (g0 : 0 ≤ r) (g1 : r ≤ 1048576) => szTripS_x2 _ t.trips r W (ht.below rfl hW) hf.2 g0 g1)
  clear hn ht hr hf
  go_enter Try.func19, Try.ntmps19
  go_wp2_with fail
  go_at_call 11
  refine (HN.out _ ((Below.refl _ _).alloc (Nat.le_refl _) _)).mono ?_
  rintro e w1 ⟨⟨r1, rfl, hr1⟩, hb1⟩
  have HB1 : Hid (Below w.heap.size w w1) := ((Below.refl _ _).alloc (Nat.le_refl _) _).trans (hb1.mono (by simp))
  have p2 : w1.cell? ⟨w.heap.size, 2, none⟩ = some (.slice b t.trips.length d) := bkeep hb1 (by go_simp)
  clear hb1
  rcases hr1 with rfl | ⟨hp1, hq1, hs1⟩
  · go_wp2_with fail
    go_ret
    exact ⟨⟨-1, rfl, .inl rfl⟩, HB1.out⟩
  · have HS1 := Lib.hid hs1
    clear hs1
    go_wp2_with fail
    go_at_call 56
    refine (HT.out _ HB1.out _ hp1 (by omega)).mono ?_
    rintro e w2 ⟨⟨r2, rfl, hr2⟩, hb2⟩
    have HB2 : Hid (Below w.heap.size w w2) := HB1.out.trans (hb2.mono HB1.out.size)
    clear hb2
    rcases hr2 with rfl | ⟨hp2, hq2, hs2⟩
    · go_wp2_with fail
      go_ret
      exact ⟨⟨-1, rfl, .inl rfl⟩, HB2.out⟩
    · have HS2 := Lib.hid hs2
      clear hs2
      go_wp2_with fail
      go_ret
      exact ⟨⟨r2, rfl, .inr ⟨hp2, by omega, HS1.out, HS2.out⟩⟩, HB2.out⟩

theorem eqTimetable_x (v v' : Value) (t : TTD) (w : World) (hr : TTAt w v t) (hr' : TTAt w v' t) (hs : TTSmall t) :
    Calls Try.prog 23 #[v, v'] w fun e w' => e = .returned (.bool true) ∧ Below w.heap.size w w' := by
  obtain ⟨a, c, a', c', b, d, rfl, hn, ht⟩ := tt_open hr
  obtain ⟨a2, c2, a2', c2', b2, d2, rfl, hn2, ht2⟩ := tt_open hr'
  have HN := Lib.hid (fun W (hW : Below w.heap.size w W) => eqNetwork_x _ _ t.net W (hn.below rfl hW) (hn2.below rfl hW) hs.1)
  have HT := Lib.hid (fun W (hW : Below w.heap.size w W) => eqTripS_x _ _ t.trips W (ht.below rfl hW) (ht2.below rfl hW) hs.2)
  clear hn ht hr hn2 ht2 hr' hs
  go_enter Try.func23, Try.ntmps23
  go_wp2_with fail
  go_at_call 17
  refine (HN.out _ (((Below.refl _ _).alloc (Nat.le_refl _) _).alloc (by simp) _)).mono ?_
  rintro e w1 ⟨rfl, hb1⟩
  have HB1 : Hid (Below w.heap.size w w1) := (((Below.refl _ _).alloc (Nat.le_refl _) _).alloc (by simp) _).trans (hb1.mono (by simp; omega))
  have p2 : w1.cell? ⟨w.heap.size, 2, none⟩ = some (.slice b t.trips.length d) := bkeep hb1 (by go_simp)
  have q2 : w1.cell? ⟨w.heap.size + 1, 2, none⟩ = some (.slice b2 t.trips.length d2) := bkeep hb1 (by go_simp)
  clear hb1
  go_wp2_with fail
  go_at_call 64
  refine (HT.out _ HB1.out).mono ?_
  rintro e w2 ⟨rfl, hb2⟩
  have HB2 : Hid (Below w.heap.size w w2) := HB1.out.trans (hb2.mono HB1.out.size)
  clear hb2
  go_wp2_with fail
  go_ret
  exact ⟨rfl, HB2.out⟩

set_option maxHeartbeats 1000000 in
theorem toTimetable_x (v : Value) (t : TTD) (w : World) (hr : TTAt w v t) (hs : TTSmall t) :
    Calls Try.prog 21 #[v] w fun e w' => ∃ a c a' c' b d, e = .returned (.agg #[.slice a t.net.stops.length c, .slice a' t.net.lines.length c', .slice b t.trips.length d]) ∧
      TTIn w.heap.size w'.heap.size w' (.agg #[.slice a t.net.stops.length c, .slice a' t.net.lines.length c', .slice b t.trips.length d]) t ∧ Below w.heap.size w w' := by
  obtain ⟨a, c, a', c', b, d, rfl, hn, ht⟩ := tt_open hr
  have HN := Lib.hid (fun W (hW : Below w.heap.size w W) => toNetwork_x _ t.net W (hn.below rfl hW) hs.1)
  have HT := Lib.hid (fun W (hW : Below w.heap.size w W) => toTripS_x _ t.trips W (ht.below rfl hW) hs.2)
  clear hn ht hr hs
  go_enter Try.func21, Try.ntmps21
  go_wp2_with fail
  go_at_call 14
  refine (HN.out _ ?hb).mono ?_
  case hb => exact (((Below.refl _ _).alloc (Nat.le_refl _) _).alloc (by simp) _).alloc (by simp; omega) _
  rintro e w1 ⟨a1, c1, a1', c1', rfl, hi1, hb1⟩
  have HI1 := Lib.hid hi1
  have HB1 : Hid (Below w.heap.size w w1) := ((((Below.refl _ _).alloc (Nat.le_refl _) _).alloc (by simp) _).alloc (by simp; omega) _).trans (hb1.mono (by simp; omega))
  have p0 : w1.cell? ⟨w.heap.size + 1 + 1, 0, none⟩ = some (.slice none 0 0) := bkeep hb1 (by go_simp)
  have p1 : w1.cell? ⟨w.heap.size + 1 + 1, 1, none⟩ = some (.slice none 0 0) := bkeep hb1 (by go_simp)
  have p2 : w1.cell? ⟨w.heap.size + 1 + 1, 2, none⟩ = some (.slice none 0 0) := bkeep hb1 (by go_simp)
  have r0 : w1.cell? ⟨w.heap.size + 1, 0, none⟩ = some (.slice none 0 0) := bkeep hb1 (by go_simp)
  have r1 : w1.cell? ⟨w.heap.size + 1, 1, none⟩ = some (.slice none 0 0) := bkeep hb1 (by go_simp)
  have r2 : w1.cell? ⟨w.heap.size + 1, 2, none⟩ = some (.slice none 0 0) := bkeep hb1 (by go_simp)
  have x2 : w1.cell? ⟨w.heap.size, 2, none⟩ = some (.slice b t.trips.length d) := bkeep hb1 (by go_simp)
  have f0 : ∀ o, w1.frozen? ⟨w.heap.size + 1 + 1, o, none⟩ = false := fun o => fkeep hb1 (by simp) (by go_simp)
  have f3 : ∀ o, w1.frozen? ⟨w.heap.size + 1, o, none⟩ = false := fun o => fkeep hb1 (by simp) (by go_simp)
  have hz1 : w.heap.size + 3 ≤ w1.heap.size := by have := hb1.size; simp at this; omega
  simp only [World.size_alloc] at HI1
  clear hi1 hb1
  go_wp2_with fail
  go_at_call 60
  refine (HT.out _ ?hb2).mono ?_
  case hb2 => exact (Below.setCell (p := ⟨_, _, none⟩) (Below.setCell (p := ⟨_, _, none⟩) HB1.out (by simp; omega) _) (by simp; omega) _)
  rintro e w2 ⟨a2, c2, rfl, hi2, hb2⟩
  have hsz : ((w1.setCell ⟨w.heap.size + 1 + 1, 0, none⟩ (.slice a1 t.net.stops.length c1)).setCell ⟨w.heap.size + 1 + 1, 1, none⟩ (.slice a1' t.net.lines.length c1')).heap.size = w1.heap.size := by simp [World.setCell]
  have q0 : w2.cell? ⟨w.heap.size + 1 + 1, 0, none⟩ = some (.slice a1 t.net.stops.length c1) := bkeep hb2 (by go_simp)
  have q1 : w2.cell? ⟨w.heap.size + 1 + 1, 1, none⟩ = some (.slice a1' t.net.lines.length c1') := bkeep hb2 (by go_simp)
  have q2 : w2.cell? ⟨w.heap.size + 1 + 1, 2, none⟩ = some (.slice none 0 0) := bkeep hb2 (by go_simp)
  have s0 : w2.cell? ⟨w.heap.size + 1, 0, none⟩ = some (.slice none 0 0) := bkeep hb2 (by go_simp)
  have s1 : w2.cell? ⟨w.heap.size + 1, 1, none⟩ = some (.slice none 0 0) := bkeep hb2 (by go_simp)
  have s2 : w2.cell? ⟨w.heap.size + 1, 2, none⟩ = some (.slice none 0 0) := bkeep hb2 (by go_simp)
  have e0 : ∀ o, w2.frozen? ⟨w.heap.size + 1 + 1, o, none⟩ = false := fun o => fkeep hb2 (by simp; omega) (by go_simp)
  have e3 : ∀ o, w2.frozen? ⟨w.heap.size + 1, o, none⟩ = false := fun o => fkeep hb2 (by simp; omega) (by go_simp)
  have hz2 : w1.heap.size ≤ w2.heap.size := by have := hb2.size; rw [hsz] at this; exact this
  have HBB : Hid (Below w.heap.size w w2) := (Below.setCell (p := ⟨_, _, none⟩) (Below.setCell (p := ⟨w.heap.size + 1 + 1, 0, none⟩) HB1.out (by simp; omega) _) (by simp; omega) _).trans (hb2.mono (by rw [hsz]; omega))
  have HO : Hid (Out (w.heap.size + 1) (w.heap.size + 3) w1 ((w1.setCell ⟨w.heap.size + 1 + 1, 0, none⟩ (.slice a1 t.net.stops.length c1)).setCell ⟨w.heap.size + 1 + 1, 1, none⟩ (.slice a1' t.net.lines.length c1'))) :=
    ((Out.refl _ _ _).setCell (p := ⟨_, _, none⟩) (by simp) (by simp) _).setCell (p := ⟨_, _, none⟩) (by simp) (by simp) _
  have HI2 : Hid (NetIn (w.heap.size + 3) w1.heap.size w2 (.agg #[.slice a1 t.net.stops.length c1, .slice a1' t.net.lines.length c1']) t.net) := (HI1.out.out HO.out (.inr (by omega))).later hb2
  rw [hsz] at hi2
  have HT2 := Lib.hid hi2
  clear hb2 hi2 HI1 HO hsz
  go_wp2_with fail
  refine bodyPost_ret (v := .agg #[.slice a1 t.net.stops.length c1, .slice a1' t.net.lines.length c1', .slice a2 t.trips.length c2]) (by simp only [results, Try.results21]; go_simp) rfl ?_
  have ho : ∀ (W : World) (u0 u1 u2 u3 : Value), Out (w.heap.size + 1) (w.heap.size + 3) W ((((W.setCell ⟨w.heap.size + 1 + 1, 2, none⟩ u0).setCell ⟨w.heap.size + 1, 0, none⟩ u1).setCell ⟨w.heap.size + 1, 1, none⟩ u2).setCell ⟨w.heap.size + 1, 2, none⟩ u3) := fun W u0 u1 u2 u3 =>
    ((((Out.refl _ _ _).setCell (p := ⟨_, _, none⟩) (by simp) (by simp) _).setCell (p := ⟨_, _, none⟩) (by simp) (by simp) _).setCell (p := ⟨_, _, none⟩) (by simp) (by simp) _).setCell (p := ⟨_, _, none⟩) (by simp) (by simp) _
  refine ⟨_, _, _, _, _, _, rfl, ⟨_, _, _, w.heap.size + 3, w1.heap.size, rfl, HI2.out.out (ho _ _ _ _ _) (.inr (by omega)), (HT2.out.out (ho _ _ _ _ _) (.inr (by omega))).base (by omega) (by simp [World.setCell]), ⟨by omega, by omega⟩, by simp [World.setCell]; omega, fun g hg => .inr (HT2.out.lo g hg)⟩, ?_⟩
  exact HBB.out.trans ((ho _ _ _ _ _).below.mono (by omega))

def TTMk (k : Int) (w : World) (v : Value) (t : TTD) : Prop := ∃ s l tr, v = .agg #[s, l, tr] ∧ NetMk k w (.agg #[s, l]) t.net ∧ TripsMk (k + netTot t.net) w tr t.trips
theorem TTMk.later {k : Int} {w w' : World} {v : Value} {t : TTD} (h : TTMk k w v t) (hb : Below w.heap.size w w') : TTMk k w' v t := by
  obtain ⟨s, l, tr, hv, h1, h2⟩ := h
  exact ⟨s, l, tr, hv, h1.later hb, h2.later hb⟩

set_option maxRecDepth 100000 in
set_option maxHeartbeats 1000000 in
theorem markTimetable_x (v : Value) (t : TTD) (k : Int) (l u : Nat) (w : World) (hr : TTIn l u w v t) (hl : l ≤ w.heap.size) (hu : u ≤ w.heap.size) (hs : TTSmall t) (hk0 : 0 < k) (hk : k ≤ 1048576) :
    Calls Try.prog 36 #[v, .int .i64 k] w fun e w' => e = .returned (.int .i64 (k + netTot t.net + 3 * (t.trips.length : Int))) ∧ TTMk k w' v t ∧ Out l u w w' := by
  obtain ⟨s, l', tr, m, m', rfl, hn, ht, hm, hm', hap⟩ := hr
  obtain ⟨a, c, a', c', he⟩ := Network_open hn.at
  simp at he
  obtain ⟨rfl, rfl⟩ := he
  obtain ⟨b, d, rfl⟩ := TripS_open ht.at
  have htot := netTot_le hs.1
  have HNm := Lib.hid (fun W (hW : Below w.heap.size w W) => markNetwork_in _ t.net k m m' W (hn.later hW) (by have := hW.size; omega) (by have := hW.size; omega) hs.1 hk0 hk)
  have HT := Lib.hid ht
  have HAp := Lib.hid hap
  have HS := Lib.hid hs
  have HX : Hid ((l ≤ m ∧ m ≤ m') ∧ m' ≤ u ∧ l ≤ w.heap.size ∧ u ≤ w.heap.size) := ⟨hm, hm', hl, hu⟩
  clear hn ht hap hs hm hm' hl hu
  go_enter Try.func36, Try.ntmps36
  go_wp2_with fail
  go_at_call 80
  refine (HNm.out _ ((Below.refl _ _).alloc (Nat.le_refl _) _)).mono ?_
  rintro e w1 ⟨rfl, hmk, ho1⟩
  have HM1 := Lib.hid hmk
  have HO1 := Lib.hid ho1
  have hT1 := own_out (own_later HT.out.1 ((Below.refl _ _).alloc (Nat.le_refl _) _)) ho1 HAp.out
  have HT1 := Lib.hid hT1
  have p2 : w1.cell? ⟨w.heap.size, 2, none⟩ = some (.slice b t.trips.length d) := ho1.cell (p := ⟨w.heap.size, 2, none⟩) (.inr (by have := HX.out.2.1; have := HX.out.2.2.2; show m' ≤ w.heap.size; omega)) (by go_simp)
  have hts := HS.out.2
  unfold TripsSmall at hts
  clear hmk ho1 hT1
  go_wp2_with fail
  go_at_call 81
  refine (markTripS_own _ t.trips (k + netTot t.net) l _ HT1.out hts (by omega) (by omega)).mono ?_
  rintro e w2 ⟨rfl, hown2, hg2⟩
  have HM2 : Hid (NetMk k w2 (.agg #[.slice a t.net.stops.length c, .slice a' t.net.lines.length c']) t.net) := HM1.out w2 hg2.size (fun q h1 h2 h3 => hg2.block q h3 (fun e => by have := HAp.out q e.symm; omega))
  have HO2 := Lib.hid hown2
  have HOut : Hid (Out l u w w2) := by
    have hx := HX.out
    have o0 : Out l u w (w.alloc (.cells #[.slice a t.net.stops.length c, .slice a' t.net.lines.length c', .slice b t.trips.length d] 49)) := Out.of_below ((Below.refl _ _).alloc (Nat.le_refl _) _) hx.2.2.1
    have o1 := HO1.out.wide hx.1.1 hx.2.1
    have o2 := Out.of_grown (lo := l) (hi := u) hg2 (by have := o1.below.size; simp at this; omega) (fun g hg => ⟨HT.out.lo g hg, HT.out.2 g hg⟩)
    exact (o0.trans o1).trans o2
  clear hg2 hown2
  go_wp2_with fail
  go_ret
  exact ⟨rfl, ⟨_, _, _, rfl, HM2.out, tripsAt_own (by rw [upTrips_len]; exact HO2.out)⟩, HOut.out⟩

end Go.Proofs.Ytehpeifaknbcnaa
