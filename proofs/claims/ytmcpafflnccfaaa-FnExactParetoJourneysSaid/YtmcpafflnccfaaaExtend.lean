/-
  CONTRACT of the model's search: spec.l8Search.extend.
-/
import Derived.Test.YtmcpafflnccfaaaMc
import Derived.Test.YtmcpafflnccfaaaEarliestJI
namespace Go.Proofs.Ytmcpafflnccfaaa
open Go.RowKit Go.Maps Jrn
set_option linter.unusedVariables false
set_option linter.unusedSimpArgs false

/-- the contract of extend with n legs more -/
def ExtOk (t : TTD) (ch too A : Int) (a : Option Addr) (c : Nat) (a' : Option Addr) (c' : Nat) (b : Option Addr) (d : Nat) (xb : Nat) (n : Nat) : Prop :=
  ∀ (w : World) (lg lo_ lc : Nat) (used : List LegD) (s at_ : Int), TTAt w (.agg #[.slice a t.net.stops.length c, .slice a' t.net.lines.length c', .slice b t.trips.length d]) t → w.cell? ⟨xb, 0, none⟩ = some (.slice a t.net.stops.length c) ∧ w.cell? ⟨xb, 1, none⟩ = some (.slice a' t.net.lines.length c') ∧ w.cell? ⟨xb, 2, none⟩ = some (.slice b t.trips.length d) ∧ w.cell? ⟨xb, 3, none⟩ = some (.int .i64 ch) ∧ w.cell? ⟨xb, 4, none⟩ = some (.int .i64 too) ∧ w.cell? ⟨xb, 5, none⟩ = some (.int .i64 A) → LegsAt w (.slice (some ⟨lg, lo_, none⟩) used.length lc) used → used.length + n ≤ 4 →
    Calls Try.prog 123 #[.pointer (some ⟨xb, 0, none⟩), .slice (some ⟨lg, lo_, none⟩) used.length lc, .int .i64 s, .int .i64 at_, .int .i64 (n : Int)] w fun e w' =>
      (∃ v', e = .returned v' ∧ w'.ownsRow w.heap.size 62 5 v' (extR used (dfsF (candsF t.net.stops.length (rides t) A) ch too A n used s at_)).length (legC (extR used (dfsF (candsF t.net.stops.length (rides t) A) ch too A n used s at_)))) ∧ Below w.heap.size w w'

set_option maxRecDepth 100000 in
set_option maxHeartbeats 16000000 in
theorem ext_step {t : TTD} {ch too A : Int} {a : Option Addr} {c : Nat} {a' : Option Addr} {c' : Nat} {b : Option Addr} {d : Nat} {xb : Nat} (hg : TTGood t) (h0 : 0 ≤ ch) (h1 : ch ≤ 30) (k : Nat) (ih : k ≠ 0 → ExtOk t ch too A a c a' c' b d xb k) : ExtOk t ch too A a c a' c' b d xb (k + 1) := by
  rintro w lg lo_ lc used s at_ hr ⟨p0, p1, p2, p3, p4, p5⟩ hl hu
  rw [dfsF_succ]
  have HTT := Lib.hid hr
  have HG := Lib.hid hg
  have HL := Lib.hid hl
  have HIH := Lib.hid ih
  have h8 := hg.1.1.2.1
  have h12 := hg.2.1
  obtain ⟨_, _, _, _, _, _, he, -, htr⟩ := tt_open hr
  simp at he
  obtain ⟨⟨rfl, rfl⟩, ⟨rfl, rfl⟩, rfl, rfl⟩ := he
  have HTr := Lib.hid htr
  clear hr hg hl ih htr
  obtain ⟨res, Hres⟩ : ∃ res, Hid (extR used ((candsF t.net.stops.length (rides t) A used s at_).findSome? (tryF (candsF t.net.stops.length (rides t) A) ch too A k used)) = res) := ⟨_, rfl⟩
  rw [Hres.out]
  push_cast
  have hk4 : k ≤ 4 := by omega
  go_enter Try.func123, Try.ntmps123
  go_wp2_with fail
  go_loopw [11] (fun q wr => ∃ i : Nat, i ≤ t.trips.length ∧ q = .int .i64 i ∧ Hid (∀ x ∈ candsF t.net.stops.length ((rides t).take i) A used s at_, tryF (candsF t.net.stops.length (rides t) A) ch too A k used x = none) ∧ wr.cell? ⟨xb, 0, none⟩ = some (.slice a t.net.stops.length c) ∧ wr.cell? ⟨xb, 1, none⟩ = some (.slice a' t.net.lines.length c') ∧ wr.cell? ⟨xb, 2, none⟩ = some (.slice b t.trips.length d) ∧ wr.cell? ⟨xb, 3, none⟩ = some (.int .i64 ch) ∧ wr.cell? ⟨xb, 4, none⟩ = some (.int .i64 too) ∧ wr.cell? ⟨xb, 5, none⟩ = some (.int .i64 A) ∧ Hid (Below w.heap.size w wr)) (fun q _ => t.trips.length - (RowKit.intOf q).toNat)
  case atStart => exact ⟨0, Nat.zero_le _, rfl, fun x hx => by simp [candsF] at hx, p0, p1, p2, p3, p4, p5, Below.refl _ _⟩
  case round =>
    clear p0 p1 p2 p3 p4 p5
    obtain ⟨wo, rfl⟩ : ∃ wo : World, wo = wr := ⟨_, rfl⟩
    obtain ⟨i, hi, rfl, HNo, p0, p1, p2, p3, p4, p5, HB⟩ := hrel
    by_cases hlt : i < t.trips.length
    · have hi1 : (i : Int) < (t.trips.length : Int) := by omega
      have hir : i < (rides t).length := by rw [rides_len]; exact hlt
      have HTk : Hid (candsF t.net.stops.length ((rides t).take (i + 1)) A used s at_ = candsF t.net.stops.length ((rides t).take i) A used s at_ ++ candR t.net.stops.length A (rideOf t t.trips[i]) used s at_) := by
        show _ = _
        rw [cands_take i hir, rides_at]
      obtain ⟨kl, hkl, hfa⟩ := ride_facts HG.out i hlt
      obtain ⟨s0, s1, r0, r1, ⟨hrs, hrr⟩, hL⟩ := l5Line_any _ t i w HTT.out hlt kl hfa.line hkl
      have HLn := Lib.hid hL
      have hst : t.net.lines[kl].stops = (rideOf t t.trips[i]).stops := by rw [hfa.ride]
      have HPl := Lib.hid (fun (q : Int) W (hW : Below w.heap.size w W) => l2Place_any _ t.net.lines[kl] q W (show LineV W (.agg #[.string t.net.lines[kl].name, .slice s0 t.net.lines[kl].stops.length s1, .slice r0 t.net.lines[kl].runs.length r1]) t.net.lines[kl] from ⟨_, _, rfl, hrs.below rfl hW, hrr.below rfl hW⟩))
      have HAt := Lib.hid (fun p hp => l5AtR _ t i w HTT.out HG.out hlt p hp)
      obtain ⟨z0, z1, hzr, hS⟩ := l5StopsR _ t i w HTT.out HG.out hlt
      have HSt := Lib.hid hS
      have HLg := Lib.hid (fun p q hp hq W (hW : Below w.heap.size w W) => l8Leg_any _ t i p q W (HTT.out.below rfl hW) HG.out hlt hp hq)
      have HPq : Hid (∀ q W, Below w.heap.size w W → Calls Try.prog 135 #[.agg #[.string t.net.lines[kl].name, .slice s0 t.net.lines[kl].stops.length s1, .slice r0 t.net.lines[kl].runs.length r1], .int .i64 q] W fun e w' => e = .returned (.int .i64 (fstIdx q (rideOf t t.trips[i]).stops)) ∧ Below W.heap.size W w') := by
        intro q W hW
        rw [← hst]
        exact HPl.out q W hW
      have HPs := Lib.hid (HPq.out s)
      obtain ⟨tb, to_, rfl, htb, t0, -, -⟩ := trip_at HTr.out i hlt
      have HId : Hid ((rideOf t t.trips[i]).id = t.trips[i].id) := rfl
      clear hrs hrr hL hst HPl hS hfa
      generalize t.net.lines[kl] = ln at *
      obtain ⟨id, Hid1⟩ : ∃ id, Hid ((rideOf t (t.trips[i]'hlt)).id = id) := ⟨(rideOf t (t.trips[i]'hlt)).id, rfl⟩
      rw [← HId.out, Hid1.out] at t0
      go_wp2_with fail
      go_loopw [12, 13] (fun u q wr => ∃ j : Nat, j ≤ used.length ∧ q = .int .i64 j ∧ u = .bool (usedT used id j) ∧ wr.cell? ⟨xb, 0, none⟩ = some (.slice a t.net.stops.length c) ∧ wr.cell? ⟨xb, 1, none⟩ = some (.slice a' t.net.lines.length c') ∧ wr.cell? ⟨xb, 2, none⟩ = some (.slice (some ⟨tb, to_, none⟩) t.trips.length d) ∧ wr.cell? ⟨xb, 3, none⟩ = some (.int .i64 ch) ∧ wr.cell? ⟨xb, 4, none⟩ = some (.int .i64 too) ∧ wr.cell? ⟨xb, 5, none⟩ = some (.int .i64 A) ∧ Hid (Below w.heap.size w wr)) (fun _ q _ => used.length - (RowKit.intOf q).toNat)
      case atStart => exact ⟨0, Nat.zero_le _, rfl, rfl, p0, p1, p2, p3, p4, p5, HB⟩
      case round =>
        clear p0 p1 p2 p3 p4 p5 HB
        obtain ⟨wu, rfl⟩ : ∃ wu : World, wu = wr := ⟨_, rfl⟩
        obtain ⟨j, hj, rfl, rfl, p0, p1, p2, p3, p4, p5, HB⟩ := hrel
        have hzu := HB.out.size
        by_cases hju : j < used.length
        · have hj1 : (j : Int) < (used.length : Int) := by omega
          obtain ⟨g', go', hg', -, y0, -, -, -, -⟩ := leg_at (HL.out.below rfl HB.out) j hju
          simp at hg'
          obtain ⟨rfl, rfl⟩ := hg'
          have HUs := Lib.hid (usedT_succ used id j hju)
          have t0w := bkeep HB.out t0
          generalize used[j].trip = ut at *
          cases hub : usedT used id j with
          | true =>
            rw [hub, Bool.true_or] at HUs
            clear y0
            go_wp2_with fail
            go_quiet (fail)
            go_wp2_with fail
            go_roundw
            case rel => exact ⟨j + 1, by omega, by go_num, by rw [HUs.out], bkeep (Dr.below ⟨_, rfl⟩) p0, bkeep (Dr.below ⟨_, rfl⟩) p1, bkeep (Dr.below ⟨_, rfl⟩) p2, bkeep (Dr.below ⟨_, rfl⟩) p3, bkeep (Dr.below ⟨_, rfl⟩) p4, bkeep (Dr.below ⟨_, rfl⟩) p5, HB.out.trans ((Dr.below ⟨_, rfl⟩).mono hzu)⟩
            case measure => simp [RowKit.intOf]; omega
          | false =>
            rw [hub, Bool.false_or] at HUs
            go_wp2_with fail
            go_quiet (fail)
            go_wp2_with fail
            go_roundw
            case rel => exact ⟨j + 1, by omega, by go_num, by rw [HUs.out], bkeep (Dr.below ⟨_, rfl⟩) p0, bkeep (Dr.below ⟨_, rfl⟩) p1, bkeep (Dr.below ⟨_, rfl⟩) p2, bkeep (Dr.below ⟨_, rfl⟩) p3, bkeep (Dr.below ⟨_, rfl⟩) p4, bkeep (Dr.below ⟨_, rfl⟩) p5, HB.out.trans ((Dr.below ⟨_, rfl⟩).mono hzu)⟩
            case measure => simp [RowKit.intOf]; omega
        · obtain rfl : j = used.length := by omega
          have hj1 : ¬ (used.length : Int) < (used.length : Int) := by omega
          rw [usedT_all]
          obtain ⟨ub, HUb⟩ : ∃ ub, Hid (used.any (fun l => l.trip == id) = ub) := ⟨_, rfl⟩
          rw [HUb.out]
          go_wp2_with fail
          go_at_call 136
          refine (HLn.out _ HB.out).mono ?_
          rintro e w2 ⟨rfl, hb⟩
          have HB2 : Hid (Below w.heap.size w w2) := HB.out.trans (hb.mono HB.out.size)
          have q0 := bkeep hb p0
          have q1 := bkeep hb p1
          have q2 := bkeep hb p2
          have q3 := bkeep hb p3
          have q4 := bkeep hb p4
          have q5 := bkeep hb p5
          clear hb p0 p1 p2 p3 p4 p5
          go_wp2_with fail
          go_at_call 135
          refine (HPs.out _ HB2.out).mono ?_
          rintro e w3 ⟨rfl, hb⟩
          have HB3 : Hid (Below w.heap.size w w3) := HB2.out.trans (hb.mono HB2.out.size)
          have p0 := bkeep hb q0
          have p1 := bkeep hb q1
          have p2 := bkeep hb q2
          have p3 := bkeep hb q3
          have p4 := bkeep hb q4
          have p5 := bkeep hb q5
          clear hb q0 q1 q2 q3 q4 q5
          by_cases hus : ub = true
          · subst hus
            have HNn : Hid (∀ x ∈ candsF t.net.stops.length ((rides t).take (i + 1)) A used s at_, tryF (candsF t.net.stops.length (rides t) A) ch too A k used x = none) := by
              rw [HTk.out, candR_no (rideOk_used (by rw [Hid1.out]; exact HUb.out)), List.append_nil]; exact HNo.out
            go_wp2_with fail
            exact ⟨⟨i + 1, by omega, by go_num, HNn, p0, p1, p2, p3, p4, p5, HB3⟩, by simp [RowKit.intOf]; omega⟩
          · have hus : ub = false := by simpa using hus
            subst hus
            by_cases hms : s ∈ (rideOf t t.trips[i]).stops
            · obtain ⟨ia, hia, hial, -, -⟩ := fstIdx_get s _ hms
              have hixa : (rideOf t t.trips[i]).stops.idxOf s = ia := by
                have := hia
                unfold fstIdx at this
                rw [if_pos hms] at this
                omega
              rw [hia]
              have HAta := Lib.hid (HAt.out ia hial)
              have ha0 : ¬ (ia : Int) < 0 := by omega
              obtain ⟨ta, Hta⟩ : ∃ ta, Hid ((rideOf t (t.trips[i]'hlt)).times.getD ia 0 = ta) := ⟨(rideOf t (t.trips[i]'hlt)).times.getD ia 0, rfl⟩
              rw [Hta.out] at HAta
              go_wp2_with fail
              go_at_call 122
              refine (HAta.out _ HB3.out).mono ?_
              rintro e w4 ⟨rfl, hb⟩
              have HB4 : Hid (Below w.heap.size w w4) := HB3.out.trans (hb.mono HB3.out.size)
              have q0 := bkeep hb p0
              have q1 := bkeep hb p1
              have q2 := bkeep hb p2
              have q3 := bkeep hb p3
              have q4 := bkeep hb p4
              have q5 := bkeep hb p5
              clear hb p0 p1 p2 p3 p4 p5
              by_cases hlate : ta < at_
              · have HNn : Hid (∀ x ∈ candsF t.net.stops.length ((rides t).take (i + 1)) A used s at_, tryF (candsF t.net.stops.length (rides t) A) ch too A k used x = none) := by
                  rw [HTk.out, candR_no (rideOk_late hixa (by rw [Hta.out]; exact hlate)), List.append_nil]; exact HNo.out
                go_wp2_with fail
                exact ⟨⟨i + 1, by omega, by go_num, HNn, q0, q1, q2, q3, q4, q5, HB4⟩, by simp [RowKit.intOf]; omega⟩
              · have HRok : Hid (rideOkB (rideOf t t.trips[i]) used s at_ = true) := rideOk_yes (by rw [Hid1.out]; exact HUb.out) hms hixa (by rw [Hta.out]; exact hlate)
                go_wp2_with fail
                go_at_call 121
                refine (HSt.out _ HB4.out).mono ?_
                rintro e w5 ⟨rfl, hb⟩
                have HB5 : Hid (Below w.heap.size w w5) := HB4.out.trans (hb.mono HB4.out.size)
                have p0 := bkeep hb q0
                have p1 := bkeep hb q1
                have p2 := bkeep hb q2
                have p3 := bkeep hb q3
                have p4 := bkeep hb q4
                have p5 := bkeep hb q5
                clear hb q0 q1 q2 q3 q4 q5
                go_wp2_with fail
                go_loopw [16] (fun q wr => ∃ m : Nat, m ≤ t.net.stops.length ∧ q = .int .i64 m ∧ Hid (∀ x ∈ candT A (rideOf t t.trips[i]) s m, tryF (candsF t.net.stops.length (rides t) A) ch too A k used x = none) ∧ wr.cell? ⟨xb, 0, none⟩ = some (.slice a t.net.stops.length c) ∧ wr.cell? ⟨xb, 1, none⟩ = some (.slice a' t.net.lines.length c') ∧ wr.cell? ⟨xb, 2, none⟩ = some (.slice (some ⟨tb, to_, none⟩) t.trips.length d) ∧ wr.cell? ⟨xb, 3, none⟩ = some (.int .i64 ch) ∧ wr.cell? ⟨xb, 4, none⟩ = some (.int .i64 too) ∧ wr.cell? ⟨xb, 5, none⟩ = some (.int .i64 A) ∧ Hid (Below w.heap.size w wr)) (fun q _ => t.net.stops.length - (RowKit.intOf q).toNat)
                case atStart => exact ⟨0, Nat.zero_le _, rfl, fun x hx => by simp [candT] at hx, p0, p1, p2, p3, p4, p5, HB5⟩
                case round =>
                  clear p0 p1 p2 p3 p4 p5 HB HB2 HB3 HB4 HB5
                  obtain ⟨wi, rfl⟩ : ∃ wi : World, wi = wr := ⟨_, rfl⟩
                  obtain ⟨m, hm, rfl, HMo, p0, p1, p2, p3, p4, p5, HB⟩ := hrel
                  by_cases hmN : m < t.net.stops.length
                  · have hm1 : (m : Int) < (t.net.stops.length : Int) := by omega
                    have HPm := Lib.hid (HPq.out (m : Int))
                    go_wp2_with fail
                    go_at_call 136
                    refine (HLn.out _ HB.out).mono ?_
                    rintro e w6 ⟨rfl, hb⟩
                    have HB6 : Hid (Below w.heap.size w w6) := HB.out.trans (hb.mono HB.out.size)
                    have q0 := bkeep hb p0
                    have q1 := bkeep hb p1
                    have q2 := bkeep hb p2
                    have q3 := bkeep hb p3
                    have q4 := bkeep hb p4
                    have q5 := bkeep hb p5
                    clear hb p0 p1 p2 p3 p4 p5
                    go_wp2_with fail
                    go_at_call 135
                    refine (HPm.out _ HB6.out).mono ?_
                    rintro e w7 ⟨rfl, hb⟩
                    have HB7 : Hid (Below w.heap.size w w7) := HB6.out.trans (hb.mono HB6.out.size)
                    have p0 := bkeep hb q0
                    have p1 := bkeep hb q1
                    have p2 := bkeep hb q2
                    have p3 := bkeep hb q3
                    have p4 := bkeep hb q4
                    have p5 := bkeep hb q5
                    clear hb q0 q1 q2 q3 q4 q5
                    by_cases hmq : (m : Int) ∈ (rideOf t t.trips[i]).stops
                    · obtain ⟨ib, hib, hibl, hibm, -⟩ := fstIdx_get (m : Int) _ hmq
                      have HIbm := Lib.hid hibm
                      clear hibm
                      have hixb : (rideOf t t.trips[i]).stops.idxOf (m : Int) = ib := by
                        have := hib
                        unfold fstIdx at this
                        rw [if_pos hmq] at this
                        omega
                      rw [hib]
                      by_cases hab : ia < ib
                      · have hd1 : decide ((ib : Int) ≤ (ia : Int)) = false := decide_eq_false (by omega)
                        have hd1n : decide (ib ≤ ia) = false := decide_eq_false (by omega)
                        have hd2n : decide ((rideOf t t.trips[i]).stops.length ≤ ib) = false := decide_eq_false (by omega)
                        have hd2 : decide (((rideOf t t.trips[i]).stops.length : Int) ≤ (ib : Int)) = false := decide_eq_false (by omega)
                        have HAtb := Lib.hid (HAt.out ib hibl)
                        obtain ⟨tb2, Htb2⟩ : ∃ tb2, Hid ((rideOf t (t.trips[i]'hlt)).times.getD ib 0 = tb2) := ⟨(rideOf t (t.trips[i]'hlt)).times.getD ib 0, rfl⟩
                        rw [Htb2.out] at HAtb
                        go_wp2_with fail
                        refine wp_region_held_drew (S := (fun w' => w'.cell? ⟨xb, 0, none⟩ = some (.slice a t.net.stops.length c) ∧ w'.cell? ⟨xb, 1, none⟩ = some (.slice a' t.net.lines.length c') ∧ w'.cell? ⟨xb, 2, none⟩ = some (.slice (some ⟨tb, to_, none⟩) t.trips.length d) ∧ w'.cell? ⟨xb, 3, none⟩ = some (.int .i64 ch) ∧ w'.cell? ⟨xb, 4, none⟩ = some (.int .i64 too) ∧ w'.cell? ⟨xb, 5, none⟩ = some (.int .i64 A))) (by kernel_rfl) ?_ (fun hHeld => ?_)
                        · exact ⟨p0, p1, p2, p3, p4, p5⟩
                        refine wpAnyH_take (i := 0) (v := ?_) (by simp only [List.getElem?_toArray, List.getElem?_cons_zero]; rfl) (by kernel_rfl) (by kernel_rfl) (by kernel_rfl) (by exact fun _ _ _ h => h) (Or.inl ⟨by rfl, ?_⟩) (by assumption) ?_
                        rotate_left
                        · intro w' hSw; obtain ⟨e0, e1, e2, e3, e4, e5⟩ := hSw
                          go_simp; try with_reducible rfl
                        try simp only [Act.put, List.setIfInBounds_toArray, List.set_cons_zero, List.set_cons_succ]
                        refine wpAnyH_take (i := 1) (v := ?_) (by simp only [List.getElem?_toArray, List.getElem?_cons_succ, List.getElem?_cons_zero]; rfl) (by kernel_rfl) (by kernel_rfl) (by kernel_rfl) (by exact fun _ _ _ h => h) (Or.inl ⟨by rfl, ?_⟩) (by assumption) ?_
                        rotate_left
                        · intro w' hSw; obtain ⟨e0, e1, e2, e3, e4, e5⟩ := hSw
                          go_simp; try with_reducible rfl
                        try simp only [Act.put, List.setIfInBounds_toArray, List.set_cons_zero, List.set_cons_succ]
                        refine wpAnyH_take (i := 2) (v := ?_) (by simp only [List.getElem?_toArray, List.getElem?_cons_succ, List.getElem?_cons_zero]; rfl) (by kernel_rfl) (by kernel_rfl) (by kernel_rfl) (by exact fun _ _ _ h => h) (Or.inl ⟨by rfl, ?_⟩) (by assumption) ?_
                        rotate_left
                        · intro w' hSw; obtain ⟨e0, e1, e2, e3, e4, e5⟩ := hSw
                          go_simp; try with_reducible rfl
                        try simp only [Act.put, List.setIfInBounds_toArray, List.set_cons_zero, List.set_cons_succ]
                        refine wpAnyH_take (i := 3) (v := ?_) (by simp only [List.getElem?_toArray, List.getElem?_cons_succ, List.getElem?_cons_zero]; rfl) (by kernel_rfl) (by kernel_rfl) (by kernel_rfl) (by exact fun _ _ _ h => h) (Or.inl ⟨by rfl, ?_⟩) (by assumption) ?_
                        rotate_left
                        · intro w' hSw; obtain ⟨e0, e1, e2, e3, e4, e5⟩ := hSw
                          go_simp; try with_reducible rfl
                        try simp only [Act.put, List.setIfInBounds_toArray, List.set_cons_zero, List.set_cons_succ]
                        refine wpAnyH_take (i := 4) (v := ?_) (by simp only [List.getElem?_toArray, List.getElem?_cons_succ, List.getElem?_cons_zero]; rfl) (by kernel_rfl) (by kernel_rfl) (by kernel_rfl) (by exact fun _ _ _ h => h) (Or.inl ⟨by rfl, ?_⟩) (by assumption) ?_
                        rotate_left
                        · intro w' hSw; obtain ⟨e0, e1, e2, e3, e4, e5⟩ := hSw
                          go_simp; try with_reducible rfl
                        try simp only [Act.put, List.setIfInBounds_toArray, List.set_cons_zero, List.set_cons_succ]
                        refine wpAnyH_take (i := 5) (v := ?_) (by simp only [List.getElem?_toArray, List.getElem?_cons_succ, List.getElem?_cons_zero]; rfl) (by kernel_rfl) (by kernel_rfl) (by kernel_rfl) (by exact fun _ _ _ h => h) (Or.inl ⟨by rfl, ?_⟩) (by assumption) ?_
                        rotate_left
                        · intro w' hSw; obtain ⟨e0, e1, e2, e3, e4, e5⟩ := hSw
                          go_simp; try with_reducible rfl
                        try simp only [Act.put, List.setIfInBounds_toArray, List.set_cons_zero, List.set_cons_succ]
                        refine wpAnyH_take (i := 6) (v := ?_) (by simp only [List.getElem?_toArray, List.getElem?_cons_succ, List.getElem?_cons_zero]; rfl) (by kernel_rfl) (by kernel_rfl) (by kernel_rfl) (by exact fun _ _ _ h => h) (Or.inl ⟨by rfl, ?_⟩) (by assumption) ?_
                        rotate_left
                        · intro w' hSw; obtain ⟨e0, e1, e2, e3, e4, e5⟩ := hSw
                          go_simp; try with_reducible rfl
                        try simp only [Act.put, List.setIfInBounds_toArray, List.set_cons_zero, List.set_cons_succ]
                        refine wpAnyH_take (i := 7) (v := ?_) (by simp only [List.getElem?_toArray, List.getElem?_cons_succ, List.getElem?_cons_zero]; rfl) (by kernel_rfl) (by kernel_rfl) (by kernel_rfl) (by exact fun _ _ _ h => h) (Or.inl ⟨by rfl, ?_⟩) (by assumption) ?_
                        rotate_left
                        · intro w' hSw; obtain ⟨e0, e1, e2, e3, e4, e5⟩ := hSw
                          go_simp; try with_reducible rfl
                        try simp only [Act.put, List.setIfInBounds_toArray, List.set_cons_zero, List.set_cons_succ]
                        refine wpAnyH_take (i := 8) (v := ?_) (by simp only [List.getElem?_toArray, List.getElem?_cons_succ, List.getElem?_cons_zero]; rfl) (by kernel_rfl) (by kernel_rfl) (by kernel_rfl) (by exact fun _ _ _ h => h) (Or.inl ⟨by rfl, ?_⟩) (by assumption) ?_
                        rotate_left
                        · intro w' hSw; obtain ⟨e0, e1, e2, e3, e4, e5⟩ := hSw
                          go_simp; try with_reducible rfl
                        try simp only [Act.put, List.setIfInBounds_toArray, List.set_cons_zero, List.set_cons_succ]
                        refine wpAnyH_take (i := 9) (v := ?_) (by simp only [List.getElem?_toArray, List.getElem?_cons_succ, List.getElem?_cons_zero]; rfl) (by kernel_rfl) (by kernel_rfl) (by kernel_rfl) (by exact fun _ _ _ h => h) (Or.inl ⟨by rfl, ?_⟩) (by assumption) ?_
                        rotate_left
                        · intro w' hSw; obtain ⟨e0, e1, e2, e3, e4, e5⟩ := hSw
                          go_simp; try with_reducible rfl
                        try simp only [Act.put, List.setIfInBounds_toArray, List.set_cons_zero, List.set_cons_succ]
                        refine wpAnyH_take (i := 10) (v := ?_) (by simp only [List.getElem?_toArray, List.getElem?_cons_succ, List.getElem?_cons_zero]; rfl) (by kernel_rfl) (by kernel_rfl) (by kernel_rfl) (by exact fun _ _ _ h => h) (Or.inl ⟨by rfl, ?_⟩) (by assumption) ?_
                        rotate_left
                        · intro w' hSw; obtain ⟨e0, e1, e2, e3, e4, e5⟩ := hSw
                          go_simp; try with_reducible rfl
                        try simp only [Act.put, List.setIfInBounds_toArray, List.set_cons_zero, List.set_cons_succ]
                        refine wpAnyH_take (i := 11) (v := ?_) (by simp only [List.getElem?_toArray, List.getElem?_cons_succ, List.getElem?_cons_zero]; rfl) (by kernel_rfl) (by kernel_rfl) (by kernel_rfl) (by exact fun _ _ _ h => h) (Or.inl ⟨by rfl, ?_⟩) (by assumption) ?_
                        rotate_left
                        · intro w' hSw; obtain ⟨e0, e1, e2, e3, e4, e5⟩ := hSw
                          go_simp; try with_reducible rfl
                        try simp only [Act.put, List.setIfInBounds_toArray, List.set_cons_zero, List.set_cons_succ]
                        refine wpAnyH_take (i := 12) (v := ?_) (by simp only [List.getElem?_toArray, List.getElem?_cons_succ, List.getElem?_cons_zero]; rfl) (by kernel_rfl) (by kernel_rfl) (by kernel_rfl) (by exact fun _ _ _ h => h) (Or.inl ⟨by rfl, ?_⟩) (by assumption) ?_
                        rotate_left
                        · intro w' hSw; obtain ⟨e0, e1, e2, e3, e4, e5⟩ := hSw
                          go_simp; try with_reducible rfl
                        try simp only [Act.put, List.setIfInBounds_toArray, List.set_cons_zero, List.set_cons_succ]
                        refine wpAnyH_take (i := 13) (v := ?_) (by simp only [List.getElem?_toArray, List.getElem?_cons_succ, List.getElem?_cons_zero]; rfl) (by kernel_rfl) (by kernel_rfl) (by kernel_rfl) (by exact fun _ _ _ h => h) (Or.inl ⟨by rfl, ?_⟩) (by assumption) ?_
                        rotate_left
                        · intro w' hSw; obtain ⟨e0, e1, e2, e3, e4, e5⟩ := hSw
                          go_simp; try with_reducible rfl
                        try simp only [Act.put, List.setIfInBounds_toArray, List.set_cons_zero, List.set_cons_succ]
                        refine wpAnyH_take (i := 14) (v := ?_) (by simp only [List.getElem?_toArray, List.getElem?_cons_succ, List.getElem?_cons_zero]; rfl) (by kernel_rfl) (by kernel_rfl) (by kernel_rfl) (by exact fun _ _ _ h => h) (Or.inl ⟨by rfl, ?_⟩) (by assumption) ?_
                        rotate_left
                        · intro w' hSw; obtain ⟨e0, e1, e2, e3, e4, e5⟩ := hSw
                          go_simp; try with_reducible rfl
                        try simp only [Act.put, List.setIfInBounds_toArray, List.set_cons_zero, List.set_cons_succ]
                        refine wpAnyH_take (i := 15) (v := ?_) (by simp only [List.getElem?_toArray, List.getElem?_cons_succ, List.getElem?_cons_zero]; rfl) (by kernel_rfl) (by kernel_rfl) (by kernel_rfl) (by exact fun _ _ _ h => h) (Or.inl ⟨by rfl, ?_⟩) (by assumption) ?_
                        rotate_left
                        · intro w' hSw; obtain ⟨e0, e1, e2, e3, e4, e5⟩ := hSw
                          go_simp; try with_reducible rfl
                        try simp only [Act.put, List.setIfInBounds_toArray, List.set_cons_zero, List.set_cons_succ]
                        refine wpAnyH_take (i := 17) (v := ?_) (by simp only [List.getElem?_toArray, List.getElem?_cons_succ, List.getElem?_cons_zero]; rfl) (by kernel_rfl) (by kernel_rfl) (by kernel_rfl) (by exact fun _ _ _ h => h) (Or.inl ⟨by rfl, ?_⟩) (by assumption) ?_
                        rotate_left
                        · intro w' hSw; obtain ⟨e0, e1, e2, e3, e4, e5⟩ := hSw
                          go_simp; try with_reducible rfl
                        try simp only [Act.put, List.setIfInBounds_toArray, List.set_cons_zero, List.set_cons_succ]
                        refine wpAnyH_take (i := 18) (v := ?_) (by simp only [List.getElem?_toArray, List.getElem?_cons_succ, List.getElem?_cons_zero]; rfl) (by kernel_rfl) (by kernel_rfl) (by kernel_rfl) (by exact fun _ _ _ h => h) (Or.inl ⟨by rfl, ?_⟩) (by assumption) ?_
                        rotate_left
                        · intro w' hSw; obtain ⟨e0, e1, e2, e3, e4, e5⟩ := hSw
                          go_simp; try with_reducible rfl
                        try simp only [Act.put, List.setIfInBounds_toArray, List.set_cons_zero, List.set_cons_succ]
                        refine wpAnyH_take (i := 19) (v := ?_) (by simp only [List.getElem?_toArray, List.getElem?_cons_succ, List.getElem?_cons_zero]; rfl) (by kernel_rfl) (by kernel_rfl) (by kernel_rfl) (by exact fun _ _ _ h => h) (Or.inl ⟨by rfl, ?_⟩) (by assumption) ?_
                        rotate_left
                        · intro w' hSw; obtain ⟨e0, e1, e2, e3, e4, e5⟩ := hSw
                          go_simp; try with_reducible rfl
                        try simp only [Act.put, List.setIfInBounds_toArray, List.set_cons_zero, List.set_cons_succ]
                        refine wpAnyH_take (i := 20) (v := ?_) (by simp only [List.getElem?_toArray, List.getElem?_cons_succ, List.getElem?_cons_zero]; rfl) (by kernel_rfl) (by kernel_rfl) (by kernel_rfl) (by exact fun _ _ _ h => h) (Or.inl ⟨by rfl, ?_⟩) (by assumption) ?_
                        rotate_left
                        · intro w' hSw; obtain ⟨e0, e1, e2, e3, e4, e5⟩ := hSw
                          go_simp; try with_reducible rfl
                        try simp only [Act.put, List.setIfInBounds_toArray, List.set_cons_zero, List.set_cons_succ]
                        refine wpAnyH_ready (rs := [16]) (by kernel_rfl) (by simp) ?_
                        refine AllReadyH.cons (by simp only [List.getElem?_toArray, List.getElem?_cons_succ, List.getElem?_cons_zero]; rfl) (fun K hK => ?_) AllReadyH.nil
                        go_simp
                        go_at_call 122
                        refine (HAtb.out _ HB7.out.drew).mono ?_
                        rintro e w8 ⟨rfl, hb⟩
                        have rb : Below w7.heap.size w7 w8 := (Below.refl _ _).drew.trans hb
                        have hS8 : w8.cell? ⟨xb, 0, none⟩ = some (.slice a t.net.stops.length c) ∧ w8.cell? ⟨xb, 1, none⟩ = some (.slice a' t.net.lines.length c') ∧ w8.cell? ⟨xb, 2, none⟩ = some (.slice (some ⟨tb, to_, none⟩) t.trips.length d) ∧ w8.cell? ⟨xb, 3, none⟩ = some (.int .i64 ch) ∧ w8.cell? ⟨xb, 4, none⟩ = some (.int .i64 too) ∧ w8.cell? ⟨xb, 5, none⟩ = some (.int .i64 A) := ⟨bkeep rb p0, bkeep rb p1, bkeep rb p2, bkeep rb p3, bkeep rb p4, bkeep rb p5⟩
                        have HB8 : Hid (Below w.heap.size w w8) := HB7.out.trans (rb.mono HB7.out.size)
                        clear hb rb
                        go_wp2_with fail
                        refine hK.out _ _ hS8 (fun hH16 => ?_)
                        clear hK K
                        try simp only [Act.put, List.setIfInBounds_toArray, List.set_cons_zero, List.set_cons_succ]
                        refine wpAnyH_take (i := 21) (v := ?_) (by simp only [List.getElem?_toArray, List.getElem?_cons_succ, List.getElem?_cons_zero]; rfl) (by kernel_rfl) (by kernel_rfl) (by kernel_rfl) (by exact fun _ _ _ h => h) (Or.inl ⟨by rfl, ?_⟩) (by assumption) ?_
                        rotate_left
                        · intro w' hSw; obtain ⟨e0, e1, e2, e3, e4, e5⟩ := hSw
                          go_simp; try with_reducible rfl
                        try simp only [Act.put, List.setIfInBounds_toArray, List.set_cons_zero, List.set_cons_succ]
                        refine wpAnyH_take (i := 22) (v := ?_) (by simp only [List.getElem?_toArray, List.getElem?_cons_succ, List.getElem?_cons_zero]; rfl) (by kernel_rfl) (by kernel_rfl) (by kernel_rfl) (by exact fun _ _ _ h => h) (Or.inl ⟨by rfl, ?_⟩) (by assumption) ?_
                        rotate_left
                        · intro w' hSw; obtain ⟨e0, e1, e2, e3, e4, e5⟩ := hSw
                          go_simp; try with_reducible rfl
                        try simp only [Act.put, List.setIfInBounds_toArray, List.set_cons_zero, List.set_cons_succ]
                        refine wpAnyH_done (by kernel_rfl) ?_ _
                        obtain ⟨q0, q1, q2, q3, q4, q5⟩ := hS8
                        clear hH16 p0 p1 p2 p3 p4 p5
                        by_cases hgt : A < tb2
                        · have HMn : Hid (∀ x ∈ candT A (rideOf t t.trips[i]) s (m + 1), tryF (candsF t.net.stops.length (rides t) A) ch too A k used x = none) := by
                            rw [candT_succ, candO_no hixa hixb (by rw [Htb2.out]; omega), Option.toList_none, List.append_nil]; exact HMo.out
                          go_wp2_with fail
                          exact ⟨⟨m + 1, by omega, by go_num, HMn, q0, q1, q2, q3, q4, q5, HB8⟩, by simp [RowKit.intOf]; omega⟩
                        · have HCo : Hid (candO A (rideOf t t.trips[i]) s (m : Int) = some (legR (rideOf t t.trips[i]) ia ib)) := candO_yes hixa hixb ⟨hab, hibl, by rw [Htb2.out]; omega⟩
                          have HDst0 : Hid ((legR (rideOf t (t.trips[i]'hlt)) ia ib).dst = (m : Int)) := by
                            show (rideOf t (t.trips[i]'hlt)).stops.getD ib 0 = _
                            rw [List.getD_eq_getElem?_getD, List.getElem?_eq_getElem hibl]; exact HIbm.out
                          have HLa0 : Hid (0 ≤ (legR (rideOf t (t.trips[i]'hlt)) ia ib).arr ∧ (legR (rideOf t (t.trips[i]'hlt)) ia ib).arr ≤ 2400) :=
                            (legs_bound HG.out _ (mem_allLegs.2 ⟨rideOf t (t.trips[i]'hlt), by unfold rides; exact List.mem_map.2 ⟨_, List.getElem_mem hlt, rfl⟩, ia, ib, hab, hibl, rfl⟩)).2.2.2.2.1
                          obtain ⟨l, Hl⟩ : ∃ l, Hid (legR (rideOf t (t.trips[i]'hlt)) ia ib = l) := ⟨legR (rideOf t (t.trips[i]'hlt)) ia ib, rfl⟩
                          have HLq := Lib.hid (HLg.out ia ib hial hibl)
                          rw [Hl.out] at HLq HCo
                          have HDst : Hid (l.dst = (m : Int)) := by show _ = _; rw [← Hl.out]; exact HDst0.out
                          have HLa : Hid (0 ≤ l.arr ∧ l.arr ≤ 2400) := by show _ ∧ _; rw [← Hl.out]; exact HLa0.out
                          clear HDst0 HLa0
                          unfold legV at HLq
                          go_wp2_with fail
                          go_at_call 137
                          refine (HLq.out _ HB8.out).mono ?_
                          rintro e w9 ⟨rfl, hb⟩
                          have HB9 : Hid (Below w.heap.size w w9) := HB8.out.trans (hb.mono HB8.out.size)
                          have p0 := bkeep hb q0
                          have p1 := bkeep hb q1
                          have p2 := bkeep hb q2
                          have p3 := bkeep hb q3
                          have p4 := bkeep hb q4
                          have p5 := bkeep hb q5
                          clear hb q0 q1 q2 q3 q4 q5
                          obtain ⟨wb, hwb⟩ : ∃ wb : World, wb = w9.alloc (.cells #[.int .i64 l.trip, .int .i64 l.frm, .int .i64 l.dst, .int .i64 l.dep, .int .i64 l.arr] 62) := ⟨_, rfl⟩
                          have hbb : Below w9.heap.size w9 wb := by rw [hwb]; exact (Below.refl _ _).alloc (Nat.le_refl _) _
                          have HBb : Hid (Below w.heap.size w wb) := HB9.out.trans (hbb.mono HB9.out.size)
                          have hSb : wb.cell? ⟨xb, 0, none⟩ = some (.slice a t.net.stops.length c) ∧ wb.cell? ⟨xb, 1, none⟩ = some (.slice a' t.net.lines.length c') ∧ wb.cell? ⟨xb, 2, none⟩ = some (.slice (some ⟨tb, to_, none⟩) t.trips.length d) ∧ wb.cell? ⟨xb, 3, none⟩ = some (.int .i64 ch) ∧ wb.cell? ⟨xb, 4, none⟩ = some (.int .i64 too) ∧ wb.cell? ⟨xb, 5, none⟩ = some (.int .i64 A) ∧ wb.cell? ⟨w9.heap.size, 0, none⟩ = some (.int .i64 l.trip) ∧ wb.cell? ⟨w9.heap.size, 1, none⟩ = some (.int .i64 l.frm) ∧ wb.cell? ⟨w9.heap.size, 2, none⟩ = some (.int .i64 l.dst) ∧ wb.cell? ⟨w9.heap.size, 3, none⟩ = some (.int .i64 l.dep) ∧ wb.cell? ⟨w9.heap.size, 4, none⟩ = some (.int .i64 l.arr) := ⟨bkeep hbb p0, bkeep hbb p1, bkeep hbb p2, bkeep hbb p3, bkeep hbb p4, bkeep hbb p5, by rw [hwb]; go_simp, by rw [hwb]; go_simp, by rw [hwb]; go_simp, by rw [hwb]; go_simp, by rw [hwb]; go_simp⟩
                          have hlb : w9.heap.size < wb.heap.size := by rw [hwb]; simp
                          have hxb : xb < wb.heap.size := by have := World.block_lt_of_cell? w9 _ p0; dsimp only at this; omega
                          have hwl : w.heap.size ≤ wb.heap.size := HBb.out.size
                          have hzb : wb.heap.size ≤ wb.heap.size := Nat.le_refl _
                          have HWb := Lib.hid hwb
                          clear hbb hwb p0 p1 p2 p3 p4 p5
                          go_wp2_with fail
                          rw [← HWb.out]
                          refine wp_region_held_drew (S := (fun w' => w'.cell? ⟨xb, 0, none⟩ = some (.slice a t.net.stops.length c) ∧ w'.cell? ⟨xb, 1, none⟩ = some (.slice a' t.net.lines.length c') ∧ w'.cell? ⟨xb, 2, none⟩ = some (.slice (some ⟨tb, to_, none⟩) t.trips.length d) ∧ w'.cell? ⟨xb, 3, none⟩ = some (.int .i64 ch) ∧ w'.cell? ⟨xb, 4, none⟩ = some (.int .i64 too) ∧ w'.cell? ⟨xb, 5, none⟩ = some (.int .i64 A) ∧ w'.cell? ⟨w9.heap.size, 0, none⟩ = some (.int .i64 l.trip) ∧ w'.cell? ⟨w9.heap.size, 1, none⟩ = some (.int .i64 l.frm) ∧ w'.cell? ⟨w9.heap.size, 2, none⟩ = some (.int .i64 l.dst) ∧ w'.cell? ⟨w9.heap.size, 3, none⟩ = some (.int .i64 l.dep) ∧ w'.cell? ⟨w9.heap.size, 4, none⟩ = some (.int .i64 l.arr))) (by kernel_rfl) ?_ (fun hHeld => ?_)
                          · exact hSb
                          refine wpAnyH_take (i := 1) (v := ?_) (by simp only [List.getElem?_toArray, List.getElem?_cons_succ, List.getElem?_cons_zero]; rfl) (by kernel_rfl) (by kernel_rfl) (by kernel_rfl) (by exact fun _ _ _ h => h) (Or.inl ⟨by rfl, ?_⟩) (by assumption) ?_
                          rotate_left
                          · intro w' hSw; obtain ⟨e0, e1, e2, e3, e4, e5, e6, e7, e8, e9, e10⟩ := hSw
                            go_simp; try with_reducible rfl
                          try simp only [Act.put, List.setIfInBounds_toArray, List.set_cons_zero, List.set_cons_succ]
                          refine wpAnyH_take (i := 3) (v := ?_) (by simp only [List.getElem?_toArray, List.getElem?_cons_succ, List.getElem?_cons_zero]; rfl) (by kernel_rfl) (by kernel_rfl) (by kernel_rfl) (by exact fun _ _ _ h => h) (Or.inl ⟨by rfl, ?_⟩) (by assumption) ?_
                          rotate_left
                          · intro w' hSw; obtain ⟨e0, e1, e2, e3, e4, e5, e6, e7, e8, e9, e10⟩ := hSw
                            go_simp; try with_reducible rfl
                          try simp only [Act.put, List.setIfInBounds_toArray, List.set_cons_zero, List.set_cons_succ]
                          refine wpAnyH_ready (rs := [0, 4]) (by kernel_rfl) (by simp) ?_
                          refine AllReadyH.cons (by simp only [List.getElem?_toArray, List.getElem?_cons_zero]; rfl) (fun K hK => ?_) (AllReadyH.cons (by simp only [List.getElem?_toArray, List.getElem?_cons_succ, List.getElem?_cons_zero]; rfl) (fun K hK => ?_) AllReadyH.nil)
                          · go_simp
                            obtain ⟨wE, hwE⟩ : ∃ wE : World, wE = (World.alloc wb (.cells #[] 62)).drew := ⟨_, rfl⟩
                            have rb : Below wb.heap.size wb wE := by rw [hwE]; exact ((Below.refl _ _).alloc (Nat.le_refl _) _).drew
                            have hSE : wE.cell? ⟨xb, 0, none⟩ = some (.slice a t.net.stops.length c) ∧ wE.cell? ⟨xb, 1, none⟩ = some (.slice a' t.net.lines.length c') ∧ wE.cell? ⟨xb, 2, none⟩ = some (.slice (some ⟨tb, to_, none⟩) t.trips.length d) ∧ wE.cell? ⟨xb, 3, none⟩ = some (.int .i64 ch) ∧ wE.cell? ⟨xb, 4, none⟩ = some (.int .i64 too) ∧ wE.cell? ⟨xb, 5, none⟩ = some (.int .i64 A) ∧ wE.cell? ⟨w9.heap.size, 0, none⟩ = some (.int .i64 l.trip) ∧ wE.cell? ⟨w9.heap.size, 1, none⟩ = some (.int .i64 l.frm) ∧ wE.cell? ⟨w9.heap.size, 2, none⟩ = some (.int .i64 l.dst) ∧ wE.cell? ⟨w9.heap.size, 3, none⟩ = some (.int .i64 l.dep) ∧ wE.cell? ⟨w9.heap.size, 4, none⟩ = some (.int .i64 l.arr) := ⟨(rb.cell (by show xb < _; omega)).trans hSb.1, (rb.cell (by show xb < _; omega)).trans hSb.2.1, (rb.cell (by show xb < _; omega)).trans hSb.2.2.1, (rb.cell (by show xb < _; omega)).trans hSb.2.2.2.1, (rb.cell (by show xb < _; omega)).trans hSb.2.2.2.2.1, (rb.cell (by show xb < _; omega)).trans hSb.2.2.2.2.2.1, (rb.cell (by show w9.heap.size < _; omega)).trans hSb.2.2.2.2.2.2.1, (rb.cell (by show w9.heap.size < _; omega)).trans hSb.2.2.2.2.2.2.2.1, (rb.cell (by show w9.heap.size < _; omega)).trans hSb.2.2.2.2.2.2.2.2.1, (rb.cell (by show w9.heap.size < _; omega)).trans hSb.2.2.2.2.2.2.2.2.2.1, (rb.cell (by show w9.heap.size < _; omega)).trans hSb.2.2.2.2.2.2.2.2.2.2⟩
                            have HBE : Hid (Below w.heap.size w wE) := HBb.out.trans (rb.mono (by omega))
                            have hzE : wb.heap.size ≤ wE.heap.size := Nat.le_trans hzb rb.size
                            have hlE : wb.heap.size < wE.heap.size := by rw [hwE]; simp
                            have HRE : Hid (wE.ownsRow wb.heap.size 62 5 (.slice (some ⟨wb.heap.size, 0, none⟩) 0 0) 0 (legC [])) := by
                              rw [hwE]
                              exact own_later (legs_new wb wb.heap.size (Nat.le_refl _)) (Below.refl _ _).drew
                            rw [← hwE]
                            clear rb hwE
                            refine hK.out _ _ hSE (fun hH0 => ?_)
                            clear hK K
                            try simp only [Act.put, List.setIfInBounds_toArray, List.set_cons_zero, List.set_cons_succ]
                            refine wpAnyH_ready (rs := [2, 4]) (by kernel_rfl) (by simp) ?_
                            refine AllReadyH.cons (by simp only [List.getElem?_toArray, List.getElem?_cons_succ, List.getElem?_cons_zero]; rfl) (fun K hK => ?_) (AllReadyH.cons (by simp only [List.getElem?_toArray, List.getElem?_cons_succ, List.getElem?_cons_zero]; rfl) (fun K hK => ?_) AllReadyH.nil)
                            · obtain ⟨vP, wP, hrun2, hown2, hgr2, hloc2⟩ := run_append_legs wE wb.heap.size 0 _ [] HRE.out lg lo_ lc used (HL.out.below rfl HBE.out) (by omega) hzE
                              have rb : Below wb.heap.size wE wP := ⟨hgr2.os, hgr2.tape, hgr2.output, hgr2.size, fun q hq => hgr2.block q (by omega) (fun e => by have := (HRE.out.lt q e.symm).1; omega)⟩
                              have hSP : wP.cell? ⟨xb, 0, none⟩ = some (.slice a t.net.stops.length c) ∧ wP.cell? ⟨xb, 1, none⟩ = some (.slice a' t.net.lines.length c') ∧ wP.cell? ⟨xb, 2, none⟩ = some (.slice (some ⟨tb, to_, none⟩) t.trips.length d) ∧ wP.cell? ⟨xb, 3, none⟩ = some (.int .i64 ch) ∧ wP.cell? ⟨xb, 4, none⟩ = some (.int .i64 too) ∧ wP.cell? ⟨xb, 5, none⟩ = some (.int .i64 A) ∧ wP.cell? ⟨w9.heap.size, 0, none⟩ = some (.int .i64 l.trip) ∧ wP.cell? ⟨w9.heap.size, 1, none⟩ = some (.int .i64 l.frm) ∧ wP.cell? ⟨w9.heap.size, 2, none⟩ = some (.int .i64 l.dst) ∧ wP.cell? ⟨w9.heap.size, 3, none⟩ = some (.int .i64 l.dep) ∧ wP.cell? ⟨w9.heap.size, 4, none⟩ = some (.int .i64 l.arr) := ⟨(rb.cell (by show xb < _; omega)).trans hSE.1, (rb.cell (by show xb < _; omega)).trans hSE.2.1, (rb.cell (by show xb < _; omega)).trans hSE.2.2.1, (rb.cell (by show xb < _; omega)).trans hSE.2.2.2.1, (rb.cell (by show xb < _; omega)).trans hSE.2.2.2.2.1, (rb.cell (by show xb < _; omega)).trans hSE.2.2.2.2.2.1, (rb.cell (by show w9.heap.size < _; omega)).trans hSE.2.2.2.2.2.2.1, (rb.cell (by show w9.heap.size < _; omega)).trans hSE.2.2.2.2.2.2.2.1, (rb.cell (by show w9.heap.size < _; omega)).trans hSE.2.2.2.2.2.2.2.2.1, (rb.cell (by show w9.heap.size < _; omega)).trans hSE.2.2.2.2.2.2.2.2.2.1, (rb.cell (by show w9.heap.size < _; omega)).trans hSE.2.2.2.2.2.2.2.2.2.2⟩
                              have HBP : Hid (Below w.heap.size w wP) := HBE.out.trans (rb.mono (by omega))
                              have hzP : wb.heap.size ≤ wP.heap.size := Nat.le_trans hzE rb.size
                              have HRP : Hid (wP.ownsRow wb.heap.size 62 5 vP used.length (legC used)) := by
                                show World.ownsRow _ _ _ _ _ _ _
                                simpa using hown2
                              refine step_append_run rfl (.tmp 135) (.tmp 136) 30 rfl rfl rfl hrun2 ?_
                              clear hrun2 hown2 hgr2 hloc2 rb
                              refine hK.out _ _ hSP (fun hH2 => ?_)
                              clear hK K
                              try simp only [Act.put, List.setIfInBounds_toArray, List.set_cons_zero, List.set_cons_succ]
                              refine wpAnyH_ready (rs := [4]) (by kernel_rfl) (by simp) ?_
                              refine AllReadyH.cons (by simp only [List.getElem?_toArray, List.getElem?_cons_succ, List.getElem?_cons_zero]; rfl) (fun K hK => ?_) AllReadyH.nil
                              go_simp
                              obtain ⟨wQ, hwQ⟩ : ∃ wQ : World, wQ = World.alloc wP (.cells #[.int .i64 l.trip, .int .i64 l.frm, .int .i64 l.dst, .int .i64 l.dep, .int .i64 l.arr] 62) := ⟨_, rfl⟩
                              have rb : Below wb.heap.size wP wQ := by rw [hwQ]; exact ((Below.refl _ _).alloc (Nat.le_refl _) _).mono hzP
                              have hSQ : wQ.cell? ⟨xb, 0, none⟩ = some (.slice a t.net.stops.length c) ∧ wQ.cell? ⟨xb, 1, none⟩ = some (.slice a' t.net.lines.length c') ∧ wQ.cell? ⟨xb, 2, none⟩ = some (.slice (some ⟨tb, to_, none⟩) t.trips.length d) ∧ wQ.cell? ⟨xb, 3, none⟩ = some (.int .i64 ch) ∧ wQ.cell? ⟨xb, 4, none⟩ = some (.int .i64 too) ∧ wQ.cell? ⟨xb, 5, none⟩ = some (.int .i64 A) ∧ wQ.cell? ⟨w9.heap.size, 0, none⟩ = some (.int .i64 l.trip) ∧ wQ.cell? ⟨w9.heap.size, 1, none⟩ = some (.int .i64 l.frm) ∧ wQ.cell? ⟨w9.heap.size, 2, none⟩ = some (.int .i64 l.dst) ∧ wQ.cell? ⟨w9.heap.size, 3, none⟩ = some (.int .i64 l.dep) ∧ wQ.cell? ⟨w9.heap.size, 4, none⟩ = some (.int .i64 l.arr) := ⟨(rb.cell (by show xb < _; omega)).trans hSP.1, (rb.cell (by show xb < _; omega)).trans hSP.2.1, (rb.cell (by show xb < _; omega)).trans hSP.2.2.1, (rb.cell (by show xb < _; omega)).trans hSP.2.2.2.1, (rb.cell (by show xb < _; omega)).trans hSP.2.2.2.2.1, (rb.cell (by show xb < _; omega)).trans hSP.2.2.2.2.2.1, (rb.cell (by show w9.heap.size < _; omega)).trans hSP.2.2.2.2.2.2.1, (rb.cell (by show w9.heap.size < _; omega)).trans hSP.2.2.2.2.2.2.2.1, (rb.cell (by show w9.heap.size < _; omega)).trans hSP.2.2.2.2.2.2.2.2.1, (rb.cell (by show w9.heap.size < _; omega)).trans hSP.2.2.2.2.2.2.2.2.2.1, (rb.cell (by show w9.heap.size < _; omega)).trans hSP.2.2.2.2.2.2.2.2.2.2⟩
                              have HBQ : Hid (Below w.heap.size w wQ) := HBP.out.trans (rb.mono (by omega))
                              have hzQ : wb.heap.size ≤ wQ.heap.size := Nat.le_trans hzP rb.size
                              have hlQ : wP.heap.size < wQ.heap.size := by rw [hwQ]; simp
                              have HQQ : Hid (wQ.ownsRow wb.heap.size 62 5 (.slice (some ⟨wP.heap.size, 0, none⟩) 1 1) 1 (legC [l])) := by
                                rw [hwQ]
                                exact (World.ownsRow_lit (base := wb.heap.size) (e := 62) (size := 5) wP #[.int .i64 l.trip, .int .i64 l.frm, .int .i64 l.dst, .int .i64 l.dep, .int .i64 l.arr] 1 (by exact hzP) (by decide) (by simp))
                              have HRQ := Lib.hid (own_later HRP.out (show Below wP.heap.size wP wQ by rw [hwQ]; exact (Below.refl _ _).alloc (Nat.le_refl _) _))
                              rw [← hwQ]
                              clear rb hwQ
                              refine hK.out _ _ hSQ (fun hH4 => ?_)
                              clear hK K
                              try simp only [Act.put, List.setIfInBounds_toArray, List.set_cons_zero, List.set_cons_succ]
                              refine wpAnyH_ready (rs := [5]) (by kernel_rfl) (by simp) ?_
                              refine AllReadyH.cons (by simp only [List.getElem?_toArray, List.getElem?_cons_succ, List.getElem?_cons_zero]; rfl) (fun K hK => ?_) AllReadyH.nil
                              obtain ⟨vR, wR, hrun5, hown5, hgr5, hloc5⟩ := run_append_legs wQ wb.heap.size used.length vP used HRQ.out wP.heap.size 0 1 [l] (legsAt_own (xs := [l]) HQQ.out) (by simp; omega) hzQ
                              have rb : Below wb.heap.size wQ wR := ⟨hgr5.os, hgr5.tape, hgr5.output, hgr5.size, fun q hq => hgr5.block q (by omega) (fun e => by have := (HRQ.out.lt q e.symm).1; omega)⟩
                              have hSR : wR.cell? ⟨xb, 0, none⟩ = some (.slice a t.net.stops.length c) ∧ wR.cell? ⟨xb, 1, none⟩ = some (.slice a' t.net.lines.length c') ∧ wR.cell? ⟨xb, 2, none⟩ = some (.slice (some ⟨tb, to_, none⟩) t.trips.length d) ∧ wR.cell? ⟨xb, 3, none⟩ = some (.int .i64 ch) ∧ wR.cell? ⟨xb, 4, none⟩ = some (.int .i64 too) ∧ wR.cell? ⟨xb, 5, none⟩ = some (.int .i64 A) ∧ wR.cell? ⟨w9.heap.size, 0, none⟩ = some (.int .i64 l.trip) ∧ wR.cell? ⟨w9.heap.size, 1, none⟩ = some (.int .i64 l.frm) ∧ wR.cell? ⟨w9.heap.size, 2, none⟩ = some (.int .i64 l.dst) ∧ wR.cell? ⟨w9.heap.size, 3, none⟩ = some (.int .i64 l.dep) ∧ wR.cell? ⟨w9.heap.size, 4, none⟩ = some (.int .i64 l.arr) := ⟨(rb.cell (by show xb < _; omega)).trans hSQ.1, (rb.cell (by show xb < _; omega)).trans hSQ.2.1, (rb.cell (by show xb < _; omega)).trans hSQ.2.2.1, (rb.cell (by show xb < _; omega)).trans hSQ.2.2.2.1, (rb.cell (by show xb < _; omega)).trans hSQ.2.2.2.2.1, (rb.cell (by show xb < _; omega)).trans hSQ.2.2.2.2.2.1, (rb.cell (by show w9.heap.size < _; omega)).trans hSQ.2.2.2.2.2.2.1, (rb.cell (by show w9.heap.size < _; omega)).trans hSQ.2.2.2.2.2.2.2.1, (rb.cell (by show w9.heap.size < _; omega)).trans hSQ.2.2.2.2.2.2.2.2.1, (rb.cell (by show w9.heap.size < _; omega)).trans hSQ.2.2.2.2.2.2.2.2.2.1, (rb.cell (by show w9.heap.size < _; omega)).trans hSQ.2.2.2.2.2.2.2.2.2.2⟩
                              have HBR : Hid (Below w.heap.size w wR) := HBQ.out.trans (rb.mono (by omega))
                              have hzR : wb.heap.size ≤ wR.heap.size := Nat.le_trans hzQ rb.size
                              have HRR : Hid (wR.ownsRow wb.heap.size 62 5 vR (used ++ [l]).length (legC (used ++ [l]))) := by
                                show World.ownsRow _ _ _ _ _ _ _
                                simpa using hown5
                              simp only [List.length_singleton] at hrun5
                              refine step_append_run rfl (.tmp 137) (.tmp 139) 30 rfl rfl rfl hrun5 ?_
                              clear hrun5 hown5 hgr5 hloc5 rb
                              refine hK.out _ _ hSR (fun hH5 => ?_)
                              clear hK K
                              try simp only [Act.put, List.setIfInBounds_toArray, List.set_cons_zero, List.set_cons_succ]
                              refine wpAnyH_take (i := 6) (v := ?_) (by simp only [List.getElem?_toArray, List.getElem?_cons_succ, List.getElem?_cons_zero]; rfl) (by kernel_rfl) (by kernel_rfl) (by kernel_rfl) (by exact fun _ _ _ h => h) (Or.inl ⟨by rfl, ?_⟩) (by assumption) ?_
                              rotate_left
                              · intro w' hSw; obtain ⟨e0, e1, e2, e3, e4, e5, e6, e7, e8, e9, e10⟩ := hSw
                                go_simp; try with_reducible rfl
                              try simp only [Act.put, List.setIfInBounds_toArray, List.set_cons_zero, List.set_cons_succ]
                              refine wpAnyH_done (by kernel_rfl) ?_ _
                              obtain ⟨s0, s1, s2, s3, s4, s5, -, -, -, -, s10⟩ := hSR
                              clear hH0 hH2 hH4 hH5
                              obtain ⟨g9, c9, rfl⟩ : ∃ g9 c9, vR = .slice (some ⟨g9, 0, none⟩) (used ++ [l]).length c9 := by
                                rcases HRR.out.2 with ⟨hv, h0'⟩ | ⟨g9, cap9, cur9, hv, _⟩
                                · simp at h0'
                                · exact ⟨g9, cap9, hv⟩
                              by_cases hk0 : k = 0
                              · have hkb : ((k : Int) + 1 == 1) = true := by simp [hk0]
                                have HK0 := Lib.hid hk0
                                clear hk0
                                by_cases hmt : (m : Int) = too
                                · have hmb : ((m : Int) == too) = true := by simp [hmt]
                                  by_cases hla : l.arr = A
                                  · have hlb : (l.arr == A) = true := by simp [hla]
                                    have HTry : Hid (tryF (candsF t.net.stops.length (rides t) A) ch too A k used l = some [l]) := by show _ = _; unfold tryF; rw [if_pos HK0.out, if_pos ⟨HDst.out.trans hmt, hla⟩]
                                    have HRes : Hid (res = used ++ [l]) := by
                                      show _ = _
                                      rw [← Hres.out, dfs_hit (i := i) (q := m) hir (by rw [rides_at]; exact HRok.out) hmN (by rw [rides_at]; exact HCo.out) HNo.out (by rw [rides_at]; exact HMo.out) HTry.out]; rfl
                                    clear hmt hla
                                    go_wp2_with fail
                                    go_quiet (fail)
                                    go_wp2_with fail
                                    go_ret
                                    exact ⟨⟨_, rfl, by rw [HRes.out]; exact own_base (own_later HRR.out (Dr.below ⟨_, rfl⟩)) hwl⟩, HBR.out.trans ((Dr.below ⟨_, rfl⟩).mono HBR.out.size)⟩
                                  · have hlb : (l.arr == A) = false := by simp [hla]
                                    have HTry : Hid (tryF (candsF t.net.stops.length (rides t) A) ch too A k used l = none) := by show _ = _; unfold tryF; rw [if_pos HK0.out, if_neg (fun h => hla h.2)]
                                    have HMn : Hid (∀ x ∈ candT A (rideOf t t.trips[i]) s (m + 1), tryF (candsF t.net.stops.length (rides t) A) ch too A k used x = none) := by
                                      show ∀ x ∈ _, _
                                      rw [candT_succ, HCo.out, Option.toList_some]
                                      intro x hx
                                      rcases List.mem_append.1 hx with hx | hx
                                      · exact HMo.out x hx
                                      · rw [List.mem_singleton.1 hx]; exact HTry.out
                                    clear hmt hla
                                    go_wp2_with fail
                                    go_quiet (fail)
                                    go_wp2_with fail
                                    exact ⟨⟨m + 1, by omega, by go_num, HMn, bkeep (Dr.below ⟨_, rfl⟩) s0, bkeep (Dr.below ⟨_, rfl⟩) s1, bkeep (Dr.below ⟨_, rfl⟩) s2, bkeep (Dr.below ⟨_, rfl⟩) s3, bkeep (Dr.below ⟨_, rfl⟩) s4, bkeep (Dr.below ⟨_, rfl⟩) s5, HBR.out.trans ((Dr.below ⟨_, rfl⟩).mono HBR.out.size)⟩, by simp [RowKit.intOf]; omega⟩
                                · have hmb : ((m : Int) == too) = false := by simp [hmt]
                                  have HTry : Hid (tryF (candsF t.net.stops.length (rides t) A) ch too A k used l = none) := by show _ = _; unfold tryF; rw [if_pos HK0.out, if_neg (fun h => hmt (HDst.out.symm.trans h.1))]
                                  have HMn : Hid (∀ x ∈ candT A (rideOf t t.trips[i]) s (m + 1), tryF (candsF t.net.stops.length (rides t) A) ch too A k used x = none) := by
                                    show ∀ x ∈ _, _
                                    rw [candT_succ, HCo.out, Option.toList_some]
                                    intro x hx
                                    rcases List.mem_append.1 hx with hx | hx
                                    · exact HMo.out x hx
                                    · rw [List.mem_singleton.1 hx]; exact HTry.out
                                  clear hmt
                                  go_wp2_with fail
                                  go_quiet (fail)
                                  go_wp2_with fail
                                  exact ⟨⟨m + 1, by omega, by go_num, HMn, bkeep (Dr.below ⟨_, rfl⟩) s0, bkeep (Dr.below ⟨_, rfl⟩) s1, bkeep (Dr.below ⟨_, rfl⟩) s2, bkeep (Dr.below ⟨_, rfl⟩) s3, bkeep (Dr.below ⟨_, rfl⟩) s4, bkeep (Dr.below ⟨_, rfl⟩) s5, HBR.out.trans ((Dr.below ⟨_, rfl⟩).mono HBR.out.size)⟩, by simp [RowKit.intOf]; omega⟩
                              · have hkb : ((k : Int) + 1 == 1) = false := by simp; omega
                                have HCall := Lib.hid (HIH.out hk0)
                                unfold ExtOk at HCall
                                have HK0 := Lib.hid hk0
                                clear hk0
                                obtain ⟨D, HD⟩ : ∃ D, Hid (dfsF (candsF t.net.stops.length (rides t) A) ch too A k (used ++ [l]) (m : Int) (l.arr + ch) = D) := ⟨_, rfl⟩
                                obtain ⟨n12, HN12⟩ : ∃ n12, Hid ((extR (used ++ [l]) D).length = n12) := ⟨_, rfl⟩
                                have hwk : IntKind.i64.wrap (k : Int) = (k : Int) := IntWalk.i64_in _ (by omega)
                                have hwk1 : IntKind.i64.wrap ((k : Int) + 1 - 1) = (k : Int) := by rw [IntWalk.i64_in _ (by omega)]; omega
                                have hwa : IntKind.i64.wrap (l.arr + ch) = l.arr + ch := IntWalk.i64_in _ (by have := HLa.out; omega)
                                go_wp2_with fail
                                refine wp_region_held_drew (S := (fun w' => w'.cell? ⟨xb, 0, none⟩ = some (.slice a t.net.stops.length c) ∧ w'.cell? ⟨xb, 1, none⟩ = some (.slice a' t.net.lines.length c') ∧ w'.cell? ⟨xb, 2, none⟩ = some (.slice (some ⟨tb, to_, none⟩) t.trips.length d) ∧ w'.cell? ⟨xb, 3, none⟩ = some (.int .i64 ch) ∧ w'.cell? ⟨xb, 4, none⟩ = some (.int .i64 too) ∧ w'.cell? ⟨xb, 5, none⟩ = some (.int .i64 A) ∧ w'.cell? ⟨w9.heap.size, 4, none⟩ = some (.int .i64 l.arr))) (by kernel_rfl) ?_ (fun hHeld => ?_)
                                · exact ⟨s0, s1, s2, s3, s4, s5, s10⟩
                                refine wpAnyH_take (i := 0) (v := ?_) (by simp only [List.getElem?_toArray, List.getElem?_cons_zero]; rfl) (by kernel_rfl) (by kernel_rfl) (by kernel_rfl) (by exact fun _ _ _ h => h) (Or.inl ⟨by rfl, ?_⟩) (by assumption) ?_
                                rotate_left
                                · intro w' hSw; obtain ⟨e0, e1, e2, e3, e4, e5, e6⟩ := hSw
                                  go_simp; try with_reducible rfl
                                try simp only [Act.put, List.setIfInBounds_toArray, List.set_cons_zero, List.set_cons_succ]
                                refine wpAnyH_take (i := 1) (v := ?_) (by simp only [List.getElem?_toArray, List.getElem?_cons_succ, List.getElem?_cons_zero]; rfl) (by kernel_rfl) (by kernel_rfl) (by kernel_rfl) (by exact fun _ _ _ h => h) (Or.inl ⟨by rfl, ?_⟩) (by assumption) ?_
                                rotate_left
                                · intro w' hSw; obtain ⟨e0, e1, e2, e3, e4, e5, e6⟩ := hSw
                                  go_simp; try with_reducible rfl
                                try simp only [Act.put, List.setIfInBounds_toArray, List.set_cons_zero, List.set_cons_succ]
                                refine wpAnyH_take (i := 2) (v := ?_) (by simp only [List.getElem?_toArray, List.getElem?_cons_succ, List.getElem?_cons_zero]; rfl) (by kernel_rfl) (by kernel_rfl) (by kernel_rfl) (by exact fun _ _ _ h => h) (Or.inl ⟨by rfl, ?_⟩) (by assumption) ?_
                                rotate_left
                                · intro w' hSw; obtain ⟨e0, e1, e2, e3, e4, e5, e6⟩ := hSw
                                  go_simp; try with_reducible rfl
                                try simp only [Act.put, List.setIfInBounds_toArray, List.set_cons_zero, List.set_cons_succ]
                                refine wpAnyH_take (i := 3) (v := ?_) (by simp only [List.getElem?_toArray, List.getElem?_cons_succ, List.getElem?_cons_zero]; rfl) (by kernel_rfl) (by kernel_rfl) (by kernel_rfl) (by exact fun _ _ _ h => h) (Or.inl ⟨by rfl, ?_⟩) (by assumption) ?_
                                rotate_left
                                · intro w' hSw; obtain ⟨e0, e1, e2, e3, e4, e5, e6⟩ := hSw
                                  go_simp; try with_reducible rfl
                                try simp only [Act.put, List.setIfInBounds_toArray, List.set_cons_zero, List.set_cons_succ]
                                refine wpAnyH_take (i := 4) (v := ?_) (by simp only [List.getElem?_toArray, List.getElem?_cons_succ, List.getElem?_cons_zero]; rfl) (by kernel_rfl) (by kernel_rfl) (by kernel_rfl) (by exact fun _ _ _ h => h) (Or.inl ⟨by rfl, ?_⟩) (by assumption) ?_
                                rotate_left
                                · intro w' hSw; obtain ⟨e0, e1, e2, e3, e4, e5, e6⟩ := hSw
                                  go_simp; try with_reducible rfl
                                try simp only [Act.put, List.setIfInBounds_toArray, List.set_cons_zero, List.set_cons_succ]
                                refine wpAnyH_take (i := 5) (v := ?_) (by simp only [List.getElem?_toArray, List.getElem?_cons_succ, List.getElem?_cons_zero]; rfl) (by kernel_rfl) (by kernel_rfl) (by kernel_rfl) (by exact fun _ _ _ h => h) (Or.inl ⟨by rfl, ?_⟩) (by assumption) ?_
                                rotate_left
                                · intro w' hSw; obtain ⟨e0, e1, e2, e3, e4, e5, e6⟩ := hSw
                                  go_simp; try with_reducible rfl
                                try simp only [Act.put, List.setIfInBounds_toArray, List.set_cons_zero, List.set_cons_succ]
                                refine wpAnyH_take (i := 6) (v := ?_) (by simp only [List.getElem?_toArray, List.getElem?_cons_succ, List.getElem?_cons_zero]; rfl) (by kernel_rfl) (by kernel_rfl) (by kernel_rfl) (by exact fun _ _ _ h => h) (Or.inl ⟨by rfl, ?_⟩) (by assumption) ?_
                                rotate_left
                                · intro w' hSw; obtain ⟨e0, e1, e2, e3, e4, e5, e6⟩ := hSw
                                  go_simp; try with_reducible rfl
                                try simp only [Act.put, List.setIfInBounds_toArray, List.set_cons_zero, List.set_cons_succ]
                                refine wpAnyH_take (i := 7) (v := ?_) (by simp only [List.getElem?_toArray, List.getElem?_cons_succ, List.getElem?_cons_zero]; rfl) (by kernel_rfl) (by kernel_rfl) (by kernel_rfl) (by exact fun _ _ _ h => h) (Or.inl ⟨by rfl, ?_⟩) (by assumption) ?_
                                rotate_left
                                · intro w' hSw; obtain ⟨e0, e1, e2, e3, e4, e5, e6⟩ := hSw
                                  go_simp; try with_reducible rfl
                                try simp only [Act.put, List.setIfInBounds_toArray, List.set_cons_zero, List.set_cons_succ]
                                refine wpAnyH_take (i := 8) (v := ?_) (by simp only [List.getElem?_toArray, List.getElem?_cons_succ, List.getElem?_cons_zero]; rfl) (by kernel_rfl) (by kernel_rfl) (by kernel_rfl) (by exact fun _ _ _ h => h) (Or.inl ⟨by rfl, ?_⟩) (by assumption) ?_
                                rotate_left
                                · intro w' hSw; obtain ⟨e0, e1, e2, e3, e4, e5, e6⟩ := hSw
                                  go_simp; try with_reducible rfl
                                try simp only [Act.put, List.setIfInBounds_toArray, List.set_cons_zero, List.set_cons_succ]
                                refine wpAnyH_take (i := 9) (v := ?_) (by simp only [List.getElem?_toArray, List.getElem?_cons_succ, List.getElem?_cons_zero]; rfl) (by kernel_rfl) (by kernel_rfl) (by kernel_rfl) (by exact fun _ _ _ h => h) (Or.inl ⟨by rfl, ?_⟩) (by assumption) ?_
                                rotate_left
                                · intro w' hSw; obtain ⟨e0, e1, e2, e3, e4, e5, e6⟩ := hSw
                                  go_simp; try with_reducible rfl
                                try simp only [Act.put, List.setIfInBounds_toArray, List.set_cons_zero, List.set_cons_succ]
                                refine wpAnyH_take (i := 10) (v := ?_) (by simp only [List.getElem?_toArray, List.getElem?_cons_succ, List.getElem?_cons_zero]; rfl) (by kernel_rfl) (by kernel_rfl) (by kernel_rfl) (by exact fun _ _ _ h => h) (Or.inl ⟨by rfl, ?_⟩) (by assumption) ?_
                                rotate_left
                                · intro w' hSw; obtain ⟨e0, e1, e2, e3, e4, e5, e6⟩ := hSw
                                  go_simp; try with_reducible rfl
                                try simp only [Act.put, List.setIfInBounds_toArray, List.set_cons_zero, List.set_cons_succ]
                                refine wpAnyH_take (i := 11) (v := ?_) (by simp only [List.getElem?_toArray, List.getElem?_cons_succ, List.getElem?_cons_zero]; rfl) (by kernel_rfl) (by kernel_rfl) (by kernel_rfl) (by exact fun _ _ _ h => h) (Or.inl ⟨by rfl, ?_⟩) (by assumption) ?_
                                rotate_left
                                · intro w' hSw; obtain ⟨e0, e1, e2, e3, e4, e5, e6⟩ := hSw
                                  go_simp; try with_reducible rfl
                                try simp only [Act.put, List.setIfInBounds_toArray, List.set_cons_zero, List.set_cons_succ]
                                refine wpAnyH_ready (rs := [12]) (by kernel_rfl) (by simp) ?_
                                refine AllReadyH.cons (by simp only [List.getElem?_toArray, List.getElem?_cons_succ, List.getElem?_cons_zero]; rfl) (fun K hK => ?_) AllReadyH.nil
                                go_simp
                                go_at_call 123
                                have HX := HCall.out wR.drew g9 0 c9 (used ++ [l]) (m : Int) (l.arr + ch) (HTT.out.below rfl HBR.out.drew) ⟨hHeld.1, hHeld.2.1, hHeld.2.2.1, hHeld.2.2.2.1, hHeld.2.2.2.2.1, hHeld.2.2.2.2.2.1⟩ (legsAt_own (own_later HRR.out (Below.refl _ _).drew)) (by simp; omega)
                                simp only [List.length_append, List.length_singleton] at HX
                                refine HX.mono ?_
                                clear HX
                                rintro e w12 ⟨⟨v12, rfl, hown12⟩, hb12⟩
                                rw [HD.out, HN12.out] at hown12
                                obtain ⟨a12, c12, rfl⟩ := own_shape hown12
                                have rb : Below wR.heap.size wR w12 := (Below.refl _ _).drew.trans hb12
                                have hS12 : w12.cell? ⟨xb, 0, none⟩ = some (.slice a t.net.stops.length c) ∧ w12.cell? ⟨xb, 1, none⟩ = some (.slice a' t.net.lines.length c') ∧ w12.cell? ⟨xb, 2, none⟩ = some (.slice (some ⟨tb, to_, none⟩) t.trips.length d) ∧ w12.cell? ⟨xb, 3, none⟩ = some (.int .i64 ch) ∧ w12.cell? ⟨xb, 4, none⟩ = some (.int .i64 too) ∧ w12.cell? ⟨xb, 5, none⟩ = some (.int .i64 A) ∧ w12.cell? ⟨w9.heap.size, 4, none⟩ = some (.int .i64 l.arr) := ⟨bkeep rb s0, bkeep rb s1, bkeep rb s2, bkeep rb s3, bkeep rb s4, bkeep rb s5, bkeep rb s10⟩
                                have HB12 : Hid (Below w.heap.size w w12) := HBR.out.trans (rb.mono HBR.out.size)
                                have HO12 : Hid (w12.ownsRow w.heap.size 62 5 (.slice a12 n12 c12) n12 (legC (extR (used ++ [l]) D))) := own_base hown12 (show w.heap.size ≤ wR.heap.size from HBR.out.size)
                                clear hown12 hb12 rb
                                go_wp2_with fail
                                refine hK.out _ _ hS12 (fun hH12 => ?_)
                                clear hK K
                                try simp only [Act.put, List.setIfInBounds_toArray, List.set_cons_zero, List.set_cons_succ]
                                refine wpAnyH_take (i := 13) (v := ?_) (by simp only [List.getElem?_toArray, List.getElem?_cons_succ, List.getElem?_cons_zero]; rfl) (by kernel_rfl) (by kernel_rfl) (by kernel_rfl) (by exact fun _ _ _ h => h) (Or.inl ⟨by rfl, ?_⟩) (by assumption) ?_
                                rotate_left
                                · intro w' hSw; obtain ⟨e0, e1, e2, e3, e4, e5, e6⟩ := hSw
                                  go_simp; try with_reducible rfl
                                try simp only [Act.put, List.setIfInBounds_toArray, List.set_cons_zero, List.set_cons_succ]
                                refine wpAnyH_done (by kernel_rfl) ?_ _
                                obtain ⟨q0, q1, q2, q3, q4, q5, -⟩ := hS12
                                clear hH12
                                cases D with
                                | none =>
                                  obtain rfl : n12 = 0 := HN12.out.symm
                                  have HTry : Hid (tryF (candsF t.net.stops.length (rides t) A) ch too A k used l = none) := by show _ = _; unfold tryF; rw [if_neg HK0.out, HDst.out, HD.out]; rfl
                                  have HMn : Hid (∀ x ∈ candT A (rideOf t t.trips[i]) s (m + 1), tryF (candsF t.net.stops.length (rides t) A) ch too A k used x = none) := by
                                    show ∀ x ∈ _, _
                                    rw [candT_succ, HCo.out, Option.toList_some]
                                    intro x hx
                                    rcases List.mem_append.1 hx with hx | hx
                                    · exact HMo.out x hx
                                    · rw [List.mem_singleton.1 hx]; exact HTry.out
                                  go_wp2_with fail
                                  exact ⟨⟨m + 1, by omega, by go_num, HMn, q0, q1, q2, q3, q4, q5, HB12⟩, by simp [RowKit.intOf]; omega⟩
                                | some c' =>
                                  have hn12 : n12 = ((used ++ [l]) ++ c').length := HN12.out.symm
                                  have hpos : (0 : Int) < (n12 : Int) := by rw [hn12]; simp; omega
                                  have HN := Lib.hid hn12
                                  have HTry : Hid (tryF (candsF t.net.stops.length (rides t) A) ch too A k used l = some (l :: c')) := by show _ = _; unfold tryF; rw [if_neg HK0.out, HDst.out, HD.out]; rfl
                                  have HRes : Hid (res = (used ++ [l]) ++ c') := by
                                    show _ = _
                                    rw [← Hres.out, dfs_hit (i := i) (q := m) hir (by rw [rides_at]; exact HRok.out) hmN (by rw [rides_at]; exact HCo.out) HNo.out (by rw [rides_at]; exact HMo.out) HTry.out]; simp [extR]
                                  clear hn12
                                  go_wp2_with fail
                                  go_ret
                                  exact ⟨⟨_, rfl, by rw [HRes.out, ← HN.out]; exact HO12.out⟩, HB12.out⟩
                            · go_simp
                              obtain ⟨wQ, hwQ⟩ : ∃ wQ : World, wQ = World.alloc wE (.cells #[.int .i64 l.trip, .int .i64 l.frm, .int .i64 l.dst, .int .i64 l.dep, .int .i64 l.arr] 62) := ⟨_, rfl⟩
                              have rb : Below wb.heap.size wE wQ := by rw [hwQ]; exact ((Below.refl _ _).alloc (Nat.le_refl _) _).mono hzE
                              have hSQ : wQ.cell? ⟨xb, 0, none⟩ = some (.slice a t.net.stops.length c) ∧ wQ.cell? ⟨xb, 1, none⟩ = some (.slice a' t.net.lines.length c') ∧ wQ.cell? ⟨xb, 2, none⟩ = some (.slice (some ⟨tb, to_, none⟩) t.trips.length d) ∧ wQ.cell? ⟨xb, 3, none⟩ = some (.int .i64 ch) ∧ wQ.cell? ⟨xb, 4, none⟩ = some (.int .i64 too) ∧ wQ.cell? ⟨xb, 5, none⟩ = some (.int .i64 A) ∧ wQ.cell? ⟨w9.heap.size, 0, none⟩ = some (.int .i64 l.trip) ∧ wQ.cell? ⟨w9.heap.size, 1, none⟩ = some (.int .i64 l.frm) ∧ wQ.cell? ⟨w9.heap.size, 2, none⟩ = some (.int .i64 l.dst) ∧ wQ.cell? ⟨w9.heap.size, 3, none⟩ = some (.int .i64 l.dep) ∧ wQ.cell? ⟨w9.heap.size, 4, none⟩ = some (.int .i64 l.arr) := ⟨(rb.cell (by show xb < _; omega)).trans hSE.1, (rb.cell (by show xb < _; omega)).trans hSE.2.1, (rb.cell (by show xb < _; omega)).trans hSE.2.2.1, (rb.cell (by show xb < _; omega)).trans hSE.2.2.2.1, (rb.cell (by show xb < _; omega)).trans hSE.2.2.2.2.1, (rb.cell (by show xb < _; omega)).trans hSE.2.2.2.2.2.1, (rb.cell (by show w9.heap.size < _; omega)).trans hSE.2.2.2.2.2.2.1, (rb.cell (by show w9.heap.size < _; omega)).trans hSE.2.2.2.2.2.2.2.1, (rb.cell (by show w9.heap.size < _; omega)).trans hSE.2.2.2.2.2.2.2.2.1, (rb.cell (by show w9.heap.size < _; omega)).trans hSE.2.2.2.2.2.2.2.2.2.1, (rb.cell (by show w9.heap.size < _; omega)).trans hSE.2.2.2.2.2.2.2.2.2.2⟩
                              have HBQ : Hid (Below w.heap.size w wQ) := HBE.out.trans (rb.mono (by omega))
                              have hzQ : wb.heap.size ≤ wQ.heap.size := Nat.le_trans hzE rb.size
                              have hlQ : wE.heap.size < wQ.heap.size := by rw [hwQ]; simp
                              have HQQ : Hid (wQ.ownsRow wb.heap.size 62 5 (.slice (some ⟨wE.heap.size, 0, none⟩) 1 1) 1 (legC [l])) := by
                                rw [hwQ]
                                exact (World.ownsRow_lit (base := wb.heap.size) (e := 62) (size := 5) wE #[.int .i64 l.trip, .int .i64 l.frm, .int .i64 l.dst, .int .i64 l.dep, .int .i64 l.arr] 1 (by exact hzE) (by decide) (by simp))
                              have HRQ := Lib.hid (own_later HRE.out (show Below wE.heap.size wE wQ by rw [hwQ]; exact (Below.refl _ _).alloc (Nat.le_refl _) _))
                              rw [← hwQ]
                              clear rb hwQ
                              refine hK.out _ _ hSQ (fun hH4 => ?_)
                              clear hK K
                              try simp only [Act.put, List.setIfInBounds_toArray, List.set_cons_zero, List.set_cons_succ]
                              refine wpAnyH_ready (rs := [2]) (by kernel_rfl) (by simp) ?_
                              refine AllReadyH.cons (by simp only [List.getElem?_toArray, List.getElem?_cons_succ, List.getElem?_cons_zero]; rfl) (fun K hK => ?_) AllReadyH.nil
                              obtain ⟨vP, wP, hrun2, hown2, hgr2, hloc2⟩ := run_append_legs wQ wb.heap.size 0 _ [] HRQ.out lg lo_ lc used (HL.out.below rfl HBQ.out) (by omega) hzQ
                              have rb : Below wb.heap.size wQ wP := ⟨hgr2.os, hgr2.tape, hgr2.output, hgr2.size, fun q hq => hgr2.block q (by omega) (fun e => by have := (HRQ.out.lt q e.symm).1; omega)⟩
                              have hSP : wP.cell? ⟨xb, 0, none⟩ = some (.slice a t.net.stops.length c) ∧ wP.cell? ⟨xb, 1, none⟩ = some (.slice a' t.net.lines.length c') ∧ wP.cell? ⟨xb, 2, none⟩ = some (.slice (some ⟨tb, to_, none⟩) t.trips.length d) ∧ wP.cell? ⟨xb, 3, none⟩ = some (.int .i64 ch) ∧ wP.cell? ⟨xb, 4, none⟩ = some (.int .i64 too) ∧ wP.cell? ⟨xb, 5, none⟩ = some (.int .i64 A) ∧ wP.cell? ⟨w9.heap.size, 0, none⟩ = some (.int .i64 l.trip) ∧ wP.cell? ⟨w9.heap.size, 1, none⟩ = some (.int .i64 l.frm) ∧ wP.cell? ⟨w9.heap.size, 2, none⟩ = some (.int .i64 l.dst) ∧ wP.cell? ⟨w9.heap.size, 3, none⟩ = some (.int .i64 l.dep) ∧ wP.cell? ⟨w9.heap.size, 4, none⟩ = some (.int .i64 l.arr) := ⟨(rb.cell (by show xb < _; omega)).trans hSQ.1, (rb.cell (by show xb < _; omega)).trans hSQ.2.1, (rb.cell (by show xb < _; omega)).trans hSQ.2.2.1, (rb.cell (by show xb < _; omega)).trans hSQ.2.2.2.1, (rb.cell (by show xb < _; omega)).trans hSQ.2.2.2.2.1, (rb.cell (by show xb < _; omega)).trans hSQ.2.2.2.2.2.1, (rb.cell (by show w9.heap.size < _; omega)).trans hSQ.2.2.2.2.2.2.1, (rb.cell (by show w9.heap.size < _; omega)).trans hSQ.2.2.2.2.2.2.2.1, (rb.cell (by show w9.heap.size < _; omega)).trans hSQ.2.2.2.2.2.2.2.2.1, (rb.cell (by show w9.heap.size < _; omega)).trans hSQ.2.2.2.2.2.2.2.2.2.1, (rb.cell (by show w9.heap.size < _; omega)).trans hSQ.2.2.2.2.2.2.2.2.2.2⟩
                              have HBP : Hid (Below w.heap.size w wP) := HBQ.out.trans (rb.mono (by omega))
                              have hzP : wb.heap.size ≤ wP.heap.size := Nat.le_trans hzQ rb.size
                              have HRP : Hid (wP.ownsRow wb.heap.size 62 5 vP used.length (legC used)) := by
                                show World.ownsRow _ _ _ _ _ _ _
                                simpa using hown2
                              have HQP : Hid (wP.ownsRow wb.heap.size 62 5 (.slice (some ⟨wE.heap.size, 0, none⟩) 1 1) 1 (legC [l])) := HQQ.out.kept hgr2 (.inr (fun e => by simp [Value.ownBlock] at e; omega))
                              refine step_append_run rfl (.tmp 135) (.tmp 136) 30 rfl rfl rfl hrun2 ?_
                              clear hrun2 hown2 hgr2 hloc2 rb
                              refine hK.out _ _ hSP (fun hH2 => ?_)
                              clear hK K
                              try simp only [Act.put, List.setIfInBounds_toArray, List.set_cons_zero, List.set_cons_succ]
                              refine wpAnyH_ready (rs := [5]) (by kernel_rfl) (by simp) ?_
                              refine AllReadyH.cons (by simp only [List.getElem?_toArray, List.getElem?_cons_succ, List.getElem?_cons_zero]; rfl) (fun K hK => ?_) AllReadyH.nil
                              obtain ⟨vR, wR, hrun5, hown5, hgr5, hloc5⟩ := run_append_legs wP wb.heap.size used.length vP used HRP.out wE.heap.size 0 1 [l] (legsAt_own (xs := [l]) HQP.out) (by simp; omega) hzP
                              have rb : Below wb.heap.size wP wR := ⟨hgr5.os, hgr5.tape, hgr5.output, hgr5.size, fun q hq => hgr5.block q (by omega) (fun e => by have := (HRP.out.lt q e.symm).1; omega)⟩
                              have hSR : wR.cell? ⟨xb, 0, none⟩ = some (.slice a t.net.stops.length c) ∧ wR.cell? ⟨xb, 1, none⟩ = some (.slice a' t.net.lines.length c') ∧ wR.cell? ⟨xb, 2, none⟩ = some (.slice (some ⟨tb, to_, none⟩) t.trips.length d) ∧ wR.cell? ⟨xb, 3, none⟩ = some (.int .i64 ch) ∧ wR.cell? ⟨xb, 4, none⟩ = some (.int .i64 too) ∧ wR.cell? ⟨xb, 5, none⟩ = some (.int .i64 A) ∧ wR.cell? ⟨w9.heap.size, 0, none⟩ = some (.int .i64 l.trip) ∧ wR.cell? ⟨w9.heap.size, 1, none⟩ = some (.int .i64 l.frm) ∧ wR.cell? ⟨w9.heap.size, 2, none⟩ = some (.int .i64 l.dst) ∧ wR.cell? ⟨w9.heap.size, 3, none⟩ = some (.int .i64 l.dep) ∧ wR.cell? ⟨w9.heap.size, 4, none⟩ = some (.int .i64 l.arr) := ⟨(rb.cell (by show xb < _; omega)).trans hSP.1, (rb.cell (by show xb < _; omega)).trans hSP.2.1, (rb.cell (by show xb < _; omega)).trans hSP.2.2.1, (rb.cell (by show xb < _; omega)).trans hSP.2.2.2.1, (rb.cell (by show xb < _; omega)).trans hSP.2.2.2.2.1, (rb.cell (by show xb < _; omega)).trans hSP.2.2.2.2.2.1, (rb.cell (by show w9.heap.size < _; omega)).trans hSP.2.2.2.2.2.2.1, (rb.cell (by show w9.heap.size < _; omega)).trans hSP.2.2.2.2.2.2.2.1, (rb.cell (by show w9.heap.size < _; omega)).trans hSP.2.2.2.2.2.2.2.2.1, (rb.cell (by show w9.heap.size < _; omega)).trans hSP.2.2.2.2.2.2.2.2.2.1, (rb.cell (by show w9.heap.size < _; omega)).trans hSP.2.2.2.2.2.2.2.2.2.2⟩
                              have HBR : Hid (Below w.heap.size w wR) := HBP.out.trans (rb.mono (by omega))
                              have hzR : wb.heap.size ≤ wR.heap.size := Nat.le_trans hzP rb.size
                              have HRR : Hid (wR.ownsRow wb.heap.size 62 5 vR (used ++ [l]).length (legC (used ++ [l]))) := by
                                show World.ownsRow _ _ _ _ _ _ _
                                simpa using hown5
                              simp only [List.length_singleton] at hrun5
                              refine step_append_run rfl (.tmp 137) (.tmp 139) 30 rfl rfl rfl hrun5 ?_
                              clear hrun5 hown5 hgr5 hloc5 rb
                              refine hK.out _ _ hSR (fun hH5 => ?_)
                              clear hK K
                              try simp only [Act.put, List.setIfInBounds_toArray, List.set_cons_zero, List.set_cons_succ]
                              refine wpAnyH_take (i := 6) (v := ?_) (by simp only [List.getElem?_toArray, List.getElem?_cons_succ, List.getElem?_cons_zero]; rfl) (by kernel_rfl) (by kernel_rfl) (by kernel_rfl) (by exact fun _ _ _ h => h) (Or.inl ⟨by rfl, ?_⟩) (by assumption) ?_
                              rotate_left
                              · intro w' hSw; obtain ⟨e0, e1, e2, e3, e4, e5, e6, e7, e8, e9, e10⟩ := hSw
                                go_simp; try with_reducible rfl
                              try simp only [Act.put, List.setIfInBounds_toArray, List.set_cons_zero, List.set_cons_succ]
                              refine wpAnyH_done (by kernel_rfl) ?_ _
                              obtain ⟨s0, s1, s2, s3, s4, s5, -, -, -, -, s10⟩ := hSR
                              clear hH0 hH2 hH4 hH5
                              obtain ⟨g9, c9, rfl⟩ : ∃ g9 c9, vR = .slice (some ⟨g9, 0, none⟩) (used ++ [l]).length c9 := by
                                rcases HRR.out.2 with ⟨hv, h0'⟩ | ⟨g9, cap9, cur9, hv, _⟩
                                · simp at h0'
                                · exact ⟨g9, cap9, hv⟩
                              by_cases hk0 : k = 0
                              · have hkb : ((k : Int) + 1 == 1) = true := by simp [hk0]
                                have HK0 := Lib.hid hk0
                                clear hk0
                                by_cases hmt : (m : Int) = too
                                · have hmb : ((m : Int) == too) = true := by simp [hmt]
                                  by_cases hla : l.arr = A
                                  · have hlb : (l.arr == A) = true := by simp [hla]
                                    have HTry : Hid (tryF (candsF t.net.stops.length (rides t) A) ch too A k used l = some [l]) := by show _ = _; unfold tryF; rw [if_pos HK0.out, if_pos ⟨HDst.out.trans hmt, hla⟩]
                                    have HRes : Hid (res = used ++ [l]) := by
                                      show _ = _
                                      rw [← Hres.out, dfs_hit (i := i) (q := m) hir (by rw [rides_at]; exact HRok.out) hmN (by rw [rides_at]; exact HCo.out) HNo.out (by rw [rides_at]; exact HMo.out) HTry.out]; rfl
                                    clear hmt hla
                                    go_wp2_with fail
                                    go_quiet (fail)
                                    go_wp2_with fail
                                    go_ret
                                    exact ⟨⟨_, rfl, by rw [HRes.out]; exact own_base (own_later HRR.out (Dr.below ⟨_, rfl⟩)) hwl⟩, HBR.out.trans ((Dr.below ⟨_, rfl⟩).mono HBR.out.size)⟩
                                  · have hlb : (l.arr == A) = false := by simp [hla]
                                    have HTry : Hid (tryF (candsF t.net.stops.length (rides t) A) ch too A k used l = none) := by show _ = _; unfold tryF; rw [if_pos HK0.out, if_neg (fun h => hla h.2)]
                                    have HMn : Hid (∀ x ∈ candT A (rideOf t t.trips[i]) s (m + 1), tryF (candsF t.net.stops.length (rides t) A) ch too A k used x = none) := by
                                      show ∀ x ∈ _, _
                                      rw [candT_succ, HCo.out, Option.toList_some]
                                      intro x hx
                                      rcases List.mem_append.1 hx with hx | hx
                                      · exact HMo.out x hx
                                      · rw [List.mem_singleton.1 hx]; exact HTry.out
                                    clear hmt hla
                                    go_wp2_with fail
                                    go_quiet (fail)
                                    go_wp2_with fail
                                    exact ⟨⟨m + 1, by omega, by go_num, HMn, bkeep (Dr.below ⟨_, rfl⟩) s0, bkeep (Dr.below ⟨_, rfl⟩) s1, bkeep (Dr.below ⟨_, rfl⟩) s2, bkeep (Dr.below ⟨_, rfl⟩) s3, bkeep (Dr.below ⟨_, rfl⟩) s4, bkeep (Dr.below ⟨_, rfl⟩) s5, HBR.out.trans ((Dr.below ⟨_, rfl⟩).mono HBR.out.size)⟩, by simp [RowKit.intOf]; omega⟩
                                · have hmb : ((m : Int) == too) = false := by simp [hmt]
                                  have HTry : Hid (tryF (candsF t.net.stops.length (rides t) A) ch too A k used l = none) := by show _ = _; unfold tryF; rw [if_pos HK0.out, if_neg (fun h => hmt (HDst.out.symm.trans h.1))]
                                  have HMn : Hid (∀ x ∈ candT A (rideOf t t.trips[i]) s (m + 1), tryF (candsF t.net.stops.length (rides t) A) ch too A k used x = none) := by
                                    show ∀ x ∈ _, _
                                    rw [candT_succ, HCo.out, Option.toList_some]
                                    intro x hx
                                    rcases List.mem_append.1 hx with hx | hx
                                    · exact HMo.out x hx
                                    · rw [List.mem_singleton.1 hx]; exact HTry.out
                                  clear hmt
                                  go_wp2_with fail
                                  go_quiet (fail)
                                  go_wp2_with fail
                                  exact ⟨⟨m + 1, by omega, by go_num, HMn, bkeep (Dr.below ⟨_, rfl⟩) s0, bkeep (Dr.below ⟨_, rfl⟩) s1, bkeep (Dr.below ⟨_, rfl⟩) s2, bkeep (Dr.below ⟨_, rfl⟩) s3, bkeep (Dr.below ⟨_, rfl⟩) s4, bkeep (Dr.below ⟨_, rfl⟩) s5, HBR.out.trans ((Dr.below ⟨_, rfl⟩).mono HBR.out.size)⟩, by simp [RowKit.intOf]; omega⟩
                              · have hkb : ((k : Int) + 1 == 1) = false := by simp; omega
                                have HCall := Lib.hid (HIH.out hk0)
                                unfold ExtOk at HCall
                                have HK0 := Lib.hid hk0
                                clear hk0
                                obtain ⟨D, HD⟩ : ∃ D, Hid (dfsF (candsF t.net.stops.length (rides t) A) ch too A k (used ++ [l]) (m : Int) (l.arr + ch) = D) := ⟨_, rfl⟩
                                obtain ⟨n12, HN12⟩ : ∃ n12, Hid ((extR (used ++ [l]) D).length = n12) := ⟨_, rfl⟩
                                have hwk : IntKind.i64.wrap (k : Int) = (k : Int) := IntWalk.i64_in _ (by omega)
                                have hwk1 : IntKind.i64.wrap ((k : Int) + 1 - 1) = (k : Int) := by rw [IntWalk.i64_in _ (by omega)]; omega
                                have hwa : IntKind.i64.wrap (l.arr + ch) = l.arr + ch := IntWalk.i64_in _ (by have := HLa.out; omega)
                                go_wp2_with fail
                                refine wp_region_held_drew (S := (fun w' => w'.cell? ⟨xb, 0, none⟩ = some (.slice a t.net.stops.length c) ∧ w'.cell? ⟨xb, 1, none⟩ = some (.slice a' t.net.lines.length c') ∧ w'.cell? ⟨xb, 2, none⟩ = some (.slice (some ⟨tb, to_, none⟩) t.trips.length d) ∧ w'.cell? ⟨xb, 3, none⟩ = some (.int .i64 ch) ∧ w'.cell? ⟨xb, 4, none⟩ = some (.int .i64 too) ∧ w'.cell? ⟨xb, 5, none⟩ = some (.int .i64 A) ∧ w'.cell? ⟨w9.heap.size, 4, none⟩ = some (.int .i64 l.arr))) (by kernel_rfl) ?_ (fun hHeld => ?_)
                                · exact ⟨s0, s1, s2, s3, s4, s5, s10⟩
                                refine wpAnyH_take (i := 0) (v := ?_) (by simp only [List.getElem?_toArray, List.getElem?_cons_zero]; rfl) (by kernel_rfl) (by kernel_rfl) (by kernel_rfl) (by exact fun _ _ _ h => h) (Or.inl ⟨by rfl, ?_⟩) (by assumption) ?_
                                rotate_left
                                · intro w' hSw; obtain ⟨e0, e1, e2, e3, e4, e5, e6⟩ := hSw
                                  go_simp; try with_reducible rfl
                                try simp only [Act.put, List.setIfInBounds_toArray, List.set_cons_zero, List.set_cons_succ]
                                refine wpAnyH_take (i := 1) (v := ?_) (by simp only [List.getElem?_toArray, List.getElem?_cons_succ, List.getElem?_cons_zero]; rfl) (by kernel_rfl) (by kernel_rfl) (by kernel_rfl) (by exact fun _ _ _ h => h) (Or.inl ⟨by rfl, ?_⟩) (by assumption) ?_
                                rotate_left
                                · intro w' hSw; obtain ⟨e0, e1, e2, e3, e4, e5, e6⟩ := hSw
                                  go_simp; try with_reducible rfl
                                try simp only [Act.put, List.setIfInBounds_toArray, List.set_cons_zero, List.set_cons_succ]
                                refine wpAnyH_take (i := 2) (v := ?_) (by simp only [List.getElem?_toArray, List.getElem?_cons_succ, List.getElem?_cons_zero]; rfl) (by kernel_rfl) (by kernel_rfl) (by kernel_rfl) (by exact fun _ _ _ h => h) (Or.inl ⟨by rfl, ?_⟩) (by assumption) ?_
                                rotate_left
                                · intro w' hSw; obtain ⟨e0, e1, e2, e3, e4, e5, e6⟩ := hSw
                                  go_simp; try with_reducible rfl
                                try simp only [Act.put, List.setIfInBounds_toArray, List.set_cons_zero, List.set_cons_succ]
                                refine wpAnyH_take (i := 3) (v := ?_) (by simp only [List.getElem?_toArray, List.getElem?_cons_succ, List.getElem?_cons_zero]; rfl) (by kernel_rfl) (by kernel_rfl) (by kernel_rfl) (by exact fun _ _ _ h => h) (Or.inl ⟨by rfl, ?_⟩) (by assumption) ?_
                                rotate_left
                                · intro w' hSw; obtain ⟨e0, e1, e2, e3, e4, e5, e6⟩ := hSw
                                  go_simp; try with_reducible rfl
                                try simp only [Act.put, List.setIfInBounds_toArray, List.set_cons_zero, List.set_cons_succ]
                                refine wpAnyH_take (i := 4) (v := ?_) (by simp only [List.getElem?_toArray, List.getElem?_cons_succ, List.getElem?_cons_zero]; rfl) (by kernel_rfl) (by kernel_rfl) (by kernel_rfl) (by exact fun _ _ _ h => h) (Or.inl ⟨by rfl, ?_⟩) (by assumption) ?_
                                rotate_left
                                · intro w' hSw; obtain ⟨e0, e1, e2, e3, e4, e5, e6⟩ := hSw
                                  go_simp; try with_reducible rfl
                                try simp only [Act.put, List.setIfInBounds_toArray, List.set_cons_zero, List.set_cons_succ]
                                refine wpAnyH_take (i := 5) (v := ?_) (by simp only [List.getElem?_toArray, List.getElem?_cons_succ, List.getElem?_cons_zero]; rfl) (by kernel_rfl) (by kernel_rfl) (by kernel_rfl) (by exact fun _ _ _ h => h) (Or.inl ⟨by rfl, ?_⟩) (by assumption) ?_
                                rotate_left
                                · intro w' hSw; obtain ⟨e0, e1, e2, e3, e4, e5, e6⟩ := hSw
                                  go_simp; try with_reducible rfl
                                try simp only [Act.put, List.setIfInBounds_toArray, List.set_cons_zero, List.set_cons_succ]
                                refine wpAnyH_take (i := 6) (v := ?_) (by simp only [List.getElem?_toArray, List.getElem?_cons_succ, List.getElem?_cons_zero]; rfl) (by kernel_rfl) (by kernel_rfl) (by kernel_rfl) (by exact fun _ _ _ h => h) (Or.inl ⟨by rfl, ?_⟩) (by assumption) ?_
                                rotate_left
                                · intro w' hSw; obtain ⟨e0, e1, e2, e3, e4, e5, e6⟩ := hSw
                                  go_simp; try with_reducible rfl
                                try simp only [Act.put, List.setIfInBounds_toArray, List.set_cons_zero, List.set_cons_succ]
                                refine wpAnyH_take (i := 7) (v := ?_) (by simp only [List.getElem?_toArray, List.getElem?_cons_succ, List.getElem?_cons_zero]; rfl) (by kernel_rfl) (by kernel_rfl) (by kernel_rfl) (by exact fun _ _ _ h => h) (Or.inl ⟨by rfl, ?_⟩) (by assumption) ?_
                                rotate_left
                                · intro w' hSw; obtain ⟨e0, e1, e2, e3, e4, e5, e6⟩ := hSw
                                  go_simp; try with_reducible rfl
                                try simp only [Act.put, List.setIfInBounds_toArray, List.set_cons_zero, List.set_cons_succ]
                                refine wpAnyH_take (i := 8) (v := ?_) (by simp only [List.getElem?_toArray, List.getElem?_cons_succ, List.getElem?_cons_zero]; rfl) (by kernel_rfl) (by kernel_rfl) (by kernel_rfl) (by exact fun _ _ _ h => h) (Or.inl ⟨by rfl, ?_⟩) (by assumption) ?_
                                rotate_left
                                · intro w' hSw; obtain ⟨e0, e1, e2, e3, e4, e5, e6⟩ := hSw
                                  go_simp; try with_reducible rfl
                                try simp only [Act.put, List.setIfInBounds_toArray, List.set_cons_zero, List.set_cons_succ]
                                refine wpAnyH_take (i := 9) (v := ?_) (by simp only [List.getElem?_toArray, List.getElem?_cons_succ, List.getElem?_cons_zero]; rfl) (by kernel_rfl) (by kernel_rfl) (by kernel_rfl) (by exact fun _ _ _ h => h) (Or.inl ⟨by rfl, ?_⟩) (by assumption) ?_
                                rotate_left
                                · intro w' hSw; obtain ⟨e0, e1, e2, e3, e4, e5, e6⟩ := hSw
                                  go_simp; try with_reducible rfl
                                try simp only [Act.put, List.setIfInBounds_toArray, List.set_cons_zero, List.set_cons_succ]
                                refine wpAnyH_take (i := 10) (v := ?_) (by simp only [List.getElem?_toArray, List.getElem?_cons_succ, List.getElem?_cons_zero]; rfl) (by kernel_rfl) (by kernel_rfl) (by kernel_rfl) (by exact fun _ _ _ h => h) (Or.inl ⟨by rfl, ?_⟩) (by assumption) ?_
                                rotate_left
                                · intro w' hSw; obtain ⟨e0, e1, e2, e3, e4, e5, e6⟩ := hSw
                                  go_simp; try with_reducible rfl
                                try simp only [Act.put, List.setIfInBounds_toArray, List.set_cons_zero, List.set_cons_succ]
                                refine wpAnyH_take (i := 11) (v := ?_) (by simp only [List.getElem?_toArray, List.getElem?_cons_succ, List.getElem?_cons_zero]; rfl) (by kernel_rfl) (by kernel_rfl) (by kernel_rfl) (by exact fun _ _ _ h => h) (Or.inl ⟨by rfl, ?_⟩) (by assumption) ?_
                                rotate_left
                                · intro w' hSw; obtain ⟨e0, e1, e2, e3, e4, e5, e6⟩ := hSw
                                  go_simp; try with_reducible rfl
                                try simp only [Act.put, List.setIfInBounds_toArray, List.set_cons_zero, List.set_cons_succ]
                                refine wpAnyH_ready (rs := [12]) (by kernel_rfl) (by simp) ?_
                                refine AllReadyH.cons (by simp only [List.getElem?_toArray, List.getElem?_cons_succ, List.getElem?_cons_zero]; rfl) (fun K hK => ?_) AllReadyH.nil
                                go_simp
                                go_at_call 123
                                have HX := HCall.out wR.drew g9 0 c9 (used ++ [l]) (m : Int) (l.arr + ch) (HTT.out.below rfl HBR.out.drew) ⟨hHeld.1, hHeld.2.1, hHeld.2.2.1, hHeld.2.2.2.1, hHeld.2.2.2.2.1, hHeld.2.2.2.2.2.1⟩ (legsAt_own (own_later HRR.out (Below.refl _ _).drew)) (by simp; omega)
                                simp only [List.length_append, List.length_singleton] at HX
                                refine HX.mono ?_
                                clear HX
                                rintro e w12 ⟨⟨v12, rfl, hown12⟩, hb12⟩
                                rw [HD.out, HN12.out] at hown12
                                obtain ⟨a12, c12, rfl⟩ := own_shape hown12
                                have rb : Below wR.heap.size wR w12 := (Below.refl _ _).drew.trans hb12
                                have hS12 : w12.cell? ⟨xb, 0, none⟩ = some (.slice a t.net.stops.length c) ∧ w12.cell? ⟨xb, 1, none⟩ = some (.slice a' t.net.lines.length c') ∧ w12.cell? ⟨xb, 2, none⟩ = some (.slice (some ⟨tb, to_, none⟩) t.trips.length d) ∧ w12.cell? ⟨xb, 3, none⟩ = some (.int .i64 ch) ∧ w12.cell? ⟨xb, 4, none⟩ = some (.int .i64 too) ∧ w12.cell? ⟨xb, 5, none⟩ = some (.int .i64 A) ∧ w12.cell? ⟨w9.heap.size, 4, none⟩ = some (.int .i64 l.arr) := ⟨bkeep rb s0, bkeep rb s1, bkeep rb s2, bkeep rb s3, bkeep rb s4, bkeep rb s5, bkeep rb s10⟩
                                have HB12 : Hid (Below w.heap.size w w12) := HBR.out.trans (rb.mono HBR.out.size)
                                have HO12 : Hid (w12.ownsRow w.heap.size 62 5 (.slice a12 n12 c12) n12 (legC (extR (used ++ [l]) D))) := own_base hown12 (show w.heap.size ≤ wR.heap.size from HBR.out.size)
                                clear hown12 hb12 rb
                                go_wp2_with fail
                                refine hK.out _ _ hS12 (fun hH12 => ?_)
                                clear hK K
                                try simp only [Act.put, List.setIfInBounds_toArray, List.set_cons_zero, List.set_cons_succ]
                                refine wpAnyH_take (i := 13) (v := ?_) (by simp only [List.getElem?_toArray, List.getElem?_cons_succ, List.getElem?_cons_zero]; rfl) (by kernel_rfl) (by kernel_rfl) (by kernel_rfl) (by exact fun _ _ _ h => h) (Or.inl ⟨by rfl, ?_⟩) (by assumption) ?_
                                rotate_left
                                · intro w' hSw; obtain ⟨e0, e1, e2, e3, e4, e5, e6⟩ := hSw
                                  go_simp; try with_reducible rfl
                                try simp only [Act.put, List.setIfInBounds_toArray, List.set_cons_zero, List.set_cons_succ]
                                refine wpAnyH_done (by kernel_rfl) ?_ _
                                obtain ⟨q0, q1, q2, q3, q4, q5, -⟩ := hS12
                                clear hH12
                                cases D with
                                | none =>
                                  obtain rfl : n12 = 0 := HN12.out.symm
                                  have HTry : Hid (tryF (candsF t.net.stops.length (rides t) A) ch too A k used l = none) := by show _ = _; unfold tryF; rw [if_neg HK0.out, HDst.out, HD.out]; rfl
                                  have HMn : Hid (∀ x ∈ candT A (rideOf t t.trips[i]) s (m + 1), tryF (candsF t.net.stops.length (rides t) A) ch too A k used x = none) := by
                                    show ∀ x ∈ _, _
                                    rw [candT_succ, HCo.out, Option.toList_some]
                                    intro x hx
                                    rcases List.mem_append.1 hx with hx | hx
                                    · exact HMo.out x hx
                                    · rw [List.mem_singleton.1 hx]; exact HTry.out
                                  go_wp2_with fail
                                  exact ⟨⟨m + 1, by omega, by go_num, HMn, q0, q1, q2, q3, q4, q5, HB12⟩, by simp [RowKit.intOf]; omega⟩
                                | some c' =>
                                  have hn12 : n12 = ((used ++ [l]) ++ c').length := HN12.out.symm
                                  have hpos : (0 : Int) < (n12 : Int) := by rw [hn12]; simp; omega
                                  have HN := Lib.hid hn12
                                  have HTry : Hid (tryF (candsF t.net.stops.length (rides t) A) ch too A k used l = some (l :: c')) := by show _ = _; unfold tryF; rw [if_neg HK0.out, HDst.out, HD.out]; rfl
                                  have HRes : Hid (res = (used ++ [l]) ++ c') := by
                                    show _ = _
                                    rw [← Hres.out, dfs_hit (i := i) (q := m) hir (by rw [rides_at]; exact HRok.out) hmN (by rw [rides_at]; exact HCo.out) HNo.out (by rw [rides_at]; exact HMo.out) HTry.out]; simp [extR]
                                  clear hn12
                                  go_wp2_with fail
                                  go_ret
                                  exact ⟨⟨_, rfl, by rw [HRes.out, ← HN.out]; exact HO12.out⟩, HB12.out⟩
                          · go_simp
                            obtain ⟨wQ, hwQ⟩ : ∃ wQ : World, wQ = (World.alloc wb (.cells #[.int .i64 l.trip, .int .i64 l.frm, .int .i64 l.dst, .int .i64 l.dep, .int .i64 l.arr] 62)).drew := ⟨_, rfl⟩
                            have rb : Below wb.heap.size wb wQ := by rw [hwQ]; exact ((Below.refl _ _).alloc (Nat.le_refl _) _).drew
                            have hSQ : wQ.cell? ⟨xb, 0, none⟩ = some (.slice a t.net.stops.length c) ∧ wQ.cell? ⟨xb, 1, none⟩ = some (.slice a' t.net.lines.length c') ∧ wQ.cell? ⟨xb, 2, none⟩ = some (.slice (some ⟨tb, to_, none⟩) t.trips.length d) ∧ wQ.cell? ⟨xb, 3, none⟩ = some (.int .i64 ch) ∧ wQ.cell? ⟨xb, 4, none⟩ = some (.int .i64 too) ∧ wQ.cell? ⟨xb, 5, none⟩ = some (.int .i64 A) ∧ wQ.cell? ⟨w9.heap.size, 0, none⟩ = some (.int .i64 l.trip) ∧ wQ.cell? ⟨w9.heap.size, 1, none⟩ = some (.int .i64 l.frm) ∧ wQ.cell? ⟨w9.heap.size, 2, none⟩ = some (.int .i64 l.dst) ∧ wQ.cell? ⟨w9.heap.size, 3, none⟩ = some (.int .i64 l.dep) ∧ wQ.cell? ⟨w9.heap.size, 4, none⟩ = some (.int .i64 l.arr) := ⟨(rb.cell (by show xb < _; omega)).trans hSb.1, (rb.cell (by show xb < _; omega)).trans hSb.2.1, (rb.cell (by show xb < _; omega)).trans hSb.2.2.1, (rb.cell (by show xb < _; omega)).trans hSb.2.2.2.1, (rb.cell (by show xb < _; omega)).trans hSb.2.2.2.2.1, (rb.cell (by show xb < _; omega)).trans hSb.2.2.2.2.2.1, (rb.cell (by show w9.heap.size < _; omega)).trans hSb.2.2.2.2.2.2.1, (rb.cell (by show w9.heap.size < _; omega)).trans hSb.2.2.2.2.2.2.2.1, (rb.cell (by show w9.heap.size < _; omega)).trans hSb.2.2.2.2.2.2.2.2.1, (rb.cell (by show w9.heap.size < _; omega)).trans hSb.2.2.2.2.2.2.2.2.2.1, (rb.cell (by show w9.heap.size < _; omega)).trans hSb.2.2.2.2.2.2.2.2.2.2⟩
                            have HBQ : Hid (Below w.heap.size w wQ) := HBb.out.trans (rb.mono (by omega))
                            have hzQ : wb.heap.size ≤ wQ.heap.size := Nat.le_trans hzb rb.size
                            have hlQ : wb.heap.size < wQ.heap.size := by rw [hwQ]; simp
                            have HQQ : Hid (wQ.ownsRow wb.heap.size 62 5 (.slice (some ⟨wb.heap.size, 0, none⟩) 1 1) 1 (legC [l])) := by
                              rw [hwQ]
                              exact own_later (World.ownsRow_lit (base := wb.heap.size) (e := 62) (size := 5) wb #[.int .i64 l.trip, .int .i64 l.frm, .int .i64 l.dst, .int .i64 l.dep, .int .i64 l.arr] 1 (by exact Nat.le_refl _) (by decide) (by simp)) (Below.refl _ _).drew
                            rw [← hwQ]
                            clear rb hwQ
                            refine hK.out _ _ hSQ (fun hH4 => ?_)
                            clear hK K
                            try simp only [Act.put, List.setIfInBounds_toArray, List.set_cons_zero, List.set_cons_succ]
                            refine wpAnyH_ready (rs := [0]) (by kernel_rfl) (by simp) ?_
                            refine AllReadyH.cons (by simp only [List.getElem?_toArray, List.getElem?_cons_zero]; rfl) (fun K hK => ?_) AllReadyH.nil
                            go_simp
                            obtain ⟨wE, hwE⟩ : ∃ wE : World, wE = World.alloc wQ (.cells #[] 62) := ⟨_, rfl⟩
                            have rb : Below wb.heap.size wQ wE := by rw [hwE]; exact ((Below.refl _ _).alloc (Nat.le_refl _) _).mono hzQ
                            have hSE : wE.cell? ⟨xb, 0, none⟩ = some (.slice a t.net.stops.length c) ∧ wE.cell? ⟨xb, 1, none⟩ = some (.slice a' t.net.lines.length c') ∧ wE.cell? ⟨xb, 2, none⟩ = some (.slice (some ⟨tb, to_, none⟩) t.trips.length d) ∧ wE.cell? ⟨xb, 3, none⟩ = some (.int .i64 ch) ∧ wE.cell? ⟨xb, 4, none⟩ = some (.int .i64 too) ∧ wE.cell? ⟨xb, 5, none⟩ = some (.int .i64 A) ∧ wE.cell? ⟨w9.heap.size, 0, none⟩ = some (.int .i64 l.trip) ∧ wE.cell? ⟨w9.heap.size, 1, none⟩ = some (.int .i64 l.frm) ∧ wE.cell? ⟨w9.heap.size, 2, none⟩ = some (.int .i64 l.dst) ∧ wE.cell? ⟨w9.heap.size, 3, none⟩ = some (.int .i64 l.dep) ∧ wE.cell? ⟨w9.heap.size, 4, none⟩ = some (.int .i64 l.arr) := ⟨(rb.cell (by show xb < _; omega)).trans hSQ.1, (rb.cell (by show xb < _; omega)).trans hSQ.2.1, (rb.cell (by show xb < _; omega)).trans hSQ.2.2.1, (rb.cell (by show xb < _; omega)).trans hSQ.2.2.2.1, (rb.cell (by show xb < _; omega)).trans hSQ.2.2.2.2.1, (rb.cell (by show xb < _; omega)).trans hSQ.2.2.2.2.2.1, (rb.cell (by show w9.heap.size < _; omega)).trans hSQ.2.2.2.2.2.2.1, (rb.cell (by show w9.heap.size < _; omega)).trans hSQ.2.2.2.2.2.2.2.1, (rb.cell (by show w9.heap.size < _; omega)).trans hSQ.2.2.2.2.2.2.2.2.1, (rb.cell (by show w9.heap.size < _; omega)).trans hSQ.2.2.2.2.2.2.2.2.2.1, (rb.cell (by show w9.heap.size < _; omega)).trans hSQ.2.2.2.2.2.2.2.2.2.2⟩
                            have HBE : Hid (Below w.heap.size w wE) := HBQ.out.trans (rb.mono (by omega))
                            have hzE : wb.heap.size ≤ wE.heap.size := Nat.le_trans hzQ rb.size
                            have hlE : wQ.heap.size < wE.heap.size := by rw [hwE]; simp
                            have HRE : Hid (wE.ownsRow wb.heap.size 62 5 (.slice (some ⟨wQ.heap.size, 0, none⟩) 0 0) 0 (legC [])) := by
                              rw [hwE]
                              exact legs_new wQ wb.heap.size hzQ
                            have HQE := Lib.hid (own_later HQQ.out (show Below wQ.heap.size wQ wE by rw [hwE]; exact (Below.refl _ _).alloc (Nat.le_refl _) _))
                            rw [← hwE]
                            clear rb hwE
                            refine hK.out _ _ hSE (fun hH0 => ?_)
                            clear hK K
                            try simp only [Act.put, List.setIfInBounds_toArray, List.set_cons_zero, List.set_cons_succ]
                            refine wpAnyH_ready (rs := [2]) (by kernel_rfl) (by simp) ?_
                            refine AllReadyH.cons (by simp only [List.getElem?_toArray, List.getElem?_cons_succ, List.getElem?_cons_zero]; rfl) (fun K hK => ?_) AllReadyH.nil
                            obtain ⟨vP, wP, hrun2, hown2, hgr2, hloc2⟩ := run_append_legs wE wb.heap.size 0 _ [] HRE.out lg lo_ lc used (HL.out.below rfl HBE.out) (by omega) hzE
                            have rb : Below wb.heap.size wE wP := ⟨hgr2.os, hgr2.tape, hgr2.output, hgr2.size, fun q hq => hgr2.block q (by omega) (fun e => by have := (HRE.out.lt q e.symm).1; omega)⟩
                            have hSP : wP.cell? ⟨xb, 0, none⟩ = some (.slice a t.net.stops.length c) ∧ wP.cell? ⟨xb, 1, none⟩ = some (.slice a' t.net.lines.length c') ∧ wP.cell? ⟨xb, 2, none⟩ = some (.slice (some ⟨tb, to_, none⟩) t.trips.length d) ∧ wP.cell? ⟨xb, 3, none⟩ = some (.int .i64 ch) ∧ wP.cell? ⟨xb, 4, none⟩ = some (.int .i64 too) ∧ wP.cell? ⟨xb, 5, none⟩ = some (.int .i64 A) ∧ wP.cell? ⟨w9.heap.size, 0, none⟩ = some (.int .i64 l.trip) ∧ wP.cell? ⟨w9.heap.size, 1, none⟩ = some (.int .i64 l.frm) ∧ wP.cell? ⟨w9.heap.size, 2, none⟩ = some (.int .i64 l.dst) ∧ wP.cell? ⟨w9.heap.size, 3, none⟩ = some (.int .i64 l.dep) ∧ wP.cell? ⟨w9.heap.size, 4, none⟩ = some (.int .i64 l.arr) := ⟨(rb.cell (by show xb < _; omega)).trans hSE.1, (rb.cell (by show xb < _; omega)).trans hSE.2.1, (rb.cell (by show xb < _; omega)).trans hSE.2.2.1, (rb.cell (by show xb < _; omega)).trans hSE.2.2.2.1, (rb.cell (by show xb < _; omega)).trans hSE.2.2.2.2.1, (rb.cell (by show xb < _; omega)).trans hSE.2.2.2.2.2.1, (rb.cell (by show w9.heap.size < _; omega)).trans hSE.2.2.2.2.2.2.1, (rb.cell (by show w9.heap.size < _; omega)).trans hSE.2.2.2.2.2.2.2.1, (rb.cell (by show w9.heap.size < _; omega)).trans hSE.2.2.2.2.2.2.2.2.1, (rb.cell (by show w9.heap.size < _; omega)).trans hSE.2.2.2.2.2.2.2.2.2.1, (rb.cell (by show w9.heap.size < _; omega)).trans hSE.2.2.2.2.2.2.2.2.2.2⟩
                            have HBP : Hid (Below w.heap.size w wP) := HBE.out.trans (rb.mono (by omega))
                            have hzP : wb.heap.size ≤ wP.heap.size := Nat.le_trans hzE rb.size
                            have HRP : Hid (wP.ownsRow wb.heap.size 62 5 vP used.length (legC used)) := by
                              show World.ownsRow _ _ _ _ _ _ _
                              simpa using hown2
                            have HQP : Hid (wP.ownsRow wb.heap.size 62 5 (.slice (some ⟨wb.heap.size, 0, none⟩) 1 1) 1 (legC [l])) := HQE.out.kept hgr2 (.inr (fun e => by simp [Value.ownBlock] at e; omega))
                            refine step_append_run rfl (.tmp 135) (.tmp 136) 30 rfl rfl rfl hrun2 ?_
                            clear hrun2 hown2 hgr2 hloc2 rb
                            refine hK.out _ _ hSP (fun hH2 => ?_)
                            clear hK K
                            try simp only [Act.put, List.setIfInBounds_toArray, List.set_cons_zero, List.set_cons_succ]
                            refine wpAnyH_ready (rs := [5]) (by kernel_rfl) (by simp) ?_
                            refine AllReadyH.cons (by simp only [List.getElem?_toArray, List.getElem?_cons_succ, List.getElem?_cons_zero]; rfl) (fun K hK => ?_) AllReadyH.nil
                            obtain ⟨vR, wR, hrun5, hown5, hgr5, hloc5⟩ := run_append_legs wP wb.heap.size used.length vP used HRP.out wb.heap.size 0 1 [l] (legsAt_own (xs := [l]) HQP.out) (by simp; omega) hzP
                            have rb : Below wb.heap.size wP wR := ⟨hgr5.os, hgr5.tape, hgr5.output, hgr5.size, fun q hq => hgr5.block q (by omega) (fun e => by have := (HRP.out.lt q e.symm).1; omega)⟩
                            have hSR : wR.cell? ⟨xb, 0, none⟩ = some (.slice a t.net.stops.length c) ∧ wR.cell? ⟨xb, 1, none⟩ = some (.slice a' t.net.lines.length c') ∧ wR.cell? ⟨xb, 2, none⟩ = some (.slice (some ⟨tb, to_, none⟩) t.trips.length d) ∧ wR.cell? ⟨xb, 3, none⟩ = some (.int .i64 ch) ∧ wR.cell? ⟨xb, 4, none⟩ = some (.int .i64 too) ∧ wR.cell? ⟨xb, 5, none⟩ = some (.int .i64 A) ∧ wR.cell? ⟨w9.heap.size, 0, none⟩ = some (.int .i64 l.trip) ∧ wR.cell? ⟨w9.heap.size, 1, none⟩ = some (.int .i64 l.frm) ∧ wR.cell? ⟨w9.heap.size, 2, none⟩ = some (.int .i64 l.dst) ∧ wR.cell? ⟨w9.heap.size, 3, none⟩ = some (.int .i64 l.dep) ∧ wR.cell? ⟨w9.heap.size, 4, none⟩ = some (.int .i64 l.arr) := ⟨(rb.cell (by show xb < _; omega)).trans hSP.1, (rb.cell (by show xb < _; omega)).trans hSP.2.1, (rb.cell (by show xb < _; omega)).trans hSP.2.2.1, (rb.cell (by show xb < _; omega)).trans hSP.2.2.2.1, (rb.cell (by show xb < _; omega)).trans hSP.2.2.2.2.1, (rb.cell (by show xb < _; omega)).trans hSP.2.2.2.2.2.1, (rb.cell (by show w9.heap.size < _; omega)).trans hSP.2.2.2.2.2.2.1, (rb.cell (by show w9.heap.size < _; omega)).trans hSP.2.2.2.2.2.2.2.1, (rb.cell (by show w9.heap.size < _; omega)).trans hSP.2.2.2.2.2.2.2.2.1, (rb.cell (by show w9.heap.size < _; omega)).trans hSP.2.2.2.2.2.2.2.2.2.1, (rb.cell (by show w9.heap.size < _; omega)).trans hSP.2.2.2.2.2.2.2.2.2.2⟩
                            have HBR : Hid (Below w.heap.size w wR) := HBP.out.trans (rb.mono (by omega))
                            have hzR : wb.heap.size ≤ wR.heap.size := Nat.le_trans hzP rb.size
                            have HRR : Hid (wR.ownsRow wb.heap.size 62 5 vR (used ++ [l]).length (legC (used ++ [l]))) := by
                              show World.ownsRow _ _ _ _ _ _ _
                              simpa using hown5
                            simp only [List.length_singleton] at hrun5
                            refine step_append_run rfl (.tmp 137) (.tmp 139) 30 rfl rfl rfl hrun5 ?_
                            clear hrun5 hown5 hgr5 hloc5 rb
                            refine hK.out _ _ hSR (fun hH5 => ?_)
                            clear hK K
                            try simp only [Act.put, List.setIfInBounds_toArray, List.set_cons_zero, List.set_cons_succ]
                            refine wpAnyH_take (i := 6) (v := ?_) (by simp only [List.getElem?_toArray, List.getElem?_cons_succ, List.getElem?_cons_zero]; rfl) (by kernel_rfl) (by kernel_rfl) (by kernel_rfl) (by exact fun _ _ _ h => h) (Or.inl ⟨by rfl, ?_⟩) (by assumption) ?_
                            rotate_left
                            · intro w' hSw; obtain ⟨e0, e1, e2, e3, e4, e5, e6, e7, e8, e9, e10⟩ := hSw
                              go_simp; try with_reducible rfl
                            try simp only [Act.put, List.setIfInBounds_toArray, List.set_cons_zero, List.set_cons_succ]
                            refine wpAnyH_done (by kernel_rfl) ?_ _
                            obtain ⟨s0, s1, s2, s3, s4, s5, -, -, -, -, s10⟩ := hSR
                            clear hH0 hH2 hH4 hH5
                            obtain ⟨g9, c9, rfl⟩ : ∃ g9 c9, vR = .slice (some ⟨g9, 0, none⟩) (used ++ [l]).length c9 := by
                              rcases HRR.out.2 with ⟨hv, h0'⟩ | ⟨g9, cap9, cur9, hv, _⟩
                              · simp at h0'
                              · exact ⟨g9, cap9, hv⟩
                            by_cases hk0 : k = 0
                            · have hkb : ((k : Int) + 1 == 1) = true := by simp [hk0]
                              have HK0 := Lib.hid hk0
                              clear hk0
                              by_cases hmt : (m : Int) = too
                              · have hmb : ((m : Int) == too) = true := by simp [hmt]
                                by_cases hla : l.arr = A
                                · have hlb : (l.arr == A) = true := by simp [hla]
                                  have HTry : Hid (tryF (candsF t.net.stops.length (rides t) A) ch too A k used l = some [l]) := by show _ = _; unfold tryF; rw [if_pos HK0.out, if_pos ⟨HDst.out.trans hmt, hla⟩]
                                  have HRes : Hid (res = used ++ [l]) := by
                                    show _ = _
                                    rw [← Hres.out, dfs_hit (i := i) (q := m) hir (by rw [rides_at]; exact HRok.out) hmN (by rw [rides_at]; exact HCo.out) HNo.out (by rw [rides_at]; exact HMo.out) HTry.out]; rfl
                                  clear hmt hla
                                  go_wp2_with fail
                                  go_quiet (fail)
                                  go_wp2_with fail
                                  go_ret
                                  exact ⟨⟨_, rfl, by rw [HRes.out]; exact own_base (own_later HRR.out (Dr.below ⟨_, rfl⟩)) hwl⟩, HBR.out.trans ((Dr.below ⟨_, rfl⟩).mono HBR.out.size)⟩
                                · have hlb : (l.arr == A) = false := by simp [hla]
                                  have HTry : Hid (tryF (candsF t.net.stops.length (rides t) A) ch too A k used l = none) := by show _ = _; unfold tryF; rw [if_pos HK0.out, if_neg (fun h => hla h.2)]
                                  have HMn : Hid (∀ x ∈ candT A (rideOf t t.trips[i]) s (m + 1), tryF (candsF t.net.stops.length (rides t) A) ch too A k used x = none) := by
                                    show ∀ x ∈ _, _
                                    rw [candT_succ, HCo.out, Option.toList_some]
                                    intro x hx
                                    rcases List.mem_append.1 hx with hx | hx
                                    · exact HMo.out x hx
                                    · rw [List.mem_singleton.1 hx]; exact HTry.out
                                  clear hmt hla
                                  go_wp2_with fail
                                  go_quiet (fail)
                                  go_wp2_with fail
                                  exact ⟨⟨m + 1, by omega, by go_num, HMn, bkeep (Dr.below ⟨_, rfl⟩) s0, bkeep (Dr.below ⟨_, rfl⟩) s1, bkeep (Dr.below ⟨_, rfl⟩) s2, bkeep (Dr.below ⟨_, rfl⟩) s3, bkeep (Dr.below ⟨_, rfl⟩) s4, bkeep (Dr.below ⟨_, rfl⟩) s5, HBR.out.trans ((Dr.below ⟨_, rfl⟩).mono HBR.out.size)⟩, by simp [RowKit.intOf]; omega⟩
                              · have hmb : ((m : Int) == too) = false := by simp [hmt]
                                have HTry : Hid (tryF (candsF t.net.stops.length (rides t) A) ch too A k used l = none) := by show _ = _; unfold tryF; rw [if_pos HK0.out, if_neg (fun h => hmt (HDst.out.symm.trans h.1))]
                                have HMn : Hid (∀ x ∈ candT A (rideOf t t.trips[i]) s (m + 1), tryF (candsF t.net.stops.length (rides t) A) ch too A k used x = none) := by
                                  show ∀ x ∈ _, _
                                  rw [candT_succ, HCo.out, Option.toList_some]
                                  intro x hx
                                  rcases List.mem_append.1 hx with hx | hx
                                  · exact HMo.out x hx
                                  · rw [List.mem_singleton.1 hx]; exact HTry.out
                                clear hmt
                                go_wp2_with fail
                                go_quiet (fail)
                                go_wp2_with fail
                                exact ⟨⟨m + 1, by omega, by go_num, HMn, bkeep (Dr.below ⟨_, rfl⟩) s0, bkeep (Dr.below ⟨_, rfl⟩) s1, bkeep (Dr.below ⟨_, rfl⟩) s2, bkeep (Dr.below ⟨_, rfl⟩) s3, bkeep (Dr.below ⟨_, rfl⟩) s4, bkeep (Dr.below ⟨_, rfl⟩) s5, HBR.out.trans ((Dr.below ⟨_, rfl⟩).mono HBR.out.size)⟩, by simp [RowKit.intOf]; omega⟩
                            · have hkb : ((k : Int) + 1 == 1) = false := by simp; omega
                              have HCall := Lib.hid (HIH.out hk0)
                              unfold ExtOk at HCall
                              have HK0 := Lib.hid hk0
                              clear hk0
                              obtain ⟨D, HD⟩ : ∃ D, Hid (dfsF (candsF t.net.stops.length (rides t) A) ch too A k (used ++ [l]) (m : Int) (l.arr + ch) = D) := ⟨_, rfl⟩
                              obtain ⟨n12, HN12⟩ : ∃ n12, Hid ((extR (used ++ [l]) D).length = n12) := ⟨_, rfl⟩
                              have hwk : IntKind.i64.wrap (k : Int) = (k : Int) := IntWalk.i64_in _ (by omega)
                              have hwk1 : IntKind.i64.wrap ((k : Int) + 1 - 1) = (k : Int) := by rw [IntWalk.i64_in _ (by omega)]; omega
                              have hwa : IntKind.i64.wrap (l.arr + ch) = l.arr + ch := IntWalk.i64_in _ (by have := HLa.out; omega)
                              go_wp2_with fail
                              refine wp_region_held_drew (S := (fun w' => w'.cell? ⟨xb, 0, none⟩ = some (.slice a t.net.stops.length c) ∧ w'.cell? ⟨xb, 1, none⟩ = some (.slice a' t.net.lines.length c') ∧ w'.cell? ⟨xb, 2, none⟩ = some (.slice (some ⟨tb, to_, none⟩) t.trips.length d) ∧ w'.cell? ⟨xb, 3, none⟩ = some (.int .i64 ch) ∧ w'.cell? ⟨xb, 4, none⟩ = some (.int .i64 too) ∧ w'.cell? ⟨xb, 5, none⟩ = some (.int .i64 A) ∧ w'.cell? ⟨w9.heap.size, 4, none⟩ = some (.int .i64 l.arr))) (by kernel_rfl) ?_ (fun hHeld => ?_)
                              · exact ⟨s0, s1, s2, s3, s4, s5, s10⟩
                              refine wpAnyH_take (i := 0) (v := ?_) (by simp only [List.getElem?_toArray, List.getElem?_cons_zero]; rfl) (by kernel_rfl) (by kernel_rfl) (by kernel_rfl) (by exact fun _ _ _ h => h) (Or.inl ⟨by rfl, ?_⟩) (by assumption) ?_
                              rotate_left
                              · intro w' hSw; obtain ⟨e0, e1, e2, e3, e4, e5, e6⟩ := hSw
                                go_simp; try with_reducible rfl
                              try simp only [Act.put, List.setIfInBounds_toArray, List.set_cons_zero, List.set_cons_succ]
                              refine wpAnyH_take (i := 1) (v := ?_) (by simp only [List.getElem?_toArray, List.getElem?_cons_succ, List.getElem?_cons_zero]; rfl) (by kernel_rfl) (by kernel_rfl) (by kernel_rfl) (by exact fun _ _ _ h => h) (Or.inl ⟨by rfl, ?_⟩) (by assumption) ?_
                              rotate_left
                              · intro w' hSw; obtain ⟨e0, e1, e2, e3, e4, e5, e6⟩ := hSw
                                go_simp; try with_reducible rfl
                              try simp only [Act.put, List.setIfInBounds_toArray, List.set_cons_zero, List.set_cons_succ]
                              refine wpAnyH_take (i := 2) (v := ?_) (by simp only [List.getElem?_toArray, List.getElem?_cons_succ, List.getElem?_cons_zero]; rfl) (by kernel_rfl) (by kernel_rfl) (by kernel_rfl) (by exact fun _ _ _ h => h) (Or.inl ⟨by rfl, ?_⟩) (by assumption) ?_
                              rotate_left
                              · intro w' hSw; obtain ⟨e0, e1, e2, e3, e4, e5, e6⟩ := hSw
                                go_simp; try with_reducible rfl
                              try simp only [Act.put, List.setIfInBounds_toArray, List.set_cons_zero, List.set_cons_succ]
                              refine wpAnyH_take (i := 3) (v := ?_) (by simp only [List.getElem?_toArray, List.getElem?_cons_succ, List.getElem?_cons_zero]; rfl) (by kernel_rfl) (by kernel_rfl) (by kernel_rfl) (by exact fun _ _ _ h => h) (Or.inl ⟨by rfl, ?_⟩) (by assumption) ?_
                              rotate_left
                              · intro w' hSw; obtain ⟨e0, e1, e2, e3, e4, e5, e6⟩ := hSw
                                go_simp; try with_reducible rfl
                              try simp only [Act.put, List.setIfInBounds_toArray, List.set_cons_zero, List.set_cons_succ]
                              refine wpAnyH_take (i := 4) (v := ?_) (by simp only [List.getElem?_toArray, List.getElem?_cons_succ, List.getElem?_cons_zero]; rfl) (by kernel_rfl) (by kernel_rfl) (by kernel_rfl) (by exact fun _ _ _ h => h) (Or.inl ⟨by rfl, ?_⟩) (by assumption) ?_
                              rotate_left
                              · intro w' hSw; obtain ⟨e0, e1, e2, e3, e4, e5, e6⟩ := hSw
                                go_simp; try with_reducible rfl
                              try simp only [Act.put, List.setIfInBounds_toArray, List.set_cons_zero, List.set_cons_succ]
                              refine wpAnyH_take (i := 5) (v := ?_) (by simp only [List.getElem?_toArray, List.getElem?_cons_succ, List.getElem?_cons_zero]; rfl) (by kernel_rfl) (by kernel_rfl) (by kernel_rfl) (by exact fun _ _ _ h => h) (Or.inl ⟨by rfl, ?_⟩) (by assumption) ?_
                              rotate_left
                              · intro w' hSw; obtain ⟨e0, e1, e2, e3, e4, e5, e6⟩ := hSw
                                go_simp; try with_reducible rfl
                              try simp only [Act.put, List.setIfInBounds_toArray, List.set_cons_zero, List.set_cons_succ]
                              refine wpAnyH_take (i := 6) (v := ?_) (by simp only [List.getElem?_toArray, List.getElem?_cons_succ, List.getElem?_cons_zero]; rfl) (by kernel_rfl) (by kernel_rfl) (by kernel_rfl) (by exact fun _ _ _ h => h) (Or.inl ⟨by rfl, ?_⟩) (by assumption) ?_
                              rotate_left
                              · intro w' hSw; obtain ⟨e0, e1, e2, e3, e4, e5, e6⟩ := hSw
                                go_simp; try with_reducible rfl
                              try simp only [Act.put, List.setIfInBounds_toArray, List.set_cons_zero, List.set_cons_succ]
                              refine wpAnyH_take (i := 7) (v := ?_) (by simp only [List.getElem?_toArray, List.getElem?_cons_succ, List.getElem?_cons_zero]; rfl) (by kernel_rfl) (by kernel_rfl) (by kernel_rfl) (by exact fun _ _ _ h => h) (Or.inl ⟨by rfl, ?_⟩) (by assumption) ?_
                              rotate_left
                              · intro w' hSw; obtain ⟨e0, e1, e2, e3, e4, e5, e6⟩ := hSw
                                go_simp; try with_reducible rfl
                              try simp only [Act.put, List.setIfInBounds_toArray, List.set_cons_zero, List.set_cons_succ]
                              refine wpAnyH_take (i := 8) (v := ?_) (by simp only [List.getElem?_toArray, List.getElem?_cons_succ, List.getElem?_cons_zero]; rfl) (by kernel_rfl) (by kernel_rfl) (by kernel_rfl) (by exact fun _ _ _ h => h) (Or.inl ⟨by rfl, ?_⟩) (by assumption) ?_
                              rotate_left
                              · intro w' hSw; obtain ⟨e0, e1, e2, e3, e4, e5, e6⟩ := hSw
                                go_simp; try with_reducible rfl
                              try simp only [Act.put, List.setIfInBounds_toArray, List.set_cons_zero, List.set_cons_succ]
                              refine wpAnyH_take (i := 9) (v := ?_) (by simp only [List.getElem?_toArray, List.getElem?_cons_succ, List.getElem?_cons_zero]; rfl) (by kernel_rfl) (by kernel_rfl) (by kernel_rfl) (by exact fun _ _ _ h => h) (Or.inl ⟨by rfl, ?_⟩) (by assumption) ?_
                              rotate_left
                              · intro w' hSw; obtain ⟨e0, e1, e2, e3, e4, e5, e6⟩ := hSw
                                go_simp; try with_reducible rfl
                              try simp only [Act.put, List.setIfInBounds_toArray, List.set_cons_zero, List.set_cons_succ]
                              refine wpAnyH_take (i := 10) (v := ?_) (by simp only [List.getElem?_toArray, List.getElem?_cons_succ, List.getElem?_cons_zero]; rfl) (by kernel_rfl) (by kernel_rfl) (by kernel_rfl) (by exact fun _ _ _ h => h) (Or.inl ⟨by rfl, ?_⟩) (by assumption) ?_
                              rotate_left
                              · intro w' hSw; obtain ⟨e0, e1, e2, e3, e4, e5, e6⟩ := hSw
                                go_simp; try with_reducible rfl
                              try simp only [Act.put, List.setIfInBounds_toArray, List.set_cons_zero, List.set_cons_succ]
                              refine wpAnyH_take (i := 11) (v := ?_) (by simp only [List.getElem?_toArray, List.getElem?_cons_succ, List.getElem?_cons_zero]; rfl) (by kernel_rfl) (by kernel_rfl) (by kernel_rfl) (by exact fun _ _ _ h => h) (Or.inl ⟨by rfl, ?_⟩) (by assumption) ?_
                              rotate_left
                              · intro w' hSw; obtain ⟨e0, e1, e2, e3, e4, e5, e6⟩ := hSw
                                go_simp; try with_reducible rfl
                              try simp only [Act.put, List.setIfInBounds_toArray, List.set_cons_zero, List.set_cons_succ]
                              refine wpAnyH_ready (rs := [12]) (by kernel_rfl) (by simp) ?_
                              refine AllReadyH.cons (by simp only [List.getElem?_toArray, List.getElem?_cons_succ, List.getElem?_cons_zero]; rfl) (fun K hK => ?_) AllReadyH.nil
                              go_simp
                              go_at_call 123
                              have HX := HCall.out wR.drew g9 0 c9 (used ++ [l]) (m : Int) (l.arr + ch) (HTT.out.below rfl HBR.out.drew) ⟨hHeld.1, hHeld.2.1, hHeld.2.2.1, hHeld.2.2.2.1, hHeld.2.2.2.2.1, hHeld.2.2.2.2.2.1⟩ (legsAt_own (own_later HRR.out (Below.refl _ _).drew)) (by simp; omega)
                              simp only [List.length_append, List.length_singleton] at HX
                              refine HX.mono ?_
                              clear HX
                              rintro e w12 ⟨⟨v12, rfl, hown12⟩, hb12⟩
                              rw [HD.out, HN12.out] at hown12
                              obtain ⟨a12, c12, rfl⟩ := own_shape hown12
                              have rb : Below wR.heap.size wR w12 := (Below.refl _ _).drew.trans hb12
                              have hS12 : w12.cell? ⟨xb, 0, none⟩ = some (.slice a t.net.stops.length c) ∧ w12.cell? ⟨xb, 1, none⟩ = some (.slice a' t.net.lines.length c') ∧ w12.cell? ⟨xb, 2, none⟩ = some (.slice (some ⟨tb, to_, none⟩) t.trips.length d) ∧ w12.cell? ⟨xb, 3, none⟩ = some (.int .i64 ch) ∧ w12.cell? ⟨xb, 4, none⟩ = some (.int .i64 too) ∧ w12.cell? ⟨xb, 5, none⟩ = some (.int .i64 A) ∧ w12.cell? ⟨w9.heap.size, 4, none⟩ = some (.int .i64 l.arr) := ⟨bkeep rb s0, bkeep rb s1, bkeep rb s2, bkeep rb s3, bkeep rb s4, bkeep rb s5, bkeep rb s10⟩
                              have HB12 : Hid (Below w.heap.size w w12) := HBR.out.trans (rb.mono HBR.out.size)
                              have HO12 : Hid (w12.ownsRow w.heap.size 62 5 (.slice a12 n12 c12) n12 (legC (extR (used ++ [l]) D))) := own_base hown12 (show w.heap.size ≤ wR.heap.size from HBR.out.size)
                              clear hown12 hb12 rb
                              go_wp2_with fail
                              refine hK.out _ _ hS12 (fun hH12 => ?_)
                              clear hK K
                              try simp only [Act.put, List.setIfInBounds_toArray, List.set_cons_zero, List.set_cons_succ]
                              refine wpAnyH_take (i := 13) (v := ?_) (by simp only [List.getElem?_toArray, List.getElem?_cons_succ, List.getElem?_cons_zero]; rfl) (by kernel_rfl) (by kernel_rfl) (by kernel_rfl) (by exact fun _ _ _ h => h) (Or.inl ⟨by rfl, ?_⟩) (by assumption) ?_
                              rotate_left
                              · intro w' hSw; obtain ⟨e0, e1, e2, e3, e4, e5, e6⟩ := hSw
                                go_simp; try with_reducible rfl
                              try simp only [Act.put, List.setIfInBounds_toArray, List.set_cons_zero, List.set_cons_succ]
                              refine wpAnyH_done (by kernel_rfl) ?_ _
                              obtain ⟨q0, q1, q2, q3, q4, q5, -⟩ := hS12
                              clear hH12
                              cases D with
                              | none =>
                                obtain rfl : n12 = 0 := HN12.out.symm
                                have HTry : Hid (tryF (candsF t.net.stops.length (rides t) A) ch too A k used l = none) := by show _ = _; unfold tryF; rw [if_neg HK0.out, HDst.out, HD.out]; rfl
                                have HMn : Hid (∀ x ∈ candT A (rideOf t t.trips[i]) s (m + 1), tryF (candsF t.net.stops.length (rides t) A) ch too A k used x = none) := by
                                  show ∀ x ∈ _, _
                                  rw [candT_succ, HCo.out, Option.toList_some]
                                  intro x hx
                                  rcases List.mem_append.1 hx with hx | hx
                                  · exact HMo.out x hx
                                  · rw [List.mem_singleton.1 hx]; exact HTry.out
                                go_wp2_with fail
                                exact ⟨⟨m + 1, by omega, by go_num, HMn, q0, q1, q2, q3, q4, q5, HB12⟩, by simp [RowKit.intOf]; omega⟩
                              | some c' =>
                                have hn12 : n12 = ((used ++ [l]) ++ c').length := HN12.out.symm
                                have hpos : (0 : Int) < (n12 : Int) := by rw [hn12]; simp; omega
                                have HN := Lib.hid hn12
                                have HTry : Hid (tryF (candsF t.net.stops.length (rides t) A) ch too A k used l = some (l :: c')) := by show _ = _; unfold tryF; rw [if_neg HK0.out, HDst.out, HD.out]; rfl
                                have HRes : Hid (res = (used ++ [l]) ++ c') := by
                                  show _ = _
                                  rw [← Hres.out, dfs_hit (i := i) (q := m) hir (by rw [rides_at]; exact HRok.out) hmN (by rw [rides_at]; exact HCo.out) HNo.out (by rw [rides_at]; exact HMo.out) HTry.out]; simp [extR]
                                clear hn12
                                go_wp2_with fail
                                go_ret
                                exact ⟨⟨_, rfl, by rw [HRes.out, ← HN.out]; exact HO12.out⟩, HB12.out⟩
                      · have hd1 : decide ((ib : Int) ≤ (ia : Int)) = true := decide_eq_true (by omega)
                        have hd1n : decide (ib ≤ ia) = true := decide_eq_true (by omega)
                        go_wp2_with fail
                        refine wp_region_held_drew (S := (fun w' => w'.cell? ⟨xb, 0, none⟩ = some (.slice a t.net.stops.length c) ∧ w'.cell? ⟨xb, 1, none⟩ = some (.slice a' t.net.lines.length c') ∧ w'.cell? ⟨xb, 2, none⟩ = some (.slice (some ⟨tb, to_, none⟩) t.trips.length d) ∧ w'.cell? ⟨xb, 3, none⟩ = some (.int .i64 ch) ∧ w'.cell? ⟨xb, 4, none⟩ = some (.int .i64 too) ∧ w'.cell? ⟨xb, 5, none⟩ = some (.int .i64 A))) (by kernel_rfl) ?_ (fun hHeld => ?_)
                        · exact ⟨p0, p1, p2, p3, p4, p5⟩
                        refine wpAnyH_take (i := 0) (v := ?_) (by simp only [List.getElem?_toArray, List.getElem?_cons_zero]; rfl) (by kernel_rfl) (by kernel_rfl) (by kernel_rfl) (by exact fun _ _ _ h => h) (Or.inl ⟨by rfl, ?_⟩) (by assumption) ?_
                        rotate_left
                        · intro w' hSw; obtain ⟨e0, e1, e2, e3, e4, e5⟩ := hSw
                          go_simp; try with_reducible rfl
                        try simp only [Act.put, List.setIfInBounds_toArray, List.set_cons_zero, List.set_cons_succ]
                        refine wpAnyH_take (i := 1) (v := ?_) (by simp only [List.getElem?_toArray, List.getElem?_cons_succ, List.getElem?_cons_zero]; rfl) (by kernel_rfl) (by kernel_rfl) (by kernel_rfl) (by exact fun _ _ _ h => h) (Or.inl ⟨by rfl, ?_⟩) (by assumption) ?_
                        rotate_left
                        · intro w' hSw; obtain ⟨e0, e1, e2, e3, e4, e5⟩ := hSw
                          go_simp; try with_reducible rfl
                        try simp only [Act.put, List.setIfInBounds_toArray, List.set_cons_zero, List.set_cons_succ]
                        refine wpAnyH_take (i := 2) (v := ?_) (by simp only [List.getElem?_toArray, List.getElem?_cons_succ, List.getElem?_cons_zero]; rfl) (by kernel_rfl) (by kernel_rfl) (by kernel_rfl) (by exact fun _ _ _ h => h) (Or.inl ⟨by rfl, ?_⟩) (by assumption) ?_
                        rotate_left
                        · intro w' hSw; obtain ⟨e0, e1, e2, e3, e4, e5⟩ := hSw
                          go_simp; try with_reducible rfl
                        try simp only [Act.put, List.setIfInBounds_toArray, List.set_cons_zero, List.set_cons_succ]
                        refine wpAnyH_take (i := 3) (v := ?_) (by simp only [List.getElem?_toArray, List.getElem?_cons_succ, List.getElem?_cons_zero]; rfl) (by kernel_rfl) (by kernel_rfl) (by kernel_rfl) (by exact fun _ _ _ h => h) (Or.inl ⟨by rfl, ?_⟩) (by assumption) ?_
                        rotate_left
                        · intro w' hSw; obtain ⟨e0, e1, e2, e3, e4, e5⟩ := hSw
                          go_simp; try with_reducible rfl
                        try simp only [Act.put, List.setIfInBounds_toArray, List.set_cons_zero, List.set_cons_succ]
                        refine wpAnyH_take (i := 4) (v := undef) (by simp only [List.getElem?_toArray, List.getElem?_cons_succ, List.getElem?_cons_zero]; rfl) (by kernel_rfl) (by kernel_rfl) (by kernel_rfl) (by exact fun _ _ _ h => h) (Or.inr ⟨by rfl, rfl⟩) (by assumption) ?_
                        try simp only [Act.put, List.setIfInBounds_toArray, List.set_cons_zero, List.set_cons_succ]
                        refine wpAnyH_take (i := 5) (v := undef) (by simp only [List.getElem?_toArray, List.getElem?_cons_succ, List.getElem?_cons_zero]; rfl) (by kernel_rfl) (by kernel_rfl) (by kernel_rfl) (by exact fun _ _ _ h => h) (Or.inr ⟨by rfl, rfl⟩) (by assumption) ?_
                        try simp only [Act.put, List.setIfInBounds_toArray, List.set_cons_zero, List.set_cons_succ]
                        refine wpAnyH_take (i := 6) (v := undef) (by simp only [List.getElem?_toArray, List.getElem?_cons_succ, List.getElem?_cons_zero]; rfl) (by kernel_rfl) (by kernel_rfl) (by kernel_rfl) (by exact fun _ _ _ h => h) (Or.inr ⟨by rfl, rfl⟩) (by assumption) ?_
                        try simp only [Act.put, List.setIfInBounds_toArray, List.set_cons_zero, List.set_cons_succ]
                        refine wpAnyH_take (i := 7) (v := undef) (by simp only [List.getElem?_toArray, List.getElem?_cons_succ, List.getElem?_cons_zero]; rfl) (by kernel_rfl) (by kernel_rfl) (by kernel_rfl) (by exact fun _ _ _ h => h) (Or.inr ⟨by rfl, rfl⟩) (by assumption) ?_
                        try simp only [Act.put, List.setIfInBounds_toArray, List.set_cons_zero, List.set_cons_succ]
                        refine wpAnyH_take (i := 8) (v := ?_) (by simp only [List.getElem?_toArray, List.getElem?_cons_succ, List.getElem?_cons_zero]; rfl) (by kernel_rfl) (by kernel_rfl) (by kernel_rfl) (by exact fun _ _ _ h => h) (Or.inl ⟨by rfl, ?_⟩) (by assumption) ?_
                        rotate_left
                        · intro w' hSw; obtain ⟨e0, e1, e2, e3, e4, e5⟩ := hSw
                          go_simp; try with_reducible rfl
                        try simp only [Act.put, List.setIfInBounds_toArray, List.set_cons_zero, List.set_cons_succ]
                        refine wpAnyH_take (i := 9) (v := ?_) (by simp only [List.getElem?_toArray, List.getElem?_cons_succ, List.getElem?_cons_zero]; rfl) (by kernel_rfl) (by kernel_rfl) (by kernel_rfl) (by exact fun _ _ _ h => h) (Or.inl ⟨by rfl, ?_⟩) (by assumption) ?_
                        rotate_left
                        · intro w' hSw; obtain ⟨e0, e1, e2, e3, e4, e5⟩ := hSw
                          go_simp; try with_reducible rfl
                        try simp only [Act.put, List.setIfInBounds_toArray, List.set_cons_zero, List.set_cons_succ]
                        refine wpAnyH_take (i := 10) (v := undef) (by simp only [List.getElem?_toArray, List.getElem?_cons_succ, List.getElem?_cons_zero]; rfl) (by kernel_rfl) (by kernel_rfl) (by kernel_rfl) (by exact fun _ _ _ h => h) (Or.inr ⟨by rfl, rfl⟩) (by assumption) ?_
                        try simp only [Act.put, List.setIfInBounds_toArray, List.set_cons_zero, List.set_cons_succ]
                        refine wpAnyH_take (i := 11) (v := undef) (by simp only [List.getElem?_toArray, List.getElem?_cons_succ, List.getElem?_cons_zero]; rfl) (by kernel_rfl) (by kernel_rfl) (by kernel_rfl) (by exact fun _ _ _ h => h) (Or.inr ⟨by rfl, rfl⟩) (by assumption) ?_
                        try simp only [Act.put, List.setIfInBounds_toArray, List.set_cons_zero, List.set_cons_succ]
                        refine wpAnyH_take (i := 12) (v := undef) (by simp only [List.getElem?_toArray, List.getElem?_cons_succ, List.getElem?_cons_zero]; rfl) (by kernel_rfl) (by kernel_rfl) (by kernel_rfl) (by exact fun _ _ _ h => h) (Or.inr ⟨by rfl, rfl⟩) (by assumption) ?_
                        try simp only [Act.put, List.setIfInBounds_toArray, List.set_cons_zero, List.set_cons_succ]
                        refine wpAnyH_take (i := 13) (v := undef) (by simp only [List.getElem?_toArray, List.getElem?_cons_succ, List.getElem?_cons_zero]; rfl) (by kernel_rfl) (by kernel_rfl) (by kernel_rfl) (by exact fun _ _ _ h => h) (Or.inr ⟨by rfl, rfl⟩) (by assumption) ?_
                        try simp only [Act.put, List.setIfInBounds_toArray, List.set_cons_zero, List.set_cons_succ]
                        refine wpAnyH_take (i := 14) (v := undef) (by simp only [List.getElem?_toArray, List.getElem?_cons_succ, List.getElem?_cons_zero]; rfl) (by kernel_rfl) (by kernel_rfl) (by kernel_rfl) (by exact fun _ _ _ h => h) (Or.inr ⟨by rfl, rfl⟩) (by assumption) ?_
                        try simp only [Act.put, List.setIfInBounds_toArray, List.set_cons_zero, List.set_cons_succ]
                        refine wpAnyH_take (i := 15) (v := undef) (by simp only [List.getElem?_toArray, List.getElem?_cons_succ, List.getElem?_cons_zero]; rfl) (by kernel_rfl) (by kernel_rfl) (by kernel_rfl) (by exact fun _ _ _ h => h) (Or.inr ⟨by rfl, rfl⟩) (by assumption) ?_
                        try simp only [Act.put, List.setIfInBounds_toArray, List.set_cons_zero, List.set_cons_succ]
                        refine wpAnyH_take (i := 16) (v := undef) (by simp only [List.getElem?_toArray, List.getElem?_cons_succ, List.getElem?_cons_zero]; rfl) (by kernel_rfl) (by kernel_rfl) (by kernel_rfl) (by exact fun _ _ _ h => h) (Or.inr ⟨by rfl, rfl⟩) (by assumption) ?_
                        try simp only [Act.put, List.setIfInBounds_toArray, List.set_cons_zero, List.set_cons_succ]
                        refine wpAnyH_take (i := 17) (v := undef) (by simp only [List.getElem?_toArray, List.getElem?_cons_succ, List.getElem?_cons_zero]; rfl) (by kernel_rfl) (by kernel_rfl) (by kernel_rfl) (by exact fun _ _ _ h => h) (Or.inr ⟨by rfl, rfl⟩) (by assumption) ?_
                        try simp only [Act.put, List.setIfInBounds_toArray, List.set_cons_zero, List.set_cons_succ]
                        refine wpAnyH_take (i := 18) (v := undef) (by simp only [List.getElem?_toArray, List.getElem?_cons_succ, List.getElem?_cons_zero]; rfl) (by kernel_rfl) (by kernel_rfl) (by kernel_rfl) (by exact fun _ _ _ h => h) (Or.inr ⟨by rfl, rfl⟩) (by assumption) ?_
                        try simp only [Act.put, List.setIfInBounds_toArray, List.set_cons_zero, List.set_cons_succ]
                        refine wpAnyH_take (i := 19) (v := undef) (by simp only [List.getElem?_toArray, List.getElem?_cons_succ, List.getElem?_cons_zero]; rfl) (by kernel_rfl) (by kernel_rfl) (by kernel_rfl) (by exact fun _ _ _ h => h) (Or.inr ⟨by rfl, rfl⟩) (by assumption) ?_
                        try simp only [Act.put, List.setIfInBounds_toArray, List.set_cons_zero, List.set_cons_succ]
                        refine wpAnyH_take (i := 20) (v := undef) (by simp only [List.getElem?_toArray, List.getElem?_cons_succ, List.getElem?_cons_zero]; rfl) (by kernel_rfl) (by kernel_rfl) (by kernel_rfl) (by exact fun _ _ _ h => h) (Or.inr ⟨by rfl, rfl⟩) (by assumption) ?_
                        try simp only [Act.put, List.setIfInBounds_toArray, List.set_cons_zero, List.set_cons_succ]
                        refine wpAnyH_take (i := 21) (v := undef) (by simp only [List.getElem?_toArray, List.getElem?_cons_succ, List.getElem?_cons_zero]; rfl) (by kernel_rfl) (by kernel_rfl) (by kernel_rfl) (by exact fun _ _ _ h => h) (Or.inr ⟨by rfl, rfl⟩) (by assumption) ?_
                        try simp only [Act.put, List.setIfInBounds_toArray, List.set_cons_zero, List.set_cons_succ]
                        refine wpAnyH_take (i := 22) (v := ?_) (by simp only [List.getElem?_toArray, List.getElem?_cons_succ, List.getElem?_cons_zero]; rfl) (by kernel_rfl) (by kernel_rfl) (by kernel_rfl) (by exact fun _ _ _ h => h) (Or.inl ⟨by rfl, ?_⟩) (by assumption) ?_
                        rotate_left
                        · intro w' hSw; obtain ⟨e0, e1, e2, e3, e4, e5⟩ := hSw
                          go_simp; try with_reducible rfl
                        try simp only [Act.put, List.setIfInBounds_toArray, List.set_cons_zero, List.set_cons_succ]
                        refine wpAnyH_done (by kernel_rfl) ?_ _
                        have HB8 : Hid (Below w.heap.size w w7.drew) := HB7.out.drew
                        have hS8 : w7.drew.cell? ⟨xb, 0, none⟩ = some (.slice a t.net.stops.length c) ∧ w7.drew.cell? ⟨xb, 1, none⟩ = some (.slice a' t.net.lines.length c') ∧ w7.drew.cell? ⟨xb, 2, none⟩ = some (.slice (some ⟨tb, to_, none⟩) t.trips.length d) ∧ w7.drew.cell? ⟨xb, 3, none⟩ = some (.int .i64 ch) ∧ w7.drew.cell? ⟨xb, 4, none⟩ = some (.int .i64 too) ∧ w7.drew.cell? ⟨xb, 5, none⟩ = some (.int .i64 A) := hHeld
                        obtain ⟨q0, q1, q2, q3, q4, q5⟩ := hS8
                        have HMn : Hid (∀ x ∈ candT A (rideOf t t.trips[i]) s (m + 1), tryF (candsF t.net.stops.length (rides t) A) ch too A k used x = none) := by
                          rw [candT_succ, candO_no hixa hixb (by omega), Option.toList_none, List.append_nil]; exact HMo.out
                        go_wp2_with fail
                        exact ⟨⟨m + 1, by omega, by go_num, HMn, q0, q1, q2, q3, q4, q5, HB8⟩, by simp [RowKit.intOf]; omega⟩
                    · rw [fstIdx_none hmq]
                      have hd1 : decide ((-1 : Int) ≤ (ia : Int)) = true := decide_eq_true (by omega)
                      go_wp2_with fail
                      refine wp_region_held_drew (S := (fun w' => w'.cell? ⟨xb, 0, none⟩ = some (.slice a t.net.stops.length c) ∧ w'.cell? ⟨xb, 1, none⟩ = some (.slice a' t.net.lines.length c') ∧ w'.cell? ⟨xb, 2, none⟩ = some (.slice (some ⟨tb, to_, none⟩) t.trips.length d) ∧ w'.cell? ⟨xb, 3, none⟩ = some (.int .i64 ch) ∧ w'.cell? ⟨xb, 4, none⟩ = some (.int .i64 too) ∧ w'.cell? ⟨xb, 5, none⟩ = some (.int .i64 A))) (by kernel_rfl) ?_ (fun hHeld => ?_)
                      · exact ⟨p0, p1, p2, p3, p4, p5⟩
                      refine wpAnyH_take (i := 0) (v := ?_) (by simp only [List.getElem?_toArray, List.getElem?_cons_zero]; rfl) (by kernel_rfl) (by kernel_rfl) (by kernel_rfl) (by exact fun _ _ _ h => h) (Or.inl ⟨by rfl, ?_⟩) (by assumption) ?_
                      rotate_left
                      · intro w' hSw; obtain ⟨e0, e1, e2, e3, e4, e5⟩ := hSw
                        go_simp; try with_reducible rfl
                      try simp only [Act.put, List.setIfInBounds_toArray, List.set_cons_zero, List.set_cons_succ]
                      refine wpAnyH_take (i := 1) (v := ?_) (by simp only [List.getElem?_toArray, List.getElem?_cons_succ, List.getElem?_cons_zero]; rfl) (by kernel_rfl) (by kernel_rfl) (by kernel_rfl) (by exact fun _ _ _ h => h) (Or.inl ⟨by rfl, ?_⟩) (by assumption) ?_
                      rotate_left
                      · intro w' hSw; obtain ⟨e0, e1, e2, e3, e4, e5⟩ := hSw
                        go_simp; try with_reducible rfl
                      try simp only [Act.put, List.setIfInBounds_toArray, List.set_cons_zero, List.set_cons_succ]
                      refine wpAnyH_take (i := 2) (v := ?_) (by simp only [List.getElem?_toArray, List.getElem?_cons_succ, List.getElem?_cons_zero]; rfl) (by kernel_rfl) (by kernel_rfl) (by kernel_rfl) (by exact fun _ _ _ h => h) (Or.inl ⟨by rfl, ?_⟩) (by assumption) ?_
                      rotate_left
                      · intro w' hSw; obtain ⟨e0, e1, e2, e3, e4, e5⟩ := hSw
                        go_simp; try with_reducible rfl
                      try simp only [Act.put, List.setIfInBounds_toArray, List.set_cons_zero, List.set_cons_succ]
                      refine wpAnyH_take (i := 3) (v := ?_) (by simp only [List.getElem?_toArray, List.getElem?_cons_succ, List.getElem?_cons_zero]; rfl) (by kernel_rfl) (by kernel_rfl) (by kernel_rfl) (by exact fun _ _ _ h => h) (Or.inl ⟨by rfl, ?_⟩) (by assumption) ?_
                      rotate_left
                      · intro w' hSw; obtain ⟨e0, e1, e2, e3, e4, e5⟩ := hSw
                        go_simp; try with_reducible rfl
                      try simp only [Act.put, List.setIfInBounds_toArray, List.set_cons_zero, List.set_cons_succ]
                      refine wpAnyH_take (i := 4) (v := undef) (by simp only [List.getElem?_toArray, List.getElem?_cons_succ, List.getElem?_cons_zero]; rfl) (by kernel_rfl) (by kernel_rfl) (by kernel_rfl) (by exact fun _ _ _ h => h) (Or.inr ⟨by rfl, rfl⟩) (by assumption) ?_
                      try simp only [Act.put, List.setIfInBounds_toArray, List.set_cons_zero, List.set_cons_succ]
                      refine wpAnyH_take (i := 5) (v := undef) (by simp only [List.getElem?_toArray, List.getElem?_cons_succ, List.getElem?_cons_zero]; rfl) (by kernel_rfl) (by kernel_rfl) (by kernel_rfl) (by exact fun _ _ _ h => h) (Or.inr ⟨by rfl, rfl⟩) (by assumption) ?_
                      try simp only [Act.put, List.setIfInBounds_toArray, List.set_cons_zero, List.set_cons_succ]
                      refine wpAnyH_take (i := 6) (v := undef) (by simp only [List.getElem?_toArray, List.getElem?_cons_succ, List.getElem?_cons_zero]; rfl) (by kernel_rfl) (by kernel_rfl) (by kernel_rfl) (by exact fun _ _ _ h => h) (Or.inr ⟨by rfl, rfl⟩) (by assumption) ?_
                      try simp only [Act.put, List.setIfInBounds_toArray, List.set_cons_zero, List.set_cons_succ]
                      refine wpAnyH_take (i := 7) (v := undef) (by simp only [List.getElem?_toArray, List.getElem?_cons_succ, List.getElem?_cons_zero]; rfl) (by kernel_rfl) (by kernel_rfl) (by kernel_rfl) (by exact fun _ _ _ h => h) (Or.inr ⟨by rfl, rfl⟩) (by assumption) ?_
                      try simp only [Act.put, List.setIfInBounds_toArray, List.set_cons_zero, List.set_cons_succ]
                      refine wpAnyH_take (i := 8) (v := ?_) (by simp only [List.getElem?_toArray, List.getElem?_cons_succ, List.getElem?_cons_zero]; rfl) (by kernel_rfl) (by kernel_rfl) (by kernel_rfl) (by exact fun _ _ _ h => h) (Or.inl ⟨by rfl, ?_⟩) (by assumption) ?_
                      rotate_left
                      · intro w' hSw; obtain ⟨e0, e1, e2, e3, e4, e5⟩ := hSw
                        go_simp; try with_reducible rfl
                      try simp only [Act.put, List.setIfInBounds_toArray, List.set_cons_zero, List.set_cons_succ]
                      refine wpAnyH_take (i := 9) (v := ?_) (by simp only [List.getElem?_toArray, List.getElem?_cons_succ, List.getElem?_cons_zero]; rfl) (by kernel_rfl) (by kernel_rfl) (by kernel_rfl) (by exact fun _ _ _ h => h) (Or.inl ⟨by rfl, ?_⟩) (by assumption) ?_
                      rotate_left
                      · intro w' hSw; obtain ⟨e0, e1, e2, e3, e4, e5⟩ := hSw
                        go_simp; try with_reducible rfl
                      try simp only [Act.put, List.setIfInBounds_toArray, List.set_cons_zero, List.set_cons_succ]
                      refine wpAnyH_take (i := 10) (v := undef) (by simp only [List.getElem?_toArray, List.getElem?_cons_succ, List.getElem?_cons_zero]; rfl) (by kernel_rfl) (by kernel_rfl) (by kernel_rfl) (by exact fun _ _ _ h => h) (Or.inr ⟨by rfl, rfl⟩) (by assumption) ?_
                      try simp only [Act.put, List.setIfInBounds_toArray, List.set_cons_zero, List.set_cons_succ]
                      refine wpAnyH_take (i := 11) (v := undef) (by simp only [List.getElem?_toArray, List.getElem?_cons_succ, List.getElem?_cons_zero]; rfl) (by kernel_rfl) (by kernel_rfl) (by kernel_rfl) (by exact fun _ _ _ h => h) (Or.inr ⟨by rfl, rfl⟩) (by assumption) ?_
                      try simp only [Act.put, List.setIfInBounds_toArray, List.set_cons_zero, List.set_cons_succ]
                      refine wpAnyH_take (i := 12) (v := undef) (by simp only [List.getElem?_toArray, List.getElem?_cons_succ, List.getElem?_cons_zero]; rfl) (by kernel_rfl) (by kernel_rfl) (by kernel_rfl) (by exact fun _ _ _ h => h) (Or.inr ⟨by rfl, rfl⟩) (by assumption) ?_
                      try simp only [Act.put, List.setIfInBounds_toArray, List.set_cons_zero, List.set_cons_succ]
                      refine wpAnyH_take (i := 13) (v := undef) (by simp only [List.getElem?_toArray, List.getElem?_cons_succ, List.getElem?_cons_zero]; rfl) (by kernel_rfl) (by kernel_rfl) (by kernel_rfl) (by exact fun _ _ _ h => h) (Or.inr ⟨by rfl, rfl⟩) (by assumption) ?_
                      try simp only [Act.put, List.setIfInBounds_toArray, List.set_cons_zero, List.set_cons_succ]
                      refine wpAnyH_take (i := 14) (v := undef) (by simp only [List.getElem?_toArray, List.getElem?_cons_succ, List.getElem?_cons_zero]; rfl) (by kernel_rfl) (by kernel_rfl) (by kernel_rfl) (by exact fun _ _ _ h => h) (Or.inr ⟨by rfl, rfl⟩) (by assumption) ?_
                      try simp only [Act.put, List.setIfInBounds_toArray, List.set_cons_zero, List.set_cons_succ]
                      refine wpAnyH_take (i := 15) (v := undef) (by simp only [List.getElem?_toArray, List.getElem?_cons_succ, List.getElem?_cons_zero]; rfl) (by kernel_rfl) (by kernel_rfl) (by kernel_rfl) (by exact fun _ _ _ h => h) (Or.inr ⟨by rfl, rfl⟩) (by assumption) ?_
                      try simp only [Act.put, List.setIfInBounds_toArray, List.set_cons_zero, List.set_cons_succ]
                      refine wpAnyH_take (i := 16) (v := undef) (by simp only [List.getElem?_toArray, List.getElem?_cons_succ, List.getElem?_cons_zero]; rfl) (by kernel_rfl) (by kernel_rfl) (by kernel_rfl) (by exact fun _ _ _ h => h) (Or.inr ⟨by rfl, rfl⟩) (by assumption) ?_
                      try simp only [Act.put, List.setIfInBounds_toArray, List.set_cons_zero, List.set_cons_succ]
                      refine wpAnyH_take (i := 17) (v := undef) (by simp only [List.getElem?_toArray, List.getElem?_cons_succ, List.getElem?_cons_zero]; rfl) (by kernel_rfl) (by kernel_rfl) (by kernel_rfl) (by exact fun _ _ _ h => h) (Or.inr ⟨by rfl, rfl⟩) (by assumption) ?_
                      try simp only [Act.put, List.setIfInBounds_toArray, List.set_cons_zero, List.set_cons_succ]
                      refine wpAnyH_take (i := 18) (v := undef) (by simp only [List.getElem?_toArray, List.getElem?_cons_succ, List.getElem?_cons_zero]; rfl) (by kernel_rfl) (by kernel_rfl) (by kernel_rfl) (by exact fun _ _ _ h => h) (Or.inr ⟨by rfl, rfl⟩) (by assumption) ?_
                      try simp only [Act.put, List.setIfInBounds_toArray, List.set_cons_zero, List.set_cons_succ]
                      refine wpAnyH_take (i := 19) (v := undef) (by simp only [List.getElem?_toArray, List.getElem?_cons_succ, List.getElem?_cons_zero]; rfl) (by kernel_rfl) (by kernel_rfl) (by kernel_rfl) (by exact fun _ _ _ h => h) (Or.inr ⟨by rfl, rfl⟩) (by assumption) ?_
                      try simp only [Act.put, List.setIfInBounds_toArray, List.set_cons_zero, List.set_cons_succ]
                      refine wpAnyH_take (i := 20) (v := undef) (by simp only [List.getElem?_toArray, List.getElem?_cons_succ, List.getElem?_cons_zero]; rfl) (by kernel_rfl) (by kernel_rfl) (by kernel_rfl) (by exact fun _ _ _ h => h) (Or.inr ⟨by rfl, rfl⟩) (by assumption) ?_
                      try simp only [Act.put, List.setIfInBounds_toArray, List.set_cons_zero, List.set_cons_succ]
                      refine wpAnyH_take (i := 21) (v := undef) (by simp only [List.getElem?_toArray, List.getElem?_cons_succ, List.getElem?_cons_zero]; rfl) (by kernel_rfl) (by kernel_rfl) (by kernel_rfl) (by exact fun _ _ _ h => h) (Or.inr ⟨by rfl, rfl⟩) (by assumption) ?_
                      try simp only [Act.put, List.setIfInBounds_toArray, List.set_cons_zero, List.set_cons_succ]
                      refine wpAnyH_take (i := 22) (v := ?_) (by simp only [List.getElem?_toArray, List.getElem?_cons_succ, List.getElem?_cons_zero]; rfl) (by kernel_rfl) (by kernel_rfl) (by kernel_rfl) (by exact fun _ _ _ h => h) (Or.inl ⟨by rfl, ?_⟩) (by assumption) ?_
                      rotate_left
                      · intro w' hSw; obtain ⟨e0, e1, e2, e3, e4, e5⟩ := hSw
                        go_simp; try with_reducible rfl
                      try simp only [Act.put, List.setIfInBounds_toArray, List.set_cons_zero, List.set_cons_succ]
                      refine wpAnyH_done (by kernel_rfl) ?_ _
                      have HB8 : Hid (Below w.heap.size w w7.drew) := HB7.out.drew
                      have hS8 : w7.drew.cell? ⟨xb, 0, none⟩ = some (.slice a t.net.stops.length c) ∧ w7.drew.cell? ⟨xb, 1, none⟩ = some (.slice a' t.net.lines.length c') ∧ w7.drew.cell? ⟨xb, 2, none⟩ = some (.slice (some ⟨tb, to_, none⟩) t.trips.length d) ∧ w7.drew.cell? ⟨xb, 3, none⟩ = some (.int .i64 ch) ∧ w7.drew.cell? ⟨xb, 4, none⟩ = some (.int .i64 too) ∧ w7.drew.cell? ⟨xb, 5, none⟩ = some (.int .i64 A) := hHeld
                      obtain ⟨q0, q1, q2, q3, q4, q5⟩ := hS8
                      have HMn : Hid (∀ x ∈ candT A (rideOf t t.trips[i]) s (m + 1), tryF (candsF t.net.stops.length (rides t) A) ch too A k used x = none) := by
                        rw [candT_succ, candO_out hmq, Option.toList_none, List.append_nil]; exact HMo.out
                      go_wp2_with fail
                      exact ⟨⟨m + 1, by omega, by go_num, HMn, q0, q1, q2, q3, q4, q5, HB8⟩, by simp [RowKit.intOf]; omega⟩
                  · obtain rfl : m = t.net.stops.length := by omega
                    have hm1 : ¬ (t.net.stops.length : Int) < (t.net.stops.length : Int) := by omega
                    have HNn : Hid (∀ x ∈ candsF t.net.stops.length ((rides t).take (i + 1)) A used s at_, tryF (candsF t.net.stops.length (rides t) A) ch too A k used x = none) := by
                      intro x hx
                      rw [HTk.out, candR_yes HRok.out] at hx
                      rcases List.mem_append.1 hx with hx | hx
                      · exact HNo.out x hx
                      · exact HMo.out x hx
                    go_wp2_with fail
                    exact ⟨⟨i + 1, by omega, by go_num, HNn, p0, p1, p2, p3, p4, p5, HB⟩, by simp [RowKit.intOf]; omega⟩
            · rw [fstIdx_none hms]
              have HNn : Hid (∀ x ∈ candsF t.net.stops.length ((rides t).take (i + 1)) A used s at_, tryF (candsF t.net.stops.length (rides t) A) ch too A k used x = none) := by
                rw [HTk.out, candR_no (rideOk_out hms), List.append_nil]; exact HNo.out
              go_wp2_with fail
              exact ⟨⟨i + 1, by omega, by go_num, HNn, p0, p1, p2, p3, p4, p5, HB3⟩, by simp [RowKit.intOf]; omega⟩
    · obtain rfl : i = t.trips.length := by omega
      have hi1 : ¬ (t.trips.length : Int) < (t.trips.length : Int) := by omega
      have HR0 : Hid (res = []) := by
        show _ = _
        have := HNo.out
        rw [List.take_of_length_le (by rw [rides_len]; exact Nat.le_refl _)] at this
        rw [← Hres.out, dfs_miss this]; rfl
      go_wp2_with fail
      go_ret
      exact ⟨⟨.slice (some ⟨wo.heap.size, 0, none⟩) 0 0, rfl, by rw [HR0.out]; exact legs_new wo _ HB.out.size⟩, HB.out.alloc HB.out.size _⟩
end Go.Proofs.Ytmcpafflnccfaaa
