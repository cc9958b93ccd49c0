import Derived.Test.YtfgkfdkdjegaiaaDoubleWait
namespace Go.Proofs.Ytfgkfdkdjegaiaa
open Go.RowKit
set_option linter.unusedVariables false
set_option linter.unusedSimpArgs false

theorem mtB_iff {n : NetD} {p : Int} {xs : List PatternD} {a b : Int} (h : mtB n p xs a b = true) : PatsGood n p xs ∧ (0 ≤ a ∧ a < (xs.length : Int)) ∧ (0 ≤ b ∧ b < (xs.length : Int)) := by
  unfold mtB at h; simp only [Bool.and_eq_true, decide_eq_true_eq] at h
  exact ⟨patsB_iff h.1, h.2⟩
theorem mtF_no {n : NetD} {p : Int} {xs : List PatternD} {a b : Int} (h : mtB n p xs a b = false) : mtF n p xs a b = [] := by unfold mtF; rw [h]; rfl
theorem mtF_yes {n : NetD} {p : Int} {xs : List PatternD} {ka kb la : Nat} (h : mtB n p xs ka kb = true) (hka : ka < xs.length) (hkb : kb < xs.length) (hla : xs[ka].line = la) (hll : la < n.lines.length) :
    mtF n p xs ka kb = meetK (rsAt n p xs[ka] n.lines[la].stops) (rsAt n p xs[kb] n.lines[la].stops) n.lines[la].stops.length := by
  unfold mtF; rw [h, pt_at hka, pt_at hkb, lnI_at hla hll]; rfl
theorem rsAt_get {n : NetD} {p : Int} {x : PatternD} {st : List Int} {k : Nat} (hk : k < st.length) : rsAt n p x st k = restI n p x st[k] := by unfold rsAt; simp [List.getD, hk]
theorem rsAt_own {n : NetD} {p : Int} {x : PatternD} {la k : Nat} (hp : 1 ≤ p) (hla : x.line = la) (hll : la < n.lines.length) (hk : k < n.lines[la].stops.length) : 0 ≤ rsAt n p x n.lines[la].stops k := by
  rw [rsAt_get hk]
  have h : ¬ fstIdx n.lines[la].stops[k] n.lines[la].stops < 0 := by rw [fstIdx_neg]; intro hn; exact hn (List.getElem_mem hk)
  by_cases hc : restI n p x n.lines[la].stops[k] < 0
  · rw [rest_neg hp, lnI_at hla hll] at hc; exact absurd hc h
  · omega
theorem keepMt {W w w' : World} {p0 p1 p2 p3 p4 p5 p6 : Addr} {x0 x1 x2 x3 x4 x5 x6 : Value} (hb : Below w.heap.size w w')
    (h : w.cell? p0 = some x0 ∧ w.cell? p1 = some x1 ∧ w.cell? p2 = some x2 ∧ w.cell? p3 = some x3 ∧ w.cell? p4 = some x4 ∧ w.cell? p5 = some x5 ∧ w.cell? p6 = some x6 ∧ Below W.heap.size W w) :
    w'.cell? p0 = some x0 ∧ w'.cell? p1 = some x1 ∧ w'.cell? p2 = some x2 ∧ w'.cell? p3 = some x3 ∧ w'.cell? p4 = some x4 ∧ w'.cell? p5 = some x5 ∧ w'.cell? p6 = some x6 ∧ Below W.heap.size W w' := by
  obtain ⟨h0, h1, h2, h3, h4, h5, h6, hl⟩ := h
  exact ⟨bkeep hb h0, bkeep hb h1, bkeep hb h2, bkeep hb h3, bkeep hb h4, bkeep hb h5, bkeep hb h6, hl.trans (hb.mono hl.size)⟩
theorem belMt {W w : World} {p0 p1 p2 p3 p4 p5 p6 : Addr} {x0 x1 x2 x3 x4 x5 x6 : Value} (h : w.cell? p0 = some x0 ∧ w.cell? p1 = some x1 ∧ w.cell? p2 = some x2 ∧ w.cell? p3 = some x3 ∧ w.cell? p4 = some x4 ∧ w.cell? p5 = some x5 ∧ w.cell? p6 = some x6 ∧ Below W.heap.size W w) : Below W.heap.size W w := h.2.2.2.2.2.2.2

set_option maxRecDepth 100000 in
set_option maxHeartbeats 4000000 in
theorem hasPatterns_any (nv lv : Value) (n : NetD) (p : Int) (xs : List PatternD) (a b : Int) (w : World) (hr : NetAt w nv n) (hw : PatternsAt w lv xs) (hf : NetFits n) :
    Calls Try.prog 77 #[nv, .int .i64 p, lv, .int .i64 a, .int .i64 b] w fun e w' => e = .returned (.bool (mtB n p xs a b)) ∧ Below w.heap.size w w' := by
  have HA := Lib.hid (fun W (hW : Below w.heap.size w W) => implPats_any nv lv n p xs W (hr.below rfl hW) (hw.below rfl hW) hf)
  obtain ⟨a0, c, a', c', rfl, -, -⟩ := net_open hr
  obtain ⟨lb, d, rfl⟩ := PatternS_open hw
  clear hr hw hf
  cases hg : patsB n p xs with
  | false =>
    rw [hg] at HA
    have hm : mtB n p xs a b = false := by unfold mtB; rw [hg]; rfl
    rw [hm]
    clear hm hg
    go_enter Try.func77, Try.ntmps77
    go_wp2_with fail
    go_at_call 20
    refine (HA.out _ ((Below.refl _ _).alloc (Nat.le_refl _) _)).mono ?_
    rintro e w1 ⟨rfl, hb1⟩
    have HB1 : Hid (Below w.heap.size w w1) := ((Below.refl _ _).alloc (Nat.le_refl _) _).trans (hb1.mono (by simp))
    clear hb1 HA
    go_wp2_with fail
    go_ret
    exact ⟨rfl, HB1.out⟩
  | true =>
    rw [hg] at HA
    by_cases h0 : a < 0 ∨ b < 0
    · have hm : mtB n p xs a b = false := mtB_no (fun h => by omega)
      have hd0 : decide (0 ≤ min a b) = false := decide_eq_false (by omega)
      have hd0' : decide (0 ≤ (if b < a then b else a)) = false := decide_eq_false (by split <;> omega)
      rw [hm]
      clear hm hg
      go_enter Try.func77, Try.ntmps77
      go_wp2_with fail
      go_at_call 20
      refine (HA.out _ ((Below.refl _ _).alloc (Nat.le_refl _) _)).mono ?_
      rintro e w1 ⟨rfl, hb1⟩
      have HB1 : Hid (Below w.heap.size w w1) := ((Below.refl _ _).alloc (Nat.le_refl _) _).trans (hb1.mono (by simp))
      clear hb1 HA
      go_wp2_with fail
      go_ret
      exact ⟨rfl, HB1.out⟩
    · have hd0 : decide (0 ≤ min a b) = true := decide_eq_true (by omega)
      have hd0' : decide (0 ≤ (if b < a then b else a)) = true := decide_eq_true (by split <;> omega)
      by_cases h1 : (xs.length : Int) ≤ a ∨ (xs.length : Int) ≤ b
      · have hm : mtB n p xs a b = false := mtB_no (fun h => by omega)
        have hd1 : decide (max a b < (xs.length : Int)) = false := decide_eq_false (by omega)
        have hd1' : decide ((if a < b then b else a) < (xs.length : Int)) = false := decide_eq_false (by split <;> omega)
        rw [hm]
        clear hm hg
        go_enter Try.func77, Try.ntmps77
        go_wp2_with fail
        go_at_call 20
        refine (HA.out _ ((Below.refl _ _).alloc (Nat.le_refl _) _)).mono ?_
        rintro e w1 ⟨rfl, hb1⟩
        have HB1 : Hid (Below w.heap.size w w1) := ((Below.refl _ _).alloc (Nat.le_refl _) _).trans (hb1.mono (by simp))
        clear hb1 HA
        go_wp2_with fail
        go_ret
        exact ⟨ret_bool (by first | rfl | assumption), HB1.out⟩
      · have hm : mtB n p xs a b = true := mtB_yes (patsB_iff hg) (by omega) (by omega)
        have hd1 : decide (max a b < (xs.length : Int)) = true := decide_eq_true (by omega)
        have hd1' : decide ((if a < b then b else a) < (xs.length : Int)) = true := decide_eq_true (by split <;> omega)
        rw [hm]
        clear hm hg
        go_enter Try.func77, Try.ntmps77
        go_wp2_with fail
        go_at_call 20
        refine (HA.out _ ((Below.refl _ _).alloc (Nat.le_refl _) _)).mono ?_
        rintro e w1 ⟨rfl, hb1⟩
        have HB1 : Hid (Below w.heap.size w w1) := ((Below.refl _ _).alloc (Nat.le_refl _) _).trans (hb1.mono (by simp))
        clear hb1 HA
        go_wp2_with fail
        go_ret
        exact ⟨ret_bool (by first | rfl | assumption), HB1.out⟩

set_option maxRecDepth 100000 in
set_option maxHeartbeats 4000000 in
theorem implMeeting_any (nv lv : Value) (n : NetD) (p : Int) (xs : List PatternD) (a b : Int) (w : World) (hr : NetAt w nv n) (hw : PatternsAt w lv xs) (hf : NetFits n) (hs : NetSmall n) (hxs : PatternsSmall xs) :
    Calls Try.prog 35 #[nv, .int .i64 p, lv, .int .i64 a, .int .i64 b] w fun e w' => StAns w.heap.size (mtF n p xs a b) (mtB n p xs a b) e w' ∧ Below w.heap.size w w' := by
  have HG := Lib.hid (fun W (hW : Below w.heap.size w W) => hasPatterns_any nv lv n p xs a b W (hr.below rfl hW) (hw.below rfl hW) hf)
  have HRs := Lib.hid (fun (h : PatsGood n p xs) k (hk : k < xs.length) s W (hW : Below w.heap.size w W) => restOf_any nv n p xs[k] s W (hr.below rfl hW) h.1 h.2.1 (h.2.2.2 k hk))
  have HNet := Lib.hid (fun k (hk : k < n.lines.length) => hr)
  have HPt := Lib.hid hw
  have HNt := Lib.hid hr
  obtain ⟨a0, c, a', c', rfl, -, -⟩ := net_open hr
  obtain ⟨lb, d, rfl⟩ := PatternS_open hw
  have hxs2 : xs.length ≤ 1048576 := hxs
  clear hr hw hf hs HNet hxs
  cases hm : mtB n p xs a b with
  | false =>
    rw [hm] at HG
    rw [mtF_no hm]
    clear hm HRs HPt HNt
    go_enter Try.func35, Try.ntmps35
    go_wp2_with fail
    have HO0 := Lib.hid (row_new (w.alloc (.cells #[.slice a0 n.stops.length c, .slice a' n.lines.length c'] 27)) (w.heap.size + 1) (by simp))
    have hb0 : Below w.heap.size w ((w.alloc (.cells #[.slice a0 n.stops.length c, .slice a' n.lines.length c'] 27)).alloc (.cells #[] 3)) := ((Below.refl _ _).alloc (Nat.le_refl _) _).alloc (by simp) _
    obtain ⟨wa, hwa⟩ : ∃ wa : World, wa = (w.alloc (.cells #[.slice a0 n.stops.length c, .slice a' n.lines.length c'] 27)).alloc (.cells #[] 3) := ⟨_, rfl⟩
    have p0 : wa.cell? ⟨w.heap.size, 0, none⟩ = some (.slice a0 n.stops.length c) := by rw [hwa]; go_simp
    have p1 : wa.cell? ⟨w.heap.size, 1, none⟩ = some (.slice a' n.lines.length c') := by rw [hwa]; go_simp
    have hza : w.heap.size + 1 < wa.heap.size := by rw [hwa]; simp
    rw [← hwa] at HO0 hb0 ⊢
    simp only [World.size_alloc] at HO0
    clear hwa
    go_at_call 77
    refine (HG.out _ hb0).mono ?_
    rintro e w1 ⟨rfl, hb1⟩
    have HB1 : Hid (Below w.heap.size w w1 ∧ w.heap.size + 1 < w1.heap.size) := ⟨hb0.trans (hb1.mono hb0.size), by have := hb1.size; omega⟩
    have HO1 := Lib.hid (own_later HO0.out hb1)
    have p0 := bkeep hb1 p0
    have p1 := bkeep hb1 p1
    clear hb1 hb0 HO0 HG hza
    go_wp2_with fail
    go_ret2
    exact ⟨⟨_, rfl, own_base HO1.out (Nat.le_succ _)⟩, HB1.out.1⟩
  | true =>
    rw [hm] at HG
    obtain ⟨hgood, ⟨ha0, ha1⟩, ⟨hb0, hb1⟩⟩ := mtB_iff hm
    obtain ⟨ka, rfl⟩ := Int.eq_ofNat_of_zero_le ha0
    obtain ⟨kb, rfl⟩ := Int.eq_ofNat_of_zero_le hb0
    have hka : ka < xs.length := by omega
    have hkb : kb < xs.length := by omega
    obtain ⟨la, hla, hll⟩ := pat_line (hgood.2.2.2 ka hka)
    have hMF := mtF_yes hm hka hkb hla hll
    rw [hMF]
    have hgl := (good_line hgood.1 la hll).2.1
    have HA0 := Lib.hid (fun k (hk : k < n.lines[la].stops.length) => rsAt_own (n := n) (p := p) (x := xs[ka]) hgood.2.1.1 hla hll hk)
    have HCa := Lib.hid (fun k (hk : k < n.lines[la].stops.length) W hW => HRs.out hgood ka hka n.lines[la].stops[k] W hW)
    have HCb := Lib.hid (fun k (hk : k < n.lines[la].stops.length) W hW => HRs.out hgood kb hkb n.lines[la].stops[k] W hW)
    have HRa : Hid (∀ k (hk : k < n.lines[la].stops.length), rsAt n p xs[ka] n.lines[la].stops k = restI n p xs[ka] n.lines[la].stops[k]) := fun k hk => rsAt_get hk
    have HRb : Hid (∀ k (hk : k < n.lines[la].stops.length), rsAt n p xs[kb] n.lines[la].stops k = restI n p xs[kb] n.lines[la].stops[k]) := fun k hk => rsAt_get hk
    obtain ⟨sb, so, s0, s1, r0, r1, rfl, hsb, -, x1, -, hrs, -⟩ := net_line HNt.out la hll
    obtain ⟨g, go, rfl, hgb, ya0, ya1⟩ := pat_at HPt.out ka hka
    obtain ⟨_, _, he, -, yb0, yb1⟩ := pat_at HPt.out kb hkb
    simp at he
    obtain ⟨rfl, rfl⟩ := he
    obtain ⟨_, _, he, hq1, hq2, HCs⟩ := ints_open hrs
    simp at he
    obtain ⟨rfl, rfl⟩ := he
    clear HRs HPt HNt hMF hrs hm
    obtain ⟨i0, hi0, hz0, hz1, hz2⟩ := info_parts infoInt
    have hka1 : (ka : Int) < (xs.length : Int) := by omega
    have hkb1 : (kb : Int) < (xs.length : Int) := by omega
    have hll1 : (la : Int) < (n.lines.length : Int) := by omega
    generalize rsAt n p xs[ka] n.lines[la].stops = fA at *
    generalize rsAt n p xs[kb] n.lines[la].stops = fB at *
    generalize n.lines[la].stops = st at *
    generalize xs[ka] = A at *
    generalize xs[kb] = B at *
    obtain ⟨al, ao⟩ := A
    obtain ⟨bl, bo⟩ := B
    simp only at hla
    subst hla
    unfold patV at HCa HCb
    simp only at *
    have hst : st.length ≤ 6 := hgl.2.1
    clear hgl hgood ha0 ha1 hb0 hb1
    go_enter Try.func35, Try.ntmps35
    go_wp2_with fail
    have HO0 := Lib.hid (row_new (w.alloc (.cells #[.slice a0 n.stops.length c, .slice (some ⟨sb, so, none⟩) n.lines.length c'] 27)) (w.heap.size + 1) (by simp))
    have hb0 : Below w.heap.size w ((w.alloc (.cells #[.slice a0 n.stops.length c, .slice (some ⟨sb, so, none⟩) n.lines.length c'] 27)).alloc (.cells #[] 3)) := ((Below.refl _ _).alloc (Nat.le_refl _) _).alloc (by simp) _
    obtain ⟨wa, hwa⟩ : ∃ wa : World, wa = (w.alloc (.cells #[.slice a0 n.stops.length c, .slice (some ⟨sb, so, none⟩) n.lines.length c'] 27)).alloc (.cells #[] 3) := ⟨_, rfl⟩
    have p0 : wa.cell? ⟨w.heap.size, 0, none⟩ = some (.slice a0 n.stops.length c) := by rw [hwa]; go_simp
    have p1 : wa.cell? ⟨w.heap.size, 1, none⟩ = some (.slice (some ⟨sb, so, none⟩) n.lines.length c') := by rw [hwa]; go_simp
    have hza : w.heap.size + 1 < wa.heap.size := by rw [hwa]; simp
    rw [← hwa] at HO0 hb0 ⊢
    simp only [World.size_alloc] at HO0
    clear hwa
    go_at_call 77
    refine (HG.out _ hb0).mono ?_
    rintro e w1 ⟨rfl, hb1⟩
    have HB1 : Hid (Below w.heap.size w w1 ∧ w.heap.size + 1 < w1.heap.size) := ⟨hb0.trans (hb1.mono hb0.size), by have := hb1.size; omega⟩
    have HO1 := Lib.hid (own_later HO0.out hb1)
    have p0 := bkeep hb1 p0
    have p1 := bkeep hb1 p1
    clear hb1 hb0 HO0 HG hza

    go_wp2_with fail
    have x1 := bkeep HB1.out.1 x1
    have y0 := bkeep HB1.out.1 ya0
    have y1 := bkeep HB1.out.1 ya1
    have y2 := bkeep HB1.out.1 yb0
    have y3 := bkeep HB1.out.1 yb1
    go_quiet (fail)
    go_wp2_with fail
    obtain ⟨nq0, hnq0⟩ : ∃ W : World, W = w1.drewN nq := ⟨_, rfl⟩
    have HBq : Hid (Below w.heap.size w nq0 ∧ w.heap.size + 1 < nq0.heap.size) := by rw [hnq0]; exact ⟨below_drewN HB1.out.1 _, HB1.out.2⟩
    have HOq : Hid (nq0.ownsRow (w.heap.size + 1) 3 1 (.slice (some ⟨w.heap.size + 1, 0, none⟩) 0 0) 0 (ints [])) := by show World.ownsRow _ _ _ _ _ _ _; rw [hnq0]; exact own_later HO1.out (below_drewN (Below.refl _ _) _)
    have p0 : nq0.cell? ⟨w.heap.size, 0, none⟩ = some (.slice a0 n.stops.length c) := by rw [hnq0]; exact bkeep (below_drewN (Below.refl _ _) _) p0
    have p1 : nq0.cell? ⟨w.heap.size, 1, none⟩ = some (.slice (some ⟨sb, so, none⟩) n.lines.length c') := by rw [hnq0]; exact bkeep (below_drewN (Below.refl _ _) _) p1
    rw [← hnq0]
    clear hnq0 x1 y0 y1 y2 y3 HO1 HB1
    go_loopw [12, 39] (fun o q wr => ∃ k : Nat, k ≤ st.length ∧ q = .int .i64 k ∧ Hid (o.ownBlock ≠ none ∧ wr.ownsRow (w.heap.size + 1) 3 1 o (meetK fA fB k).length (ints (meetK fA fB k))) ∧ wr.cell? ⟨w.heap.size, 0, none⟩ = some (.slice a0 n.stops.length c) ∧ wr.cell? ⟨w.heap.size, 1, none⟩ = some (.slice (some ⟨sb, so, none⟩) n.lines.length c') ∧ Hid (Below w.heap.size w wr ∧ w.heap.size + 1 < wr.heap.size))
      (fun _ q _ => st.length - (RowKit.intOf q).toNat)
    case atStart => exact ⟨0, Nat.zero_le _, rfl, ⟨by simp [Value.ownBlock], HOq.out⟩, p0, p1, HBq⟩
    case round =>
      clear p0 p1 HOq HBq
      obtain ⟨k, hk, rfl, HOwn, p0, p1, HB⟩ := hrel
      obtain ⟨oa, oc, rfl⟩ := own_shape HOwn.out.2
      have hll := meetK_len fA fB k
      by_cases hlt : k < st.length
      · obtain ⟨sg, sgo, rfl, hsg, yk⟩ := HCs.out k hlt
        have yk := bkeep HB.out.1 yk
        have y0 := bkeep HB.out.1 ya0
        have y1 := bkeep HB.out.1 ya1
        have y2 := bkeep HB.out.1 yb0
        have y3 := bkeep HB.out.1 yb1
        have hk1 : (k : Int) < (st.length : Int) := by omega
        have HA := Lib.hid (HCa.out k hlt)
        have HBc := Lib.hid (HCb.out k hlt)
        have hA0 := HA0.out k hlt
        rw [← HRa.out k hlt] at HA
        rw [← HRb.out k hlt] at HBc
        have HYes := Lib.hid (fun (h : fB k = fA k) => meetK_yes h)
        have HNo := Lib.hid (fun (h : ¬ fB k = fA k) => meetK_no h)
        generalize st[k]'hlt = s at *
        generalize hfa : fA k = rA at *
        generalize hfb : fB k = rB at *
        clear hfa hfb
        go_wp2_with fail
        rw [restT_yes hA0] at HA
        go_region_held3 (fun w' => w'.cell? ⟨w.heap.size, 0, none⟩ = some (.slice a0 n.stops.length c) ∧ w'.cell? ⟨w.heap.size, 1, none⟩ = some (.slice (some ⟨sb, so, none⟩) n.lines.length c') ∧ w'.cell? ⟨g, go + ka * 2, none⟩ = some (.int .i64 (la : Int)) ∧ w'.cell? ⟨g, go + ka * 2 + 1, none⟩ = some (.int .i64 ao) ∧ w'.cell? ⟨g, go + kb * 2, none⟩ = some (.int .i64 bl) ∧ w'.cell? ⟨g, go + kb * 2 + 1, none⟩ = some (.int .i64 bo) ∧ w'.cell? ⟨sg, sgo + k, none⟩ = some (.int .i64 s) ∧ Below wr.heap.size wr w')
          (first | (exact ⟨p0, p1, y0, y1, y2, y3, yk, (Below.refl _ _).drew⟩) | (exact keepMt hb (by assumption)))
          ((go_at_call 78; refine (HA.out _ (HB.out.1.trans ((belMt (by assumption)).mono HB.out.1.size))).mono ?_; rintro e w' ⟨rfl, hb⟩))
        obtain ⟨q0, q1, z0, z1, z2, z3, zk, qb⟩ := (by assumption : _ ∧ _)
        rename World => wx
        have HOx : Hid ((Value.slice oa (meetK fA fB k).length oc).ownBlock ≠ none ∧ wx.ownsRow (w.heap.size + 1) 3 1 (.slice oa (meetK fA fB k).length oc) (meetK fA fB k).length (ints (meetK fA fB k))) := ⟨HOwn.out.1, own_later HOwn.out.2 qb⟩
        have HBx : Hid (Below w.heap.size w wx ∧ w.heap.size + 1 < wx.heap.size) := ⟨HB.out.1.trans (qb.mono HB.out.1.size), by have := qb.size; have := HB.out.2; omega⟩
        clear p0 p1 y0 y1 y2 y3 yk qb HOwn HB HA
        by_cases hn : rB < 0
        · rw [restT_no hn] at HBc
          go_wp2_with fail
          go_region_held3 (fun w' => w'.cell? ⟨w.heap.size, 0, none⟩ = some (.slice a0 n.stops.length c) ∧ w'.cell? ⟨w.heap.size, 1, none⟩ = some (.slice (some ⟨sb, so, none⟩) n.lines.length c') ∧ w'.cell? ⟨g, go + ka * 2, none⟩ = some (.int .i64 (la : Int)) ∧ w'.cell? ⟨g, go + ka * 2 + 1, none⟩ = some (.int .i64 ao) ∧ w'.cell? ⟨g, go + kb * 2, none⟩ = some (.int .i64 bl) ∧ w'.cell? ⟨g, go + kb * 2 + 1, none⟩ = some (.int .i64 bo) ∧ w'.cell? ⟨sg, sgo + k, none⟩ = some (.int .i64 s) ∧ Below wx.heap.size wx w')
            (first | (exact ⟨q0, q1, z0, z1, z2, z3, zk, (Below.refl _ _).drew⟩) | (exact keepMt hb (by assumption)))
            ((go_at_call 78; refine (HBc.out _ (HBx.out.1.trans ((belMt (by assumption)).mono HBx.out.1.size))).mono ?_; rintro e w' ⟨rfl, hb⟩))
          obtain ⟨r0, r1, -, -, -, -, -, qb⟩ := (by assumption : _ ∧ _)
          rename World => w2
          have HO2 : Hid ((Value.slice oa (meetK fA fB k).length oc).ownBlock ≠ none ∧ w2.ownsRow (w.heap.size + 1) 3 1 (.slice oa (meetK fA fB k).length oc) (meetK fA fB k).length (ints (meetK fA fB k))) := ⟨HOx.out.1, own_later HOx.out.2 qb⟩
          have HB2 : Hid (Below w.heap.size w w2 ∧ w.heap.size + 1 < w2.heap.size) := ⟨HBx.out.1.trans (qb.mono HBx.out.1.size), by have := qb.size; have := HBx.out.2; omega⟩
          clear q0 q1 z0 z1 z2 z3 zk qb HOx HBx HBc
          have q0 := r0
          have q1 := r1
          clear r0 r1
          have HSucc := Lib.hid (HNo.out (by omega))
          have HRr : Hid ((Value.slice oa (meetK fA fB k).length oc).ownBlock ≠ none ∧ w2.ownsRow (w.heap.size + 1) 3 1 (.slice oa (meetK fA fB k).length oc) (meetK fA fB (k + 1)).length (ints (meetK fA fB (k + 1)))) := by show _ ∧ World.ownsRow _ _ _ _ _ _ _; rw [HSucc.out]; exact HO2.out
          clear HYes HNo
          go_wp2_with fail
          go_roundw
          case rel => exact ⟨k + 1, by omega, by go_num, HRr, q0, q1, HB2⟩
          case measure => simp [RowKit.intOf]; omega
        · rw [restT_yes (by omega)] at HBc
          go_wp2_with fail
          go_region_held3 (fun w' => w'.cell? ⟨w.heap.size, 0, none⟩ = some (.slice a0 n.stops.length c) ∧ w'.cell? ⟨w.heap.size, 1, none⟩ = some (.slice (some ⟨sb, so, none⟩) n.lines.length c') ∧ w'.cell? ⟨g, go + ka * 2, none⟩ = some (.int .i64 (la : Int)) ∧ w'.cell? ⟨g, go + ka * 2 + 1, none⟩ = some (.int .i64 ao) ∧ w'.cell? ⟨g, go + kb * 2, none⟩ = some (.int .i64 bl) ∧ w'.cell? ⟨g, go + kb * 2 + 1, none⟩ = some (.int .i64 bo) ∧ w'.cell? ⟨sg, sgo + k, none⟩ = some (.int .i64 s) ∧ Below wx.heap.size wx w')
            (first | (exact ⟨q0, q1, z0, z1, z2, z3, zk, (Below.refl _ _).drew⟩) | (exact keepMt hb (by assumption)))
            ((go_at_call 78; refine (HBc.out _ (HBx.out.1.trans ((belMt (by assumption)).mono HBx.out.1.size))).mono ?_; rintro e w' ⟨rfl, hb⟩))
          obtain ⟨r0, r1, -, -, -, -, -, qb⟩ := (by assumption : _ ∧ _)
          rename World => w2
          have HO2 : Hid ((Value.slice oa (meetK fA fB k).length oc).ownBlock ≠ none ∧ w2.ownsRow (w.heap.size + 1) 3 1 (.slice oa (meetK fA fB k).length oc) (meetK fA fB k).length (ints (meetK fA fB k))) := ⟨HOx.out.1, own_later HOx.out.2 qb⟩
          have HB2 : Hid (Below w.heap.size w w2 ∧ w.heap.size + 1 < w2.heap.size) := ⟨HBx.out.1.trans (qb.mono HBx.out.1.size), by have := qb.size; have := HBx.out.2; omega⟩
          clear q0 q1 z0 z1 z2 z3 zk qb HOx HBx HBc
          have q0 := r0
          have q1 := r1
          clear r0 r1
          by_cases heq : rB = rA
          · have HSucc := Lib.hid (HYes.out heq)
            have hz := HB2.out.2
            have he1 : (rA == rB) = true := by simp [heq]
            have he2 : decide (rA = rB) = true := decide_eq_true heq.symm
            clear HYes HNo
            go_wp2_with (at_builtin; refine wpList_append_own _ rfl _ _ 31 rfl (w.heap.size + 1) 3 i0 (.int .i64 0) 1 8 Try.underlying31 hi0 hz0 hz1 hz2 rfl (by decide) _ _ _ rfl (HO2.out.2.alloc _) ⟨w2.heap.size, 0, none⟩ 1 1 [.int .i64 (k : Int)] rfl rfl ?c1 ?c2 ?c3 ?c4 ?c5 ?_)
            try (case c1 => exact one_newN _ _ _ (by simp))
            case c2 => first | rfl | (intro u hu; simp at hu; subst hu; rfl)
            case c3 => first | omega | (unfold maxLen; omega)
            case c4 => omega
            case c5 => first | omega | (simp; omega)
            intro v' w3 hown' hgrow _
            have ho : Value.ownBlock (.slice oa (meetK fA fB k).length oc) ≠ some w.heap.size := fun e => by have := (HO2.out.2.lt w.heap.size e).1; omega
            have HB3 : Hid (Below w.heap.size w w3 ∧ w.heap.size + 1 < w3.heap.size) := ⟨(HB2.out.1.alloc (by omega) _).grown hgrow (by simp; omega) (fun g hg => by have := (HO2.out.2.lt g hg).1; omega), by have := hgrow.size; simp at this; omega⟩
            have z0 : w3.cell? ⟨w.heap.size, 0, none⟩ = some (.slice a0 n.stops.length c) := hgrow.cell (acell q0 _) (fun e => ho e.symm)
            have z1 : w3.cell? ⟨w.heap.size, 1, none⟩ = some (.slice (some ⟨sb, so, none⟩) n.lines.length c') := hgrow.cell (acell q1 _) (fun e => ho e.symm)
            have HRr : Hid (v'.ownBlock ≠ none ∧ w3.ownsRow (w.heap.size + 1) 3 1 v' (meetK fA fB (k + 1)).length (ints (meetK fA fB (k + 1)))) := by
              refine ⟨own_someE hown' (by omega), ?_⟩
              rw [HSucc.out]; simpa [ints] using hown'
            clear hown' hgrow ho
            go_wp2_with fail
            go_roundw
            case rel => exact ⟨k + 1, by omega, by go_num, HRr, z0, z1, HB3⟩
            case measure => simp [RowKit.intOf]; omega
          · have HSucc := Lib.hid (HNo.out heq)
            have HRr : Hid ((Value.slice oa (meetK fA fB k).length oc).ownBlock ≠ none ∧ w2.ownsRow (w.heap.size + 1) 3 1 (.slice oa (meetK fA fB k).length oc) (meetK fA fB (k + 1)).length (ints (meetK fA fB (k + 1)))) := by show _ ∧ World.ownsRow _ _ _ _ _ _ _; rw [HSucc.out]; exact HO2.out
            have he1 : (rA == rB) = false := by simp; omega
            have he2 : decide (rA = rB) = false := decide_eq_false (fun e => heq e.symm)
            clear HYes HNo
            go_wp2_with fail
            go_roundw
            case rel => exact ⟨k + 1, by omega, by go_num, HRr, q0, q1, HB2⟩
            case measure => simp [RowKit.intOf]; omega
      · obtain rfl : k = st.length := by omega
        have HX := Lib.hid (own_base HOwn.out.2 (Nat.le_succ w.heap.size))
        clear HOwn
        go_wp2_with fail
        go_ret2
        exact ⟨⟨_, rfl, HX.out⟩, HB.out.1⟩

set_option maxRecDepth 100000 in
set_option maxHeartbeats 4000000 in
theorem specMeeting_any (nv lv : Value) (n : NetD) (p : Int) (xs : List PatternD) (a b : Int) (w : World) (hr : NetAt w nv n) (hw : PatternsAt w lv xs) (hf : NetFits n) (hs : NetSmall n) (hxs : PatternsSmall xs) :
    Calls Try.prog 36 #[nv, .int .i64 p, lv, .int .i64 a, .int .i64 b] w fun e w' => StAns w.heap.size (mtF n p xs a b) (mtB n p xs a b) e w' ∧ Below w.heap.size w w' := by
  have HG := Lib.hid (fun W (hW : Below w.heap.size w W) => l10Good_any nv lv n p xs W (hr.below rfl hW) (hw.below rfl hW) hf)
  have HRs := Lib.hid (fun (h : PatsGood n p xs) k (hk : k < xs.length) s W (hW : Below w.heap.size w W) => l10Rest_any nv n p xs[k] s W (hr.below rfl hW) h.1 h.2.1 (h.2.2.2 k hk))
  have HNet := Lib.hid (fun k (hk : k < n.lines.length) => hr)
  have HPt := Lib.hid hw
  have HNt := Lib.hid hr
  obtain ⟨a0, c, a', c', rfl, -, -⟩ := net_open hr
  obtain ⟨lb, d, rfl⟩ := PatternS_open hw
  have hxs2 : xs.length ≤ 1048576 := hxs
  clear hr hw hf hs HNet hxs
  have hlw : IntKind.i64.wrap ((xs.length : Int) - 1) = (xs.length : Int) - 1 := IntWalk.i64_in _ (by omega)
  cases hg : patsB n p xs with
  | false =>
    rw [hg] at HG
    have hm : mtB n p xs a b = false := by unfold mtB; rw [hg]; rfl
    rw [hm, mtF_no hm]
    clear hm hg HRs HPt HNt
    go_enter Try.func36, Try.ntmps36
    go_wp2_with fail
    have HO0 := Lib.hid (row_new (w.alloc (.cells #[.slice a0 n.stops.length c, .slice a' n.lines.length c'] 27)) (w.heap.size + 1) (by simp))
    have hb0 : Below w.heap.size w ((w.alloc (.cells #[.slice a0 n.stops.length c, .slice a' n.lines.length c'] 27)).alloc (.cells #[] 3)) := ((Below.refl _ _).alloc (Nat.le_refl _) _).alloc (by simp) _
    obtain ⟨wa, hwa⟩ : ∃ wa : World, wa = (w.alloc (.cells #[.slice a0 n.stops.length c, .slice a' n.lines.length c'] 27)).alloc (.cells #[] 3) := ⟨_, rfl⟩
    have p0 : wa.cell? ⟨w.heap.size, 0, none⟩ = some (.slice a0 n.stops.length c) := by rw [hwa]; go_simp
    have p1 : wa.cell? ⟨w.heap.size, 1, none⟩ = some (.slice a' n.lines.length c') := by rw [hwa]; go_simp
    have hza : w.heap.size + 1 < wa.heap.size := by rw [hwa]; simp
    rw [← hwa] at HO0 hb0 ⊢
    simp only [World.size_alloc] at HO0
    clear hwa
    go_at_call 83
    refine (HG.out _ hb0).mono ?_
    rintro e w1 ⟨rfl, hb1⟩
    have HB1 : Hid (Below w.heap.size w w1 ∧ w.heap.size + 1 < w1.heap.size) := ⟨hb0.trans (hb1.mono hb0.size), by have := hb1.size; omega⟩
    have HO1 := Lib.hid (own_later HO0.out hb1)
    have p0 := bkeep hb1 p0
    have p1 := bkeep hb1 p1
    clear hb1 hb0 HO0 HG hza
    go_wp2_with fail
    go_ret2
    exact ⟨⟨_, rfl, own_base HO1.out (Nat.le_succ _)⟩, HB1.out.1⟩
  | true =>
    rw [hg] at HG
    by_cases hia : 0 ≤ a ∧ a ≤ (xs.length : Int) - 1
    · have HIA : Hid (∀ W : World, Calls Try.prog 66 #[.int .i64 a, .int .i64 0, .int .i64 ((xs.length : Int) - 1)] W fun e w' => e = .returned (.bool true) ∧ W = w') := fun W => l1In_yes _ _ _ W hia
      by_cases hib : 0 ≤ b ∧ b ≤ (xs.length : Int) - 1
      · have HIB : Hid (∀ W : World, Calls Try.prog 66 #[.int .i64 b, .int .i64 0, .int .i64 ((xs.length : Int) - 1)] W fun e w' => e = .returned (.bool true) ∧ W = w') := fun W => l1In_yes _ _ _ W hib
        have hm : mtB n p xs a b = true := mtB_yes (patsB_iff hg) (by omega) (by omega)
        rw [hm]
        obtain ⟨hgood, ⟨ha0, ha1⟩, ⟨hb0, hb1⟩⟩ := mtB_iff hm
        obtain ⟨ka, rfl⟩ := Int.eq_ofNat_of_zero_le ha0
        obtain ⟨kb, rfl⟩ := Int.eq_ofNat_of_zero_le hb0
        have hka : ka < xs.length := by omega
        have hkb : kb < xs.length := by omega
        obtain ⟨la, hla, hll⟩ := pat_line (hgood.2.2.2 ka hka)
        have hMF := mtF_yes hm hka hkb hla hll
        rw [hMF]
        have hgl := (good_line hgood.1 la hll).2.1
        have HA0 := Lib.hid (fun k (hk : k < n.lines[la].stops.length) => rsAt_own (n := n) (p := p) (x := xs[ka]) hgood.2.1.1 hla hll hk)
        have HCa := Lib.hid (fun k (hk : k < n.lines[la].stops.length) W hW => HRs.out hgood ka hka n.lines[la].stops[k] W hW)
        have HCb := Lib.hid (fun k (hk : k < n.lines[la].stops.length) W hW => HRs.out hgood kb hkb n.lines[la].stops[k] W hW)
        have HRa : Hid (∀ k (hk : k < n.lines[la].stops.length), rsAt n p xs[ka] n.lines[la].stops k = restI n p xs[ka] n.lines[la].stops[k]) := fun k hk => rsAt_get hk
        have HRb : Hid (∀ k (hk : k < n.lines[la].stops.length), rsAt n p xs[kb] n.lines[la].stops k = restI n p xs[kb] n.lines[la].stops[k]) := fun k hk => rsAt_get hk
        obtain ⟨sb, so, s0, s1, r0, r1, rfl, hsb, -, x1, -, hrs, -⟩ := net_line HNt.out la hll
        obtain ⟨g, go, rfl, hgb, ya0, ya1⟩ := pat_at HPt.out ka hka
        obtain ⟨_, _, he, -, yb0, yb1⟩ := pat_at HPt.out kb hkb
        simp at he
        obtain ⟨rfl, rfl⟩ := he
        obtain ⟨_, _, he, hq1, hq2, HCs⟩ := ints_open hrs
        simp at he
        obtain ⟨rfl, rfl⟩ := he
        clear HRs HPt HNt hMF hrs hm hg hia hib
        obtain ⟨i0, hi0, hz0, hz1, hz2⟩ := info_parts infoInt
        have hka1 : (ka : Int) < (xs.length : Int) := by omega
        have hkb1 : (kb : Int) < (xs.length : Int) := by omega
        have hll1 : (la : Int) < (n.lines.length : Int) := by omega
        generalize rsAt n p xs[ka] n.lines[la].stops = fA at *
        generalize rsAt n p xs[kb] n.lines[la].stops = fB at *
        generalize n.lines[la].stops = st at *
        generalize xs[ka] = A at *
        generalize xs[kb] = B at *
        obtain ⟨al, ao⟩ := A
        obtain ⟨bl, bo⟩ := B
        simp only at hla
        subst hla
        unfold patV at HCa HCb
        simp only at *
        have hst : st.length ≤ 6 := hgl.2.1
        clear hgl hgood ha0 ha1 hb0 hb1
        go_enter Try.func36, Try.ntmps36
        go_wp2_with fail
        have HO0 := Lib.hid (row_new (w.alloc (.cells #[.slice a0 n.stops.length c, .slice (some ⟨sb, so, none⟩) n.lines.length c'] 27)) (w.heap.size + 1) (by simp))
        have hb0 : Below w.heap.size w ((w.alloc (.cells #[.slice a0 n.stops.length c, .slice (some ⟨sb, so, none⟩) n.lines.length c'] 27)).alloc (.cells #[] 3)) := ((Below.refl _ _).alloc (Nat.le_refl _) _).alloc (by simp) _
        obtain ⟨wa, hwa⟩ : ∃ wa : World, wa = (w.alloc (.cells #[.slice a0 n.stops.length c, .slice (some ⟨sb, so, none⟩) n.lines.length c'] 27)).alloc (.cells #[] 3) := ⟨_, rfl⟩
        have p0 : wa.cell? ⟨w.heap.size, 0, none⟩ = some (.slice a0 n.stops.length c) := by rw [hwa]; go_simp
        have p1 : wa.cell? ⟨w.heap.size, 1, none⟩ = some (.slice (some ⟨sb, so, none⟩) n.lines.length c') := by rw [hwa]; go_simp
        have hza : w.heap.size + 1 < wa.heap.size := by rw [hwa]; simp
        rw [← hwa] at HO0 hb0 ⊢
        simp only [World.size_alloc] at HO0
        clear hwa
        go_at_call 83
        refine (HG.out _ hb0).mono ?_
        rintro e w1 ⟨rfl, hb1⟩
        have HB1 : Hid (Below w.heap.size w w1 ∧ w.heap.size + 1 < w1.heap.size) := ⟨hb0.trans (hb1.mono hb0.size), by have := hb1.size; omega⟩
        have HO1 := Lib.hid (own_later HO0.out hb1)
        have p0 := bkeep hb1 p0
        have p1 := bkeep hb1 p1
        clear hb1 hb0 HO0 HG hza
        go_wp2_with fail
        go_at_call 66
        refine (HIA.out _).mono ?_
        rintro e w2 ⟨rfl, rfl⟩
        go_wp2_with fail
        go_at_call 66
        refine (HIB.out _).mono ?_
        rintro e w2 ⟨rfl, rfl⟩
        go_wp2_with fail
        have x1 := bkeep HB1.out.1 x1
        have y0 := bkeep HB1.out.1 ya0
        have y1 := bkeep HB1.out.1 ya1
        have y2 := bkeep HB1.out.1 yb0
        have y3 := bkeep HB1.out.1 yb1
        go_quiet (fail)
        go_wp2_with fail
        obtain ⟨nq0, hnq0⟩ : ∃ W : World, W = w1.drewN nq := ⟨_, rfl⟩
        have HBq : Hid (Below w.heap.size w nq0 ∧ w.heap.size + 1 < nq0.heap.size) := by rw [hnq0]; exact ⟨below_drewN HB1.out.1 _, HB1.out.2⟩
        have HOq : Hid (nq0.ownsRow (w.heap.size + 1) 3 1 (.slice (some ⟨w.heap.size + 1, 0, none⟩) 0 0) 0 (ints [])) := by show World.ownsRow _ _ _ _ _ _ _; rw [hnq0]; exact own_later HO1.out (below_drewN (Below.refl _ _) _)
        have p0 : nq0.cell? ⟨w.heap.size, 0, none⟩ = some (.slice a0 n.stops.length c) := by rw [hnq0]; exact bkeep (below_drewN (Below.refl _ _) _) p0
        have p1 : nq0.cell? ⟨w.heap.size, 1, none⟩ = some (.slice (some ⟨sb, so, none⟩) n.lines.length c') := by rw [hnq0]; exact bkeep (below_drewN (Below.refl _ _) _) p1
        rw [← hnq0]
        clear hnq0 x1 y0 y1 y2 y3 HO1 HB1
        go_loopw [12, 14] (fun o q wr => ∃ k : Nat, k ≤ st.length ∧ q = .int .i64 k ∧ Hid (o.ownBlock ≠ none ∧ wr.ownsRow (w.heap.size + 1) 3 1 o (meetK fA fB k).length (ints (meetK fA fB k))) ∧ wr.cell? ⟨w.heap.size, 0, none⟩ = some (.slice a0 n.stops.length c) ∧ wr.cell? ⟨w.heap.size, 1, none⟩ = some (.slice (some ⟨sb, so, none⟩) n.lines.length c') ∧ Hid (Below w.heap.size w wr ∧ w.heap.size + 1 < wr.heap.size))
          (fun _ q _ => st.length - (RowKit.intOf q).toNat)
        case atStart => exact ⟨0, Nat.zero_le _, rfl, ⟨by simp [Value.ownBlock], HOq.out⟩, p0, p1, HBq⟩
        case round =>
          clear p0 p1 HOq HBq
          obtain ⟨k, hk, rfl, HOwn, p0, p1, HB⟩ := hrel
          obtain ⟨oa, oc, rfl⟩ := own_shape HOwn.out.2
          have hll := meetK_len fA fB k
          by_cases hlt : k < st.length
          · obtain ⟨sg, sgo, rfl, hsg, yk⟩ := HCs.out k hlt
            have yk := bkeep HB.out.1 yk
            have y0 := bkeep HB.out.1 ya0
            have y1 := bkeep HB.out.1 ya1
            have y2 := bkeep HB.out.1 yb0
            have y3 := bkeep HB.out.1 yb1
            have hk1 : (k : Int) < (st.length : Int) := by omega
            have HA := Lib.hid (HCa.out k hlt)
            have HBc := Lib.hid (HCb.out k hlt)
            have hA0 := HA0.out k hlt
            rw [← HRa.out k hlt] at HA
            rw [← HRb.out k hlt] at HBc
            have HYes := Lib.hid (fun (h : fB k = fA k) => meetK_yes h)
            have HNo := Lib.hid (fun (h : ¬ fB k = fA k) => meetK_no h)
            generalize st[k]'hlt = s at *
            generalize hfa : fA k = rA at *
            generalize hfb : fB k = rB at *
            clear hfa hfb
            go_wp2_with fail
            go_region_held3 (fun w' => w'.cell? ⟨w.heap.size, 0, none⟩ = some (.slice a0 n.stops.length c) ∧ w'.cell? ⟨w.heap.size, 1, none⟩ = some (.slice (some ⟨sb, so, none⟩) n.lines.length c') ∧ w'.cell? ⟨g, go + ka * 2, none⟩ = some (.int .i64 (la : Int)) ∧ w'.cell? ⟨g, go + ka * 2 + 1, none⟩ = some (.int .i64 ao) ∧ w'.cell? ⟨g, go + kb * 2, none⟩ = some (.int .i64 bl) ∧ w'.cell? ⟨g, go + kb * 2 + 1, none⟩ = some (.int .i64 bo) ∧ w'.cell? ⟨sg, sgo + k, none⟩ = some (.int .i64 s) ∧ Below wr.heap.size wr w')
              (first | (exact ⟨p0, p1, y0, y1, y2, y3, yk, (Below.refl _ _).drew⟩) | (exact keepMt hb (by assumption)))
              (first | (go_at_call_of 82 (Value.agg #[Value.int .i64 (la : Int), Value.int .i64 ao]); refine (HA.out _ (HB.out.1.trans ((belMt (by assumption)).mono HB.out.1.size))).mono ?_; rintro e w' ⟨rfl, hb⟩) | (go_at_call_of 82 (Value.agg #[Value.int .i64 bl, Value.int .i64 bo]); refine (HBc.out _ (HB.out.1.trans ((belMt (by assumption)).mono HB.out.1.size))).mono ?_; rintro e w' ⟨rfl, hb⟩))
            all_goals
              obtain ⟨q0, q1, -, -, -, -, -, qb⟩ := (by assumption : _ ∧ _)
              rename World => w2
              have HO2 : Hid ((Value.slice oa (meetK fA fB k).length oc).ownBlock ≠ none ∧ w2.ownsRow (w.heap.size + 1) 3 1 (.slice oa (meetK fA fB k).length oc) (meetK fA fB k).length (ints (meetK fA fB k))) := ⟨HOwn.out.1, own_later HOwn.out.2 qb⟩
              have HB2 : Hid (Below w.heap.size w w2 ∧ w.heap.size + 1 < w2.heap.size) := ⟨HB.out.1.trans (qb.mono HB.out.1.size), by have := qb.size; have := HB.out.2; omega⟩
              clear p0 p1 y0 y1 y2 y3 yk qb HOwn HB HA HBc
              by_cases heq : rB = rA
              · have HSucc := Lib.hid (HYes.out heq)
                have hz := HB2.out.2
                have he1 : (rB == rA) = true := by simp [heq]
                have he2 : decide (rB = rA) = true := decide_eq_true heq
                clear HYes HNo
                go_wp2_with (at_builtin; refine wpList_append_own _ rfl _ _ 31 rfl (w.heap.size + 1) 3 i0 (.int .i64 0) 1 8 Try.underlying31 hi0 hz0 hz1 hz2 rfl (by decide) _ _ _ rfl (HO2.out.2.alloc _) ⟨w2.heap.size, 0, none⟩ 1 1 [.int .i64 (k : Int)] rfl rfl ?c1 ?c2 ?c3 ?c4 ?c5 ?_)
                try (case c1 => exact one_newN _ _ _ (by simp))
                case c2 => first | rfl | (intro u hu; simp at hu; subst hu; rfl)
                case c3 => first | omega | (unfold maxLen; omega)
                case c4 => omega
                case c5 => first | omega | (simp; omega)
                intro v' w3 hown' hgrow _
                have ho : Value.ownBlock (.slice oa (meetK fA fB k).length oc) ≠ some w.heap.size := fun e => by have := (HO2.out.2.lt w.heap.size e).1; omega
                have HB3 : Hid (Below w.heap.size w w3 ∧ w.heap.size + 1 < w3.heap.size) := ⟨(HB2.out.1.alloc (by omega) _).grown hgrow (by simp; omega) (fun g hg => by have := (HO2.out.2.lt g hg).1; omega), by have := hgrow.size; simp at this; omega⟩
                have z0 : w3.cell? ⟨w.heap.size, 0, none⟩ = some (.slice a0 n.stops.length c) := hgrow.cell (acell q0 _) (fun e => ho e.symm)
                have z1 : w3.cell? ⟨w.heap.size, 1, none⟩ = some (.slice (some ⟨sb, so, none⟩) n.lines.length c') := hgrow.cell (acell q1 _) (fun e => ho e.symm)
                have HRr : Hid (v'.ownBlock ≠ none ∧ w3.ownsRow (w.heap.size + 1) 3 1 v' (meetK fA fB (k + 1)).length (ints (meetK fA fB (k + 1)))) := by
                  refine ⟨own_someE hown' (by omega), ?_⟩
                  rw [HSucc.out]; simpa [ints] using hown'
                clear hown' hgrow ho
                go_wp2_with fail
                go_roundw
                case rel => exact ⟨k + 1, by omega, by go_num, HRr, z0, z1, HB3⟩
                case measure => simp [RowKit.intOf]; omega
              · have HSucc := Lib.hid (HNo.out heq)
                have HRr : Hid ((Value.slice oa (meetK fA fB k).length oc).ownBlock ≠ none ∧ w2.ownsRow (w.heap.size + 1) 3 1 (.slice oa (meetK fA fB k).length oc) (meetK fA fB (k + 1)).length (ints (meetK fA fB (k + 1)))) := by show _ ∧ World.ownsRow _ _ _ _ _ _ _; rw [HSucc.out]; exact HO2.out
                have he1 : (rB == rA) = false := by simp; omega
                have he2 : decide (rB = rA) = false := decide_eq_false heq
                clear HYes HNo
                go_wp2_with fail
                go_roundw
                case rel => exact ⟨k + 1, by omega, by go_num, HRr, q0, q1, HB2⟩
                case measure => simp [RowKit.intOf]; omega
          · obtain rfl : k = st.length := by omega
            have HX := Lib.hid (own_base HOwn.out.2 (Nat.le_succ w.heap.size))
            clear HOwn
            go_wp2_with fail
            go_ret2
            exact ⟨⟨_, rfl, HX.out⟩, HB.out.1⟩
      · have HIB : Hid (∀ W : World, Calls Try.prog 66 #[.int .i64 b, .int .i64 0, .int .i64 ((xs.length : Int) - 1)] W fun e w' => e = .returned (.bool false) ∧ W = w') := fun W => l1In_no _ _ _ W hib
        have hm : mtB n p xs a b = false := mtB_no (fun h => by omega)
        rw [hm, mtF_no hm]
        clear hm hg HRs HPt HNt hia hib
        go_enter Try.func36, Try.ntmps36
        go_wp2_with fail
        have HO0 := Lib.hid (row_new (w.alloc (.cells #[.slice a0 n.stops.length c, .slice a' n.lines.length c'] 27)) (w.heap.size + 1) (by simp))
        have hb0 : Below w.heap.size w ((w.alloc (.cells #[.slice a0 n.stops.length c, .slice a' n.lines.length c'] 27)).alloc (.cells #[] 3)) := ((Below.refl _ _).alloc (Nat.le_refl _) _).alloc (by simp) _
        obtain ⟨wa, hwa⟩ : ∃ wa : World, wa = (w.alloc (.cells #[.slice a0 n.stops.length c, .slice a' n.lines.length c'] 27)).alloc (.cells #[] 3) := ⟨_, rfl⟩
        have p0 : wa.cell? ⟨w.heap.size, 0, none⟩ = some (.slice a0 n.stops.length c) := by rw [hwa]; go_simp
        have p1 : wa.cell? ⟨w.heap.size, 1, none⟩ = some (.slice a' n.lines.length c') := by rw [hwa]; go_simp
        have hza : w.heap.size + 1 < wa.heap.size := by rw [hwa]; simp
        rw [← hwa] at HO0 hb0 ⊢
        simp only [World.size_alloc] at HO0
        clear hwa
        go_at_call 83
        refine (HG.out _ hb0).mono ?_
        rintro e w1 ⟨rfl, hb1⟩
        have HB1 : Hid (Below w.heap.size w w1 ∧ w.heap.size + 1 < w1.heap.size) := ⟨hb0.trans (hb1.mono hb0.size), by have := hb1.size; omega⟩
        have HO1 := Lib.hid (own_later HO0.out hb1)
        have p0 := bkeep hb1 p0
        have p1 := bkeep hb1 p1
        clear hb1 hb0 HO0 HG hza
        go_wp2_with fail
        go_at_call 66
        refine (HIA.out _).mono ?_
        rintro e w2 ⟨rfl, rfl⟩
        go_wp2_with fail
        go_at_call 66
        refine (HIB.out _).mono ?_
        rintro e w2 ⟨rfl, rfl⟩
        go_wp2_with fail
        go_ret2
        exact ⟨⟨_, rfl, own_base HO1.out (Nat.le_succ _)⟩, HB1.out.1⟩
    · have HIA : Hid (∀ W : World, Calls Try.prog 66 #[.int .i64 a, .int .i64 0, .int .i64 ((xs.length : Int) - 1)] W fun e w' => e = .returned (.bool false) ∧ W = w') := fun W => l1In_no _ _ _ W hia
      have hm : mtB n p xs a b = false := mtB_no (fun h => by omega)
      rw [hm, mtF_no hm]
      clear hm hg HRs HPt HNt hia
      go_enter Try.func36, Try.ntmps36
      go_wp2_with fail
      have HO0 := Lib.hid (row_new (w.alloc (.cells #[.slice a0 n.stops.length c, .slice a' n.lines.length c'] 27)) (w.heap.size + 1) (by simp))
      have hb0 : Below w.heap.size w ((w.alloc (.cells #[.slice a0 n.stops.length c, .slice a' n.lines.length c'] 27)).alloc (.cells #[] 3)) := ((Below.refl _ _).alloc (Nat.le_refl _) _).alloc (by simp) _
      obtain ⟨wa, hwa⟩ : ∃ wa : World, wa = (w.alloc (.cells #[.slice a0 n.stops.length c, .slice a' n.lines.length c'] 27)).alloc (.cells #[] 3) := ⟨_, rfl⟩
      have p0 : wa.cell? ⟨w.heap.size, 0, none⟩ = some (.slice a0 n.stops.length c) := by rw [hwa]; go_simp
      have p1 : wa.cell? ⟨w.heap.size, 1, none⟩ = some (.slice a' n.lines.length c') := by rw [hwa]; go_simp
      have hza : w.heap.size + 1 < wa.heap.size := by rw [hwa]; simp
      rw [← hwa] at HO0 hb0 ⊢
      simp only [World.size_alloc] at HO0
      clear hwa
      go_at_call 83
      refine (HG.out _ hb0).mono ?_
      rintro e w1 ⟨rfl, hb1⟩
      have HB1 : Hid (Below w.heap.size w w1 ∧ w.heap.size + 1 < w1.heap.size) := ⟨hb0.trans (hb1.mono hb0.size), by have := hb1.size; omega⟩
      have HO1 := Lib.hid (own_later HO0.out hb1)
      have p0 := bkeep hb1 p0
      have p1 := bkeep hb1 p1
      clear hb1 hb0 HO0 HG hza
      go_wp2_with fail
      go_at_call 66
      refine (HIA.out _).mono ?_
      rintro e w2 ⟨rfl, rfl⟩
      go_wp2_with fail
      go_ret2
      exact ⟨⟨_, rfl, own_base HO1.out (Nat.le_succ _)⟩, HB1.out.1⟩

end Go.Proofs.Ytfgkfdkdjegaiaa
