/-
  CONTRACT of impl.ServedStops.
-/
import Derived.Test.YtniankcjgcackaaServedP
import Derived.Test.YtniankcjgcackaaL8Arr
namespace Go.Proofs.Ytniankcjgcackaa
open Go.RowKit Go.Maps Jrn
set_option linter.unusedVariables false
set_option linter.unusedSimpArgs false

set_option maxRecDepth 100000 in
set_option maxHeartbeats 8000000 in
theorem implSV_any (v lv : Value) (t : TTD) (ch : Int) (cs : List LegD) (w : World) (hr : TTAt w v t) (hl : LegsAt w lv cs) (hf : TTFits t) (hs : TTSmall t) (hsl : LegsSmall cs) (hfl : LegsFit cs) :
    Calls Try.prog 43 #[v, .int .i64 ch, lv] w fun e w' => StAns w.heap.size (svAns t ch cs) (ansJ t ch cs) e w' ∧ Below w.heap.size w w' := by
  have HV := Lib.hid (fun W (hW : Below w.heap.size w W) => implValidJ_any v lv t ch cs W (hr.below rfl hW) (hl.below rfl hW) hf hs hsl hfl)
  have HL := Lib.hid hl
  obtain ⟨a, c, a', c', b, d, rfl, hn, htr⟩ := tt_open hr
  obtain ⟨la, lc, rfl⟩ := LegS_open hl
  have HNt := Lib.hid hn
  have HTr := Lib.hid htr
  have hsz := hs.2
  unfold TripsSmall at hsz
  clear hr hf hl hn htr hs
  cases hans : ansJ t ch cs with
  | false =>
    rw [hans] at HV
    have HN : Hid (svAns t ch cs = []) := by show _ = _; unfold svAns; rw [hans]; rfl
    rw [HN.out]
    clear hans
    go_enter Try.func43, Try.ntmps43
    go_wp2_with fail
    go_at_call 20
    refine (HV.out _ ((Below.refl _ _).alloc (Nat.le_refl _) _)).mono ?_
    rintro e w1 ⟨rfl, hb1⟩
    have HB1 : Hid (Below w.heap.size w w1) := ((Below.refl _ _).alloc (Nat.le_refl _) _).trans (hb1.mono (by simp))
    clear hb1
    go_wp2_with fail
    go_ret2
    exact ⟨⟨.slice (some ⟨w1.heap.size, 0, none⟩) 0 0, rfl, row_new w1 _ HB1.out.size⟩, HB1.out.alloc HB1.out.size _⟩
  | true =>
    rw [hans] at HV
    obtain ⟨hg, hch, hj⟩ := ansJ_iff hans
    have HN : Hid (svAns t ch cs = [(firstL cs).frm] ++ svF t cs cs.length) := by show _ = _; unfold svAns; rw [hans]; rfl
    rw [HN.out]
    have hlen := hj.2.1
    have hlen1 := hj.1
    have HMem := Lib.hid (jrn_mem hj)
    have HG := Lib.hid hg
    have HLen := Lib.hid (svF_len hg (jrn_mem hj))
    have HE0 : Hid ((cs[0]'(by omega)).frm = (firstL cs).frm) := by
      show _ = _
      unfold firstL
      rw [List.getD_eq_getElem?_getD, List.getElem?_eq_getElem (by omega)]; rfl
    clear hans hg hch hj
    obtain ⟨f0, Hf0⟩ : ∃ f0, Hid ((firstL cs).frm = f0) := ⟨_, rfl⟩
    rw [Hf0.out] at HE0 ⊢
    go_enter Try.func43, Try.ntmps43
    go_wp2_with fail
    go_at_call 20
    refine (HV.out _ ((Below.refl _ _).alloc (Nat.le_refl _) _)).mono ?_
    rintro e w1 ⟨rfl, hb1⟩
    have HB1 : Hid (Below w.heap.size w w1) := ((Below.refl _ _).alloc (Nat.le_refl _) _).trans (hb1.mono (by simp))
    have z0 : w1.cell? ⟨w.heap.size, 0, none⟩ = some (.slice a t.net.stops.length c) := bkeep hb1 (by go_simp)
    have z1 : w1.cell? ⟨w.heap.size, 1, none⟩ = some (.slice a' t.net.lines.length c') := bkeep hb1 (by go_simp)
    have z2 : w1.cell? ⟨w.heap.size, 2, none⟩ = some (.slice b t.trips.length d) := bkeep hb1 (by go_simp)
    have hzz : w.heap.size + 1 ≤ w1.heap.size := by have := hb1.size; simpa using this
    obtain ⟨g, go, rfl, hgb, -, y1, -, -, -⟩ := leg_at (HL.out.below rfl HB1.out) 0 (by omega)
    rw [HE0.out] at y1
    simp only [Nat.zero_mul, Nat.add_zero] at y1
    have hk7 : (0 : Int) < (cs.length : Int) := by omega
    clear hb1
    obtain ⟨w2, hw2⟩ : ∃ w2 : World, w2 = w1.alloc (.cells #[.int .i64 f0] 3) := ⟨_, rfl⟩
    have HB2 : Hid (Below w.heap.size w w2) := by rw [hw2]; exact HB1.out.alloc HB1.out.size _
    have HO2 : Hid (w2.ownsRow w1.heap.size 3 1 (.slice (some ⟨w1.heap.size, 0, none⟩) 1 1) 1 (ints [f0])) := by
      have h := World.ownsRow_lit (base := w1.heap.size) (e := 3) (size := 1) w1 #[.int .i64 f0] 1 (Nat.le_refl _) (by decide) (by simp)
      rw [hw2]; show World.ownsRow _ _ _ _ _ _ _; simpa [ints] using h
    have hb12 : Below w1.heap.size w1 w2 := by rw [hw2]; exact (Below.refl _ _).alloc (Nat.le_refl _) _
    have q0 := bkeep hb12 z0
    have q1 := bkeep hb12 z1
    have q2 := bkeep hb12 z2
    have HW2 := Lib.hid hw2
    clear z0 z1 z2 hb12 hw2
    go_wp2_with fail
    rw [← HW2.out]
    clear y1 HW2
    go_loopw [8, 27] (fun o q wr => ∃ k : Nat, k ≤ cs.length ∧ q = .int .i64 (k : Int) ∧ Hid (wr.ownsRow w1.heap.size 3 1 o ([f0] ++ svF t cs k).length (ints ([f0] ++ svF t cs k))) ∧ wr.cell? ⟨w.heap.size, 0, none⟩ = some (.slice a t.net.stops.length c) ∧ wr.cell? ⟨w.heap.size, 1, none⟩ = some (.slice a' t.net.lines.length c') ∧ wr.cell? ⟨w.heap.size, 2, none⟩ = some (.slice b t.trips.length d) ∧ Hid (Below w.heap.size w wr)) (fun _ q _ => cs.length - (RowKit.intOf q).toNat)
    case atStart => exact ⟨0, by omega, by simp, HO2.out, q0, q1, q2, HB2.out⟩
    case round =>
      clear q0 q1 q2 HO2 HB2
      obtain ⟨wo, rfl⟩ : ∃ wo : World, wo = wr := ⟨_, rfl⟩
      obtain ⟨k, hk, rfl, HOwn, p0, p1, p2, HB⟩ := hrel
      obtain ⟨oa, oc, rfl⟩ := own_shape HOwn.out
      by_cases hlt : k < cs.length
      · obtain ⟨g', go', hg', hgb', u0, u1, u2, u3, u4⟩ := leg_at (HL.out.below rfl HB.out) k hlt
        simp at hg'
        obtain ⟨rfl, rfl⟩ := hg'
        have hk2 : (k : Int) < (cs.length : Int) := by omega
        have hFl := HLen.out k (by omega)
        have HFk : Hid ([f0] ++ svF t cs (k + 1) = ([f0] ++ svF t cs k) ++ segOf t cs[k]) := by show _ = _; rw [svF_succ hlt, List.append_assoc]
        have hlm := HMem.out k hlt
        generalize cs[k] = l at *
        obtain ⟨i, hi, A, B, hpo, hfo, hAB, hBl, hfA, hfB, hAg, hseg, hdst⟩ := seg_at HG.out hlm
        obtain ⟨kl, hkl, hfa⟩ := ride_facts HG.out i hi
        have hlin := hfa.line
        have hrst : (rideOf t t.trips[i]).stops = t.net.lines[kl].stops := by rw [hfa.ride]
        have hl6 := hfa.len6
        rw [hrst] at hBl hfA hfB hAg hseg hdst
        obtain ⟨lb, lo, s0, s1, r0, r1, rfl, hlb, x0, x1, x2, hrs, hrr⟩ := net_line HNt.out kl hkl
        obtain ⟨tb, to_, rfl, htb, t0, t1, t2⟩ := trip_at HTr.out i hi
        rw [hlin] at t1
        clear hrst hfa hlm t0 t2 hrr hfB hAg
        obtain ⟨ln, Hln⟩ : ∃ ln, Hid (t.net.lines[kl]'hkl = ln) := ⟨t.net.lines[kl]'hkl, rfl⟩
        rw [Hln.out] at hBl hfA hseg hdst x0 x1 x2 hrs hl6
        obtain ⟨sb, so, rfl, -, -⟩ := rowI_at hrs (by omega)
        have hcap : ln.stops.length ≤ s1 := by
          obtain ⟨a9, c9, hv9, hc9, -⟩ := hrs
          rw [ints_len] at hc9
          simp at hv9
          omega
        rw [hseg] at HFk
        obtain ⟨m, hm⟩ : ∃ m, m = B - (A + 1) := ⟨_, rfl⟩
        rw [← hm] at hdst
        rw [show B - A = m + 1 by omega] at HFk
        have HDst := Lib.hid hdst
        have hmB : A + 1 + m + 1 ≤ ln.stops.length := by omega
        have HSA := Lib.hid (fun W (hW : Below w.heap.size w W) => stopsAfter_any ln sb so s1 (.slice r0 ln.runs.length r1) l.frm A W (hrs.below rfl hW) hfA (by omega) hl6)
        have HTP := Lib.hid (fun W (hW : Below w.heap.size w W) => tripPlace_any (.slice (some ⟨tb, to_, none⟩) t.trips.length d) t.trips l.trip W (HTr.out.below rfl hW) hsz HG.out.Asc)
        rw [hpo, hfo] at HTP
        clear hpo hfo hseg hdst hfA hm
        obtain ⟨fs, Hfs⟩ : ∃ fs, Hid ([f0] ++ svF t cs k = fs) := ⟨_, rfl⟩
        have HFl : Hid (fs.length = 1 + (svF t cs k).length) := by show _ = _; rw [← Hfs.out]; simp; omega
        rw [Hfs.out] at HOwn HFk
        rw [Hfs.out]
        have hFl2 : (svF t cs k).length ≤ 24 := by omega
        obtain ⟨fs1, HF1⟩ : ∃ fs1, Hid (fs1 = fs ++ (ln.stops.drop (A + 1)).take (m + 1)) := ⟨_, rfl⟩
        rw [← HF1.out] at HFk
        have hi1 : (i : Int) < (t.trips.length : Int) := by omega
        have hi0 : (0 : Int) ≤ (i : Int) := by omega
        have hl1 : (kl : Int) < (t.net.lines.length : Int) := by omega
        have hl0 : (0 : Int) ≤ (kl : Int) := by omega
        have hbl : Below wo.heap.size wo (wo.alloc (.cells #[.int .i64 l.trip, .int .i64 l.frm, .int .i64 l.dst, .int .i64 l.dep, .int .i64 l.arr] 62)) := (Below.refl _ _).alloc (Nat.le_refl _) _
        have HBl : Hid (Below w.heap.size w (wo.alloc (.cells #[.int .i64 l.trip, .int .i64 l.frm, .int .i64 l.dst, .int .i64 l.dep, .int .i64 l.arr] 62))) := HB.out.trans (hbl.mono HB.out.size)
        have HOl := Lib.hid (own_later HOwn.out hbl)
        have b0 := bkeep hbl p0
        have b1 := bkeep hbl p1
        have b2 := bkeep hbl p2
        clear p0 p1 p2 hbl HOwn
        go_wp2_with fail
        go_at_call 111
        refine (HTP.out _ HBl.out).mono ?_
        rintro e w5 ⟨rfl, hb⟩
        have HB5 : Hid (Below w.heap.size w w5) := HBl.out.trans (hb.mono HBl.out.size)
        have HO5 := Lib.hid (own_later HOl.out hb)
        have c0 := bkeep hb b0
        have c1 := bkeep hb b1
        have c2 := bkeep hb b2
        have c3 := bkeep HB5.out t1
        have c4 := bkeep HB5.out x0
        have c5 := bkeep HB5.out x1
        have c6 := bkeep HB5.out x2
        have c7 := bkeep hb (show (wo.alloc (.cells #[.int .i64 l.trip, .int .i64 l.frm, .int .i64 l.dst, .int .i64 l.dep, .int .i64 l.arr] 62)).cell? ⟨wo.heap.size, 1, none⟩ = some (.int .i64 l.frm) by go_simp)
        have c8 := bkeep hb (show (wo.alloc (.cells #[.int .i64 l.trip, .int .i64 l.frm, .int .i64 l.dst, .int .i64 l.dep, .int .i64 l.arr] 62)).cell? ⟨wo.heap.size, 2, none⟩ = some (.int .i64 l.dst) by go_simp)
        have hz5 := hb.size
        clear hb b0 b1 b2 HOl HBl u0 u1 u2 u3 u4 t1 x0 x1 x2
        go_wp2_with fail
        refine wp_region_held_drew (S := (fun w' => w'.cell? ⟨w.heap.size, 0, none⟩ = some (.slice a t.net.stops.length c) ∧ w'.cell? ⟨w.heap.size, 1, none⟩ = some (.slice (some ⟨lb, lo, none⟩) t.net.lines.length c') ∧ w'.cell? ⟨w.heap.size, 2, none⟩ = some (.slice (some ⟨tb, to_, none⟩) t.trips.length d) ∧ w'.cell? ⟨tb, to_ + i * 3 + 1, none⟩ = some (.int .i64 (kl : Int)) ∧ w'.cell? ⟨lb, lo + kl * 3, none⟩ = some (.string ln.name) ∧ w'.cell? ⟨lb, lo + kl * 3 + 1, none⟩ = some (.slice (some ⟨sb, so, none⟩) ln.stops.length s1) ∧ w'.cell? ⟨lb, lo + kl * 3 + 2, none⟩ = some (.slice r0 ln.runs.length r1) ∧ w'.cell? ⟨wo.heap.size, 1, none⟩ = some (.int .i64 l.frm) ∧ w'.cell? ⟨wo.heap.size, 2, none⟩ = some (.int .i64 l.dst))) (by kernel_rfl) ?_ (fun hHeld => ?_)
        · exact ⟨c0, c1, c2, c3, c4, c5, c6, c7, c8⟩
        refine wpAnyH_take (i := 0) (v := ?_) (by simp only [List.getElem?_toArray, List.getElem?_cons_zero]; rfl) (by kernel_rfl) (by kernel_rfl) (by kernel_rfl) (by exact fun _ _ _ h => h) (Or.inl ⟨by rfl, ?_⟩) (by assumption) ?_
        rotate_left
        · intro w' hSw; obtain ⟨e0, e1, e2, e3, e4, e5, e6, e7, e8⟩ := hSw
          go_simp; try with_reducible rfl
        try simp only [Act.put, List.setIfInBounds_toArray, List.set_cons_zero, List.set_cons_succ]
        refine wpAnyH_take (i := 1) (v := ?_) (by simp only [List.getElem?_toArray, List.getElem?_cons_succ, List.getElem?_cons_zero]; rfl) (by kernel_rfl) (by kernel_rfl) (by kernel_rfl) (by exact fun _ _ _ h => h) (Or.inl ⟨by rfl, ?_⟩) (by assumption) ?_
        rotate_left
        · intro w' hSw; obtain ⟨e0, e1, e2, e3, e4, e5, e6, e7, e8⟩ := hSw
          go_simp; try with_reducible rfl
        try simp only [Act.put, List.setIfInBounds_toArray, List.set_cons_zero, List.set_cons_succ]
        refine wpAnyH_take (i := 2) (v := ?_) (by simp only [List.getElem?_toArray, List.getElem?_cons_succ, List.getElem?_cons_zero]; rfl) (by kernel_rfl) (by kernel_rfl) (by kernel_rfl) (by exact fun _ _ _ h => h) (Or.inl ⟨by rfl, ?_⟩) (by assumption) ?_
        rotate_left
        · intro w' hSw; obtain ⟨e0, e1, e2, e3, e4, e5, e6, e7, e8⟩ := hSw
          go_simp; try with_reducible rfl
        try simp only [Act.put, List.setIfInBounds_toArray, List.set_cons_zero, List.set_cons_succ]
        refine wpAnyH_take (i := 3) (v := ?_) (by simp only [List.getElem?_toArray, List.getElem?_cons_succ, List.getElem?_cons_zero]; rfl) (by kernel_rfl) (by kernel_rfl) (by kernel_rfl) (by exact fun _ _ _ h => h) (Or.inl ⟨by rfl, ?_⟩) (by assumption) ?_
        rotate_left
        · intro w' hSw; obtain ⟨e0, e1, e2, e3, e4, e5, e6, e7, e8⟩ := hSw
          go_simp; try with_reducible rfl
        try simp only [Act.put, List.setIfInBounds_toArray, List.set_cons_zero, List.set_cons_succ]
        refine wpAnyH_take (i := 4) (v := ?_) (by simp only [List.getElem?_toArray, List.getElem?_cons_succ, List.getElem?_cons_zero]; rfl) (by kernel_rfl) (by kernel_rfl) (by kernel_rfl) (by exact fun _ _ _ h => h) (Or.inl ⟨by rfl, ?_⟩) (by assumption) ?_
        rotate_left
        · intro w' hSw; obtain ⟨e0, e1, e2, e3, e4, e5, e6, e7, e8⟩ := hSw
          go_simp; try with_reducible rfl
        try simp only [Act.put, List.setIfInBounds_toArray, List.set_cons_zero, List.set_cons_succ]
        refine wpAnyH_take (i := 5) (v := ?_) (by simp only [List.getElem?_toArray, List.getElem?_cons_succ, List.getElem?_cons_zero]; rfl) (by kernel_rfl) (by kernel_rfl) (by kernel_rfl) (by exact fun _ _ _ h => h) (Or.inl ⟨by rfl, ?_⟩) (by assumption) ?_
        rotate_left
        · intro w' hSw; obtain ⟨e0, e1, e2, e3, e4, e5, e6, e7, e8⟩ := hSw
          go_simp; try with_reducible rfl
        try simp only [Act.put, List.setIfInBounds_toArray, List.set_cons_zero, List.set_cons_succ]
        refine wpAnyH_take (i := 6) (v := ?_) (by simp only [List.getElem?_toArray, List.getElem?_cons_succ, List.getElem?_cons_zero]; rfl) (by kernel_rfl) (by kernel_rfl) (by kernel_rfl) (by exact fun _ _ _ h => h) (Or.inl ⟨by rfl, ?_⟩) (by assumption) ?_
        rotate_left
        · intro w' hSw; obtain ⟨e0, e1, e2, e3, e4, e5, e6, e7, e8⟩ := hSw
          go_simp; try with_reducible rfl
        try simp only [Act.put, List.setIfInBounds_toArray, List.set_cons_zero, List.set_cons_succ]
        refine wpAnyH_take (i := 7) (v := ?_) (by simp only [List.getElem?_toArray, List.getElem?_cons_succ, List.getElem?_cons_zero]; rfl) (by kernel_rfl) (by kernel_rfl) (by kernel_rfl) (by exact fun _ _ _ h => h) (Or.inl ⟨by rfl, ?_⟩) (by assumption) ?_
        rotate_left
        · intro w' hSw; obtain ⟨e0, e1, e2, e3, e4, e5, e6, e7, e8⟩ := hSw
          go_simp; try with_reducible rfl
        try simp only [Act.put, List.setIfInBounds_toArray, List.set_cons_zero, List.set_cons_succ]
        refine wpAnyH_take (i := 8) (v := ?_) (by simp only [List.getElem?_toArray, List.getElem?_cons_succ, List.getElem?_cons_zero]; rfl) (by kernel_rfl) (by kernel_rfl) (by kernel_rfl) (by exact fun _ _ _ h => h) (Or.inl ⟨by rfl, ?_⟩) (by assumption) ?_
        rotate_left
        · intro w' hSw; obtain ⟨e0, e1, e2, e3, e4, e5, e6, e7, e8⟩ := hSw
          go_simp; try with_reducible rfl
        try simp only [Act.put, List.setIfInBounds_toArray, List.set_cons_zero, List.set_cons_succ]
        refine wpAnyH_take (i := 9) (v := ?_) (by simp only [List.getElem?_toArray, List.getElem?_cons_succ, List.getElem?_cons_zero]; rfl) (by kernel_rfl) (by kernel_rfl) (by kernel_rfl) (by exact fun _ _ _ h => h) (Or.inl ⟨by rfl, ?_⟩) (by assumption) ?_
        rotate_left
        · intro w' hSw; obtain ⟨e0, e1, e2, e3, e4, e5, e6, e7, e8⟩ := hSw
          go_simp; try with_reducible rfl
        try simp only [Act.put, List.setIfInBounds_toArray, List.set_cons_zero, List.set_cons_succ]
        refine wpAnyH_take (i := 10) (v := ?_) (by simp only [List.getElem?_toArray, List.getElem?_cons_succ, List.getElem?_cons_zero]; rfl) (by kernel_rfl) (by kernel_rfl) (by kernel_rfl) (by exact fun _ _ _ h => h) (Or.inl ⟨by rfl, ?_⟩) (by assumption) ?_
        rotate_left
        · intro w' hSw; obtain ⟨e0, e1, e2, e3, e4, e5, e6, e7, e8⟩ := hSw
          go_simp; try with_reducible rfl
        try simp only [Act.put, List.setIfInBounds_toArray, List.set_cons_zero, List.set_cons_succ]
        refine wpAnyH_take (i := 11) (v := ?_) (by simp only [List.getElem?_toArray, List.getElem?_cons_succ, List.getElem?_cons_zero]; rfl) (by kernel_rfl) (by kernel_rfl) (by kernel_rfl) (by exact fun _ _ _ h => h) (Or.inl ⟨by rfl, ?_⟩) (by assumption) ?_
        rotate_left
        · intro w' hSw; obtain ⟨e0, e1, e2, e3, e4, e5, e6, e7, e8⟩ := hSw
          go_simp; try with_reducible rfl
        try simp only [Act.put, List.setIfInBounds_toArray, List.set_cons_zero, List.set_cons_succ]
        refine wpAnyH_take (i := 12) (v := ?_) (by simp only [List.getElem?_toArray, List.getElem?_cons_succ, List.getElem?_cons_zero]; rfl) (by kernel_rfl) (by kernel_rfl) (by kernel_rfl) (by exact fun _ _ _ h => h) (Or.inl ⟨by rfl, ?_⟩) (by assumption) ?_
        rotate_left
        · intro w' hSw; obtain ⟨e0, e1, e2, e3, e4, e5, e6, e7, e8⟩ := hSw
          go_simp; try with_reducible rfl
        try simp only [Act.put, List.setIfInBounds_toArray, List.set_cons_zero, List.set_cons_succ]
        refine wpAnyH_ready (rs := [13]) (by kernel_rfl) (by simp) ?_
        refine AllReadyH.cons (by simp only [List.getElem?_toArray, List.getElem?_cons_succ, List.getElem?_cons_zero]; rfl) (fun K hK => ?_) AllReadyH.nil
        go_simp
        go_at_call 112
        refine (HSA.out _ (HB5.out.drew)).mono ?_
        rintro e w6 ⟨rfl, hb⟩
        have rb : Below w5.heap.size w5 w6 := (Below.refl _ _).drew.trans hb
        have hS6 : w6.cell? ⟨w.heap.size, 0, none⟩ = some (.slice a t.net.stops.length c) ∧ w6.cell? ⟨w.heap.size, 1, none⟩ = some (.slice (some ⟨lb, lo, none⟩) t.net.lines.length c') ∧ w6.cell? ⟨w.heap.size, 2, none⟩ = some (.slice (some ⟨tb, to_, none⟩) t.trips.length d) ∧ w6.cell? ⟨tb, to_ + i * 3 + 1, none⟩ = some (.int .i64 (kl : Int)) ∧ w6.cell? ⟨lb, lo + kl * 3, none⟩ = some (.string ln.name) ∧ w6.cell? ⟨lb, lo + kl * 3 + 1, none⟩ = some (.slice (some ⟨sb, so, none⟩) ln.stops.length s1) ∧ w6.cell? ⟨lb, lo + kl * 3 + 2, none⟩ = some (.slice r0 ln.runs.length r1) ∧ w6.cell? ⟨wo.heap.size, 1, none⟩ = some (.int .i64 l.frm) ∧ w6.cell? ⟨wo.heap.size, 2, none⟩ = some (.int .i64 l.dst) := ⟨bkeep rb c0, bkeep rb c1, bkeep rb c2, bkeep rb c3, bkeep rb c4, bkeep rb c5, bkeep rb c6, bkeep rb c7, bkeep rb c8⟩
        have HO6 := Lib.hid (own_later HO5.out rb)
        have HB6 : Hid (Below w.heap.size w w6) := HB5.out.trans (rb.mono HB5.out.size)
        have hz6 := rb.size
        clear hb rb
        go_wp2_with fail
        refine hK.out _ _ hS6 (fun hH13 => ?_)
        clear hK K
        try simp only [Act.put, List.setIfInBounds_toArray, List.set_cons_zero, List.set_cons_succ]
        refine wpAnyH_take (i := 14) (v := ?_) (by simp only [List.getElem?_toArray, List.getElem?_cons_succ, List.getElem?_cons_zero]; rfl) (by kernel_rfl) (by kernel_rfl) (by kernel_rfl) (by exact fun _ _ _ h => h) (Or.inl ⟨by rfl, ?_⟩) (by assumption) ?_
        rotate_left
        · intro w' hSw; obtain ⟨e0, e1, e2, e3, e4, e5, e6, e7, e8⟩ := hSw
          go_simp; try with_reducible rfl
        try simp only [Act.put, List.setIfInBounds_toArray, List.set_cons_zero, List.set_cons_succ]
        refine wpAnyH_done (by kernel_rfl) ?_ _
        obtain ⟨p0, p1, p2, -, -, -, -, -, pd⟩ := hS6
        clear hH13 c0 c1 c2 c3 c4 c5 c6 c7 c8 HO5 HB5
        have hdr := rowAt_dropI (k := A + 1) (hrs.below rfl HB6.out) (by omega)
        have HIx := Lib.hid (indexInt_any _ (ln.stops.drop (A + 1)) l.dst w6 hdr)
        rw [HDst.out] at HIx
        have hdl : (ln.stops.drop (A + 1)).length = ln.stops.length - (A + 1) := List.length_drop
        have hdr2 := rowAt_takeI (k := m + 1) (by rw [hdl]; exact hdr) (by rw [hdl]; omega)
        have hyl : ((ln.stops.drop (A + 1)).take (m + 1)).length = m + 1 := by rw [List.length_take, hdl]; omega
        obtain ⟨gv, hgv, hgB, hgs, -⟩ := ownI_at HO6.out (by rw [HFl.out]; omega) rfl
        obtain ⟨v8, w8, hrun, hown8, hgr8, hloc8⟩ := run_append_ints w6 w1.heap.size _ _ _ HO6.out sb (so + (A + 1)) (s1 - (A + 1)) ((ln.stops.drop (A + 1)).take (m + 1)) (by rw [hyl]; exact hdr2) (by rw [hyl, HFl.out]; omega) (by omega)
        subst hgv
        have hgr8 : w6.grownBy w8 (some gv) := hgr8
        rw [hyl] at hrun
        have q0 := gr_cell hgr8 p0 (by show w.heap.size ≠ gv; omega)
        have q1 := gr_cell hgr8 p1 (by show w.heap.size ≠ gv; omega)
        have q2 := gr_cell hgr8 p2 (by show w.heap.size ≠ gv; omega)
        have HB8 : Hid (Below w.heap.size w w8) := HB6.out.trans (below_gr hgr8 (by omega) HB6.out.size)
        have HO8 : Hid (w8.ownsRow w1.heap.size 3 1 v8 fs1.length (ints fs1)) := by
          show World.ownsRow _ _ _ _ _ _ _
          rw [HF1.out, List.length_append]; exact hown8
        clear hown8 hgr8 hloc8 hdr hdr2 HO6 HB6
        have hwm : IntKind.i64.wrap ((m : Int) + 1) = (m : Int) + 1 := IntWalk.i64_in _ (by omega)
        have htm : ((m : Int) + 1).toNat = m + 1 := by omega
        have hm0 : (0 : Int) ≤ (m : Int) + 1 := by omega
        have hm1 : (m : Int) + 1 ≤ ((s1 - (A + 1) : Nat) : Int) := by omega
        go_wp2_with fail
        go_at_call 113
        refine HIx.out.mono ?_
        rintro e w7 ⟨rfl, rfl⟩
        go_wp2_with (at_builtin; refine wpList_append_run rfl (.tmp 53) (.tmp 60) 45 rfl rfl rfl hrun ?_)
        go_roundw
        case rel => exact ⟨k + 1, by omega, by go_num, (by show Hid _; rw [HFk.out]; exact HO8), q0, q1, q2, HB8⟩
        case measure => simp [RowKit.intOf]; omega
      · obtain rfl : k = cs.length := by omega
        have hk2 : ¬ (cs.length : Int) < (cs.length : Int) := by omega
        go_wp2_with fail
        go_ret2
        exact ⟨⟨_, rfl, own_base HOwn.out (by omega)⟩, HB.out⟩
end Go.Proofs.Ytniankcjgcackaa
