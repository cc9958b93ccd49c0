import Derived.Test.YtemejcbilhcebaaL7Way
namespace Go.Proofs.Ytemejcbilhcebaa
open Go.RowKit
set_option linter.unusedVariables false
set_option linter.unusedSimpArgs false

def swC (n : NetD) (ws : List WlkD) (s d : Int) : Chn := cat (firstW ws n.stops.length s.toNat) d.toNat
noncomputable def swOk (n : NetD) (ws : List WlkD) (s d : Int) : Bool := wtOk n ws s && (decide (0 ≤ d ∧ d < (n.stops.length : Int)) && !(swC n ws s d).isEmpty)
noncomputable def swAns (n : NetD) (ws : List WlkD) (s d : Int) : List Int := if swOk n ws s d then fwI (swC n ws s d) else []
theorem stopDec_any (v : Value) (n : NetD) (stop : Int) (w : World) (hr : NetAt w v n) (hf : NetFits n) :
    Calls Try.prog 60 #[v, .int .i64 stop] w fun e w' => e = .returned (.bool (decide (StopIn n stop))) ∧ Below w.heap.size w w' :=
  (isStopOf_any v n stop w hr hf).mono fun e w' ⟨he, hb⟩ => ⟨by
    rcases he with ⟨h, rfl⟩ | ⟨h, rfl⟩
    · rw [decide_eq_true h]
    · rw [decide_eq_false h], hb⟩
theorem lit_ints {B : Nat} (w : World) (hB : B ≤ w.heap.size) : IntsIn B (w.alloc (.cells #[] 3)).heap.size (w.alloc (.cells #[] 3)) (.slice (some ⟨w.heap.size, 0, none⟩) 0 0) [] := by
  have h := World.ownsRow_lit (base := B) (e := 3) (size := 1) w #[] 0 hB (by decide) (by simp)
  exact IntsIn.mk (by simpa [ints] using h)
theorem wtOk_parts {n : NetD} {ws : List WlkD} {s : Int} (h : wtOk n ws s = true) : NetGood n ∧ WksOk n.stops.length ws ∧ 0 ≤ s ∧ s < (n.stops.length : Int) := by
  unfold wtOk at h
  simp only [Bool.and_eq_true, decide_eq_true_eq] at h
  exact ⟨(walksB_iff h.1).1, (walksB_iff h.1).2, h.2⟩
theorem wt_minT {n f d : Nat} {ws : List WlkD} (hv : WksOk n ws) (hf : f < n) (hd : d < n) : wat (wt ws n f) d = minT (cat (firstW ws n f) d) := by
  have hl := (firstW_ok hv hf).len
  rw [firstW_wt hv hf, wat_at (by simpa [hl] using hd), List.getElem_map, cat_at (by rw [hl]; exact hd)]
theorem mOf_le {n f : Nat} {ws : List WlkD} (hv : WksOk n ws) (hf : f < n) (hn : n ≤ 8) (d : Nat) : mOf (cat (firstW ws n f) d) ≤ 1000 ∧ (cat (firstW ws n f) d).length ≤ 8 := by
  rcases (firstW_ok hv hf).each d with e | ⟨h1, _⟩
  · rw [e]; simp [mOf]
  · have h2 := nodup_len n _ (firstW_nd hv hf d) (fun y hy => h1.all_lt hv hf y hy)
    simp only [stopsOf, List.length_map] at h2
    have h3 := h1.bound hv
    omega

set_option maxRecDepth 100000 in
set_option maxHeartbeats 4000000 in
theorem implShortest_any (nv lv : Value) (n : NetD) (ws : List WlkD) (s d : Int) (w : World) (hr : NetAt w nv n) (hl : WalksAt w lv ws) (hf : NetFits n) :
    Calls Try.prog 31 #[nv, lv, .int .i64 s, .int .i64 d] w fun e w' => IntsB w.heap.size (swAns n ws s d) (swOk n ws s d) e w' ∧ Below w.heap.size w w' := by
  have HW := Lib.hid (fun W (h : Below w.heap.size w W) => walksFrom_any nv lv n ws s W (hr.below rfl h) (hl.below rfl h) hf)
  have HS := Lib.hid (fun W (h : Below w.heap.size w W) => stopDec_any nv n d W (hr.below rfl h) hf)
  unfold swAns
  cases hw : wtOk n ws s with
  | false =>
    rw [hw] at HW
    rw [show swOk n ws s d = false by unfold swOk; rw [hw]; rfl]
    simp only [Bool.false_eq_true, if_false]
    obtain ⟨a, c, a', c', rfl, -, -⟩ := net_open hr
    obtain ⟨lb, ld, rfl⟩ := WalkS_open hl
    clear hw hr hl hf HS
    go_enter Try.func31, Try.ntmps31
    go_wp2_with fail
    go_at_call 83
    refine (HW.out _ ((Below.refl _ _).alloc (Nat.le_refl _) _)).mono ?_
    rintro e w1 ⟨rfl, hb1⟩
    have HB1 : Hid (Below w.heap.size w w1 ∧ w.heap.size < w1.heap.size) := ⟨((Below.refl _ _).alloc (Nat.le_refl _) _).trans (hb1.mono (by simp)), by have := hb1.size; simp at this; omega⟩
    have p0 : w1.cell? ⟨w.heap.size, 0, none⟩ = some (.slice a n.stops.length c) := bkeep hb1 (by go_simp)
    have p1 : w1.cell? ⟨w.heap.size, 1, none⟩ = some (.slice a' n.lines.length c') := bkeep hb1 (by go_simp)
    clear hb1
    go_wp2_with fail
    go_ret2
    exact ⟨⟨_, rfl, lit_ints _ HB1.out.1.size⟩, HB1.out.1.alloc HB1.out.1.size _⟩
  | true =>
    rw [hw] at HW
    obtain ⟨hg, hv, hs0, hs1⟩ := wtOk_parts hw
    have hn8 := netGood_stops hg
    by_cases hd : 0 ≤ d ∧ d < (n.stops.length : Int)
    · rw [decide_eq_true (show StopIn n d from ⟨hg, hd⟩)] at HS
      obtain ⟨f, rfl⟩ := Int.eq_ofNat_of_zero_le hs0
      obtain ⟨dd, rfl⟩ := Int.eq_ofNat_of_zero_le hd.1
      have hfn : f < n.stops.length := by omega
      have hdn : dd < n.stops.length := by omega
      have hd1 : (dd : Int) < (n.stops.length : Int) := by omega
      have hd0 : (0 : Int) ≤ (dd : Int) := by omega
      have HFw := Lib.hid (fun W (h : Below w.heap.size w W) => firstWays_any nv lv n ws f W (hr.below rfl h) (hl.below rfl h) hv hn8 hfn)
      have HOk : Hid (swOk n ws (f : Int) (dd : Int) = !(cat (firstW ws n.stops.length f) dd).isEmpty) := by
        show _ = _
        unfold swOk swC; rw [hw, decide_eq_true hd]; simp only [Bool.true_and, Int.toNat_natCast]
      have HAn : Hid (swC n ws (f : Int) (dd : Int) = cat (firstW ws n.stops.length f) dd) := by show _ = _; unfold swC; simp only [Int.toNat_natCast]
      rw [HOk.out, HAn.out]
      have hml := mOf_le hv hfn hn8 dd
      have hσl := (firstW_ok hv hfn).len
      generalize firstW ws n.stops.length f = σ at *
      obtain ⟨ck, hck⟩ : ∃ ck, cat σ dd = ck := ⟨_, rfl⟩
      have HCk := Lib.hid hck
      rw [hck] at hml ⊢
      clear HOk HAn hw hv hg hck
      obtain ⟨a, c, a', c', rfl, -, -⟩ := net_open hr
      obtain ⟨lb, ld, rfl⟩ := WalkS_open hl
      clear hr hl hf hd hs0 hs1
      cases ck with
      | nil =>
        simp only [List.isEmpty_nil, Bool.not_true, Bool.false_eq_true, if_false]
        go_enter Try.func31, Try.ntmps31
        go_wp2_with fail
        go_at_call 83
        refine (HW.out _ ((Below.refl _ _).alloc (Nat.le_refl _) _)).mono ?_
        rintro e w1 ⟨rfl, hb1⟩
        have HB1 : Hid (Below w.heap.size w w1 ∧ w.heap.size < w1.heap.size) := ⟨((Below.refl _ _).alloc (Nat.le_refl _) _).trans (hb1.mono (by simp)), by have := hb1.size; simp at this; omega⟩
        have p0 : w1.cell? ⟨w.heap.size, 0, none⟩ = some (.slice a n.stops.length c) := bkeep hb1 (by go_simp)
        have p1 : w1.cell? ⟨w.heap.size, 1, none⟩ = some (.slice a' n.lines.length c') := bkeep hb1 (by go_simp)
        clear hb1
        go_wp2_with fail
        go_at_call 60
        refine (HS.out _ HB1.out.1).mono ?_
        rintro e w2 ⟨rfl, hb2⟩
        have HB2 : Hid (Below w.heap.size w w2 ∧ w.heap.size < w2.heap.size) := ⟨HB1.out.1.trans (hb2.mono HB1.out.1.size), by have := hb2.size; have := HB1.out.2; omega⟩
        have p0 := bkeep hb2 p0
        have p1 := bkeep hb2 p1
        clear hb2 HB1
        go_wp2_with fail
        go_at_call 84
        refine (HFw.out _ HB2.out.1).mono ?_
        rintro e w3 ⟨rfl, hf3, hb3⟩
        obtain ⟨hfl, vs, hvo, hvn⟩ := hf3
        have hvl : vs.length = n.stops.length := by rw [hvn.1, hσl]
        have hsv : dd < vs.length := by omega
        have hds : dd < σ.length := by omega
        have c4 : w3.cell? ⟨w2.heap.size + 1, dd, none⟩ = some (vs[dd]'hsv) := by rw [hvo.cellAt dd (by omega)]; exact List.getElem?_eq_getElem _
        have hnd := hvn.2 dd hds hsv
        have HB3 : Hid (Below w.heap.size w w3 ∧ w.heap.size < w3.heap.size) := ⟨HB2.out.1.trans (hb3.mono HB2.out.1.size), by have := hb3.size; have := HB2.out.2; omega⟩
        clear hb3 HB2 p0 p1 hvo hvn
        have hnd : vs[dd]'hsv = .pointer none := by rw [show σ[dd] = [] from (cat_at hds).symm.trans HCk.out] at hnd; exact hnd
        rw [hnd] at c4
        clear hnd
        go_wp2_with fail
        go_ret2
        exact ⟨⟨_, rfl, lit_ints _ HB3.out.1.size⟩, HB3.out.1.alloc HB3.out.1.size _⟩
      | cons x q =>
        simp only [List.isEmpty_cons, Bool.not_false, if_true]
        go_enter Try.func31, Try.ntmps31
        go_wp2_with fail
        go_at_call 83
        refine (HW.out _ ((Below.refl _ _).alloc (Nat.le_refl _) _)).mono ?_
        rintro e w1 ⟨rfl, hb1⟩
        have HB1 : Hid (Below w.heap.size w w1 ∧ w.heap.size < w1.heap.size) := ⟨((Below.refl _ _).alloc (Nat.le_refl _) _).trans (hb1.mono (by simp)), by have := hb1.size; simp at this; omega⟩
        have p0 : w1.cell? ⟨w.heap.size, 0, none⟩ = some (.slice a n.stops.length c) := bkeep hb1 (by go_simp)
        have p1 : w1.cell? ⟨w.heap.size, 1, none⟩ = some (.slice a' n.lines.length c') := bkeep hb1 (by go_simp)
        clear hb1
        go_wp2_with fail
        go_at_call 60
        refine (HS.out _ HB1.out.1).mono ?_
        rintro e w2 ⟨rfl, hb2⟩
        have HB2 : Hid (Below w.heap.size w w2 ∧ w.heap.size < w2.heap.size) := ⟨HB1.out.1.trans (hb2.mono HB1.out.1.size), by have := hb2.size; have := HB1.out.2; omega⟩
        have p0 := bkeep hb2 p0
        have p1 := bkeep hb2 p1
        clear hb2 HB1
        go_wp2_with fail
        go_at_call 84
        refine (HFw.out _ HB2.out.1).mono ?_
        rintro e w3 ⟨rfl, hf3, hb3⟩
        obtain ⟨hfl, vs, hvo, hvn⟩ := hf3
        have hvl : vs.length = n.stops.length := by rw [hvn.1, hσl]
        have hsv : dd < vs.length := by omega
        have hds : dd < σ.length := by omega
        have c4 : w3.cell? ⟨w2.heap.size + 1, dd, none⟩ = some (vs[dd]'hsv) := by rw [hvo.cellAt dd (by omega)]; exact List.getElem?_eq_getElem _
        have hnd := hvn.2 dd hds hsv
        have HB3 : Hid (Below w.heap.size w w3 ∧ w.heap.size < w3.heap.size) := ⟨HB2.out.1.trans (hb3.mono HB2.out.1.size), by have := hb3.size; have := HB2.out.2; omega⟩
        clear hb3 HB2 p0 p1 hvo hvn
        have hnd : NodeAt w3 (w2.heap.size + 1) (x :: q) (vs[dd]'hsv) := by rw [show σ[dd] = x :: q from (cat_at hds).symm.trans HCk.out] at hnd; exact hnd
        generalize hvk : vs[dd] = vk at *
        clear hvk
        have HList := Lib.hid (wayList_any (w2.heap.size + 1) (x :: q) vk w3 hnd hfl (by omega))
        obtain ⟨pb, v2, rfl, -⟩ := hnd
        clear hml
        go_wp2_with fail
        go_at_call 85
        refine HList.out.mono ?_
        rintro e w4 ⟨u, rfl, ho4, hb4⟩
        have HO4 := Lib.hid ho4
        have HB4 : Hid (Below w.heap.size w w4) := HB3.out.1.trans (hb4.mono HB3.out.1.size)
        clear ho4 hb4 HList
        go_wp2_with fail
        go_ret2
        refine ⟨⟨_, rfl, IntsIn.mk ?_⟩, HB4.out⟩
        rw [fwI_len]
        exact own_base HO4.out HB3.out.1.size
    · rw [decide_eq_false (fun h : StopIn n d => hd h.2)] at HS
      rw [show swOk n ws s d = false by unfold swOk; rw [hw, decide_eq_false hd]; rfl]
      simp only [Bool.false_eq_true, if_false]
      obtain ⟨a, c, a', c', rfl, -, -⟩ := net_open hr
      obtain ⟨lb, ld, rfl⟩ := WalkS_open hl
      clear hw hr hl hf hg hv hd hs0 hs1
      go_enter Try.func31, Try.ntmps31
      go_wp2_with fail
      go_at_call 83
      refine (HW.out _ ((Below.refl _ _).alloc (Nat.le_refl _) _)).mono ?_
      rintro e w1 ⟨rfl, hb1⟩
      have HB1 : Hid (Below w.heap.size w w1 ∧ w.heap.size < w1.heap.size) := ⟨((Below.refl _ _).alloc (Nat.le_refl _) _).trans (hb1.mono (by simp)), by have := hb1.size; simp at this; omega⟩
      have p0 : w1.cell? ⟨w.heap.size, 0, none⟩ = some (.slice a n.stops.length c) := bkeep hb1 (by go_simp)
      have p1 : w1.cell? ⟨w.heap.size, 1, none⟩ = some (.slice a' n.lines.length c') := bkeep hb1 (by go_simp)
      clear hb1
      go_wp2_with fail
      go_at_call 60
      refine (HS.out _ HB1.out.1).mono ?_
      rintro e w2 ⟨rfl, hb2⟩
      have HB2 : Hid (Below w.heap.size w w2 ∧ w.heap.size < w2.heap.size) := ⟨HB1.out.1.trans (hb2.mono HB1.out.1.size), by have := hb2.size; have := HB1.out.2; omega⟩
      have p0 := bkeep hb2 p0
      have p1 := bkeep hb2 p1
      clear hb2 HB1
      go_wp2_with fail
      go_ret2
      exact ⟨⟨_, rfl, lit_ints _ HB2.out.1.size⟩, HB2.out.1.alloc HB2.out.1.size _⟩

set_option maxRecDepth 100000 in
set_option maxHeartbeats 4000000 in
theorem specShortest_any (nv lv : Value) (n : NetD) (ws : List WlkD) (s d : Int) (w : World) (hr : NetAt w nv n) (hl : WalksAt w lv ws) (hf : NetFits n) (hwf : WalksFit ws) :
    Calls Try.prog 32 #[nv, lv, .int .i64 s, .int .i64 d] w fun e w' => IntsB w.heap.size (swAns n ws s d) (swOk n ws s d) e w' ∧ Below w.heap.size w w' := by
  have HW := Lib.hid (fun W (h : Below w.heap.size w W) => specWalkingTimes_any nv lv n ws s W (hr.below rfl h) (hl.below rfl h) hf hwf)
  unfold swAns
  cases hw : wtOk n ws s with
  | false =>
    rw [hw] at HW
    rw [show swOk n ws s d = false by unfold swOk; rw [hw]; rfl]
    simp only [Bool.false_eq_true, if_false]
    obtain ⟨a, c, a', c', rfl, -, -⟩ := net_open hr
    obtain ⟨lb, ld, rfl⟩ := WalkS_open hl
    clear hw hr hl hf hwf
    go_enter Try.func32, Try.ntmps32
    go_wp2_with fail
    go_at_call 34
    refine (HW.out _ ((Below.refl _ _).alloc (Nat.le_refl _) _)).mono ?_
    rintro e w1 ⟨⟨u, rfl, hu⟩, hb1⟩
    have HB1 : Hid (Below w.heap.size w w1 ∧ w.heap.size < w1.heap.size) := ⟨((Below.refl _ _).alloc (Nat.le_refl _) _).trans (hb1.mono (by simp)), by have := hb1.size; simp at this; omega⟩
    have p0 : w1.cell? ⟨w.heap.size, 0, none⟩ = some (.slice a n.stops.length c) := bkeep hb1 (by go_simp)
    have HU := Lib.hid hu
    obtain ⟨ua, uc, rfl⟩ := own_shape hu.1
    clear hb1 hu
    go_wp2_with fail
    go_ret2
    exact ⟨⟨_, rfl, lit_ints _ HB1.out.1.size⟩, HB1.out.1.alloc HB1.out.1.size _⟩
  | true =>
    rw [hw] at HW
    obtain ⟨hg, hv, hs0, hs1⟩ := wtOk_parts hw
    have hn8 := netGood_stops hg
    have hlw : IntKind.i64.wrap ((n.stops.length : Int) - 1) = (n.stops.length : Int) - 1 := IntWalk.i64_in _ (by omega)
    by_cases hd : 0 ≤ d ∧ d < (n.stops.length : Int)
    · have HI := Lib.hid (fun W => l1In_yes d 0 ((n.stops.length : Int) - 1) W (by omega))
      obtain ⟨f, rfl⟩ := Int.eq_ofNat_of_zero_le hs0
      obtain ⟨dd, rfl⟩ := Int.eq_ofNat_of_zero_le hd.1
      have hfn : f < n.stops.length := by omega
      have hdn : dd < n.stops.length := by omega
      have hn0 : 0 < n.stops.length := by omega
      have hd1 : (dd : Int) < (n.stops.length : Int) := by omega
      have hd0 : (0 : Int) ≤ (dd : Int) := by omega
      have HOk : Hid (swOk n ws (f : Int) (dd : Int) = !(cat (firstW ws n.stops.length f) dd).isEmpty) := by
        show _ = _
        unfold swOk swC; rw [hw, decide_eq_true hd]; simp only [Bool.true_and, Int.toNat_natCast]
      have HAn : Hid (swC n ws (f : Int) (dd : Int) = cat (firstW ws n.stops.length f) dd) := by show _ = _; unfold swC; simp only [Int.toNat_natCast]
      have HWa : Hid (wtAns n ws (f : Int) = wt ws n.stops.length f) := by show _ = _; unfold wtAns; rw [hw]; simp only [if_true, Int.toNat_natCast]
      rw [HOk.out, HAn.out]
      have hml := mOf_le hv hfn hn8 dd
      have HMin := Lib.hid (wt_minT hv hfn hdn)
      have hlenR := wt_len hv hfn
      have HBest := Lib.hid (fun hne => way_best (dst := dd) hv hfn rfl hne)
      have HWay := Lib.hid (fun k (W : World) (qv : Value) h1 h2 h3 h4 => l7Way_any n.stops.length dd ws hv hn8 w lv hl w.heap.size k W [(f, 0)] qv (mOf (cat (firstW ws n.stops.length f) dd) : Nat) h1 h2 h3 (by simp) h4 (by omega) (by omega))
      rw [HWa.out] at HW
      generalize cat (firstW ws n.stops.length f) dd = ck at *
      generalize wt ws n.stops.length f = R at *
      clear HOk HAn HWa hw hv hg
      obtain ⟨a, c, a', c', rfl, -, -⟩ := net_open hr
      obtain ⟨lb, ld, rfl⟩ := WalkS_open hl
      clear hr hl hf hd hs0 hs1 hwf
      cases ck with
      | nil =>
        simp only [List.isEmpty_nil, Bool.not_true, Bool.false_eq_true, if_false]
        go_enter Try.func32, Try.ntmps32
        go_wp2_with fail
        go_at_call 34
        refine (HW.out _ ((Below.refl _ _).alloc (Nat.le_refl _) _)).mono ?_
        rintro e w1 ⟨⟨u, rfl, hu⟩, hb1⟩
        have HB1 : Hid (Below w.heap.size w w1 ∧ w.heap.size < w1.heap.size) := ⟨((Below.refl _ _).alloc (Nat.le_refl _) _).trans (hb1.mono (by simp)), by have := hb1.size; simp at this; omega⟩
        have p0 : w1.cell? ⟨w.heap.size, 0, none⟩ = some (.slice a n.stops.length c) := bkeep hb1 (by go_simp)
        have HU := Lib.hid hu
        obtain ⟨ua, uc, rfl⟩ := own_shape hu.1
        clear hb1 hu
        obtain ⟨g2, rfl, -, hg2, hc2⟩ := own_cells (by have := HU.out.1; rw [hlenR] at this; exact this) hn0 hlenR
        have q0 := hc2 dd hdn
        rw [HMin.out] at q0
        clear hc2 HU
        go_wp2_with fail
        go_at_call 49
        refine (HI.out _).mono ?_
        rintro e w2 ⟨rfl, rfl⟩
        have q0 : w1.cell? ⟨g2, dd, none⟩ = some (.int .i64 (-1)) := q0
        clear HBest HWay
        go_wp2_with fail
        go_ret2
        exact ⟨⟨_, rfl, lit_ints _ HB1.out.1.size⟩, HB1.out.1.alloc HB1.out.1.size _⟩
      | cons x qq =>
        have HBest := Lib.hid (HBest.out (by simp))
        simp only [List.isEmpty_cons, Bool.not_false, if_true]
        have hclen : 0 < (x :: qq).length := by simp
        have HMin : Hid (wat R dd = ((mOf (x :: qq) : Nat) : Int)) := HMin
        generalize hck : (x :: qq : Chn) = ck at *
        clear hck
        go_enter Try.func32, Try.ntmps32
        go_wp2_with fail
        go_at_call 34
        refine (HW.out _ ((Below.refl _ _).alloc (Nat.le_refl _) _)).mono ?_
        rintro e w1 ⟨⟨u, rfl, hu⟩, hb1⟩
        have HB1 : Hid (Below w.heap.size w w1 ∧ w.heap.size < w1.heap.size) := ⟨((Below.refl _ _).alloc (Nat.le_refl _) _).trans (hb1.mono (by simp)), by have := hb1.size; simp at this; omega⟩
        have p0 : w1.cell? ⟨w.heap.size, 0, none⟩ = some (.slice a n.stops.length c) := bkeep hb1 (by go_simp)
        have HU := Lib.hid hu
        obtain ⟨ua, uc, rfl⟩ := own_shape hu.1
        clear hb1 hu
        obtain ⟨g2, rfl, -, hg2, hc2⟩ := own_cells (by have := HU.out.1; rw [hlenR] at this; exact this) hn0 hlenR
        have q0 := hc2 dd hdn
        rw [HMin.out] at q0
        clear hc2 HU
        go_wp2_with fail
        go_at_call 49
        refine (HI.out _).mono ?_
        rintro e w2 ⟨rfl, rfl⟩
        have hdm : decide (((mOf ck : Nat) : Int) < 0) = false := decide_eq_false (by omega)
        go_wp2_with fail
        go_loopw [12] (fun i wr => ∃ k : Nat, i = .int .i64 k ∧ k + 1 ≤ ck.length ∧ wr.cell? ⟨w.heap.size, 0, none⟩ = some (.slice a n.stops.length c) ∧ wr.cell? ⟨g2, dd, none⟩ = some (.int .i64 (mOf ck : Nat)) ∧ Hid (Below w.heap.size w wr ∧ w.heap.size < wr.heap.size)) (fun i _ => ck.length - (RowKit.intOf i).toNat)
        case atStart => exact ⟨0, rfl, by omega, p0, q0, HB1⟩
        case round =>
          clear p0 q0 HB1
          obtain ⟨k, rfl, hk, p0, q0, HB⟩ := hrel
          have hzz := HB.out.2
          go_wp2_with fail
          refine wp_region_held_drew (S := (fun w' => w'.cell? ⟨w.heap.size, 0, none⟩ = some (.slice a n.stops.length c) ∧ w'.cell? ⟨g2, dd, none⟩ = some (.int .i64 (mOf ck : Nat)))) (by kernel_rfl) ?_ (fun hHeld => ?_)
          · exact ⟨p0, q0⟩
          refine wpAnyH_take (i := 0) (v := ?_) (by simp only [List.getElem?_toArray, List.getElem?_cons_zero]; rfl) (by kernel_rfl) (by kernel_rfl) (by kernel_rfl) (by exact fun _ _ _ h => h) (Or.inl ⟨by rfl, ?_⟩) (by assumption) ?_
          rotate_left
          · intro w' hSw; obtain ⟨e1, e2⟩ := hSw
            go_simp; try with_reducible rfl
          try simp only [Act.put, List.setIfInBounds_toArray, List.set_cons_zero, List.set_cons_succ]
          refine wpAnyH_take (i := 1) (v := ?_) (by simp only [List.getElem?_toArray, List.getElem?_cons_succ, List.getElem?_cons_zero]; rfl) (by kernel_rfl) (by kernel_rfl) (by kernel_rfl) (by exact fun _ _ _ h => h) (Or.inl ⟨by rfl, ?_⟩) (by assumption) ?_
          rotate_left
          · intro w' hSw; obtain ⟨e1, e2⟩ := hSw
            go_simp; try with_reducible rfl
          try simp only [Act.put, List.setIfInBounds_toArray, List.set_cons_zero, List.set_cons_succ]
          refine wpAnyH_take (i := 2) (v := ?_) (by simp only [List.getElem?_toArray, List.getElem?_cons_succ, List.getElem?_cons_zero]; rfl) (by kernel_rfl) (by kernel_rfl) (by kernel_rfl) (by exact fun _ _ _ h => h) (Or.inl ⟨by rfl, ?_⟩) (by assumption) ?_
          rotate_left
          · intro w' hSw; obtain ⟨e1, e2⟩ := hSw
            go_simp; try with_reducible rfl
          try simp only [Act.put, List.setIfInBounds_toArray, List.set_cons_zero, List.set_cons_succ]
          refine wpAnyH_take (i := 3) (v := ?_) (by simp only [List.getElem?_toArray, List.getElem?_cons_succ, List.getElem?_cons_zero]; rfl) (by kernel_rfl) (by kernel_rfl) (by kernel_rfl) (by exact fun _ _ _ h => h) (Or.inl ⟨by rfl, ?_⟩) (by assumption) ?_
          rotate_left
          · intro w' hSw; obtain ⟨e1, e2⟩ := hSw
            go_simp; try with_reducible rfl
          try simp only [Act.put, List.setIfInBounds_toArray, List.set_cons_zero, List.set_cons_succ]
          refine wpAnyH_take (i := 4) (v := ?_) (by simp only [List.getElem?_toArray, List.getElem?_cons_succ, List.getElem?_cons_zero]; rfl) (by kernel_rfl) (by kernel_rfl) (by kernel_rfl) (by exact fun _ _ _ h => h) (Or.inl ⟨by rfl, ?_⟩) (by assumption) ?_
          rotate_left
          · intro w' hSw; obtain ⟨e1, e2⟩ := hSw
            go_simp; try with_reducible rfl
          try simp only [Act.put, List.setIfInBounds_toArray, List.set_cons_zero, List.set_cons_succ]
          refine wpAnyH_take (i := 6) (v := ?_) (by simp only [List.getElem?_toArray, List.getElem?_cons_succ, List.getElem?_cons_zero]; rfl) (by kernel_rfl) (by kernel_rfl) (by kernel_rfl) (by exact fun _ _ _ h => h) (Or.inl ⟨by rfl, ?_⟩) (by assumption) ?_
          rotate_left
          · intro w' hSw; obtain ⟨e1, e2⟩ := hSw
            go_simp; try with_reducible rfl
          try simp only [Act.put, List.setIfInBounds_toArray, List.set_cons_zero, List.set_cons_succ]
          refine wpAnyH_take (i := 7) (v := ?_) (by simp only [List.getElem?_toArray, List.getElem?_cons_succ, List.getElem?_cons_zero]; rfl) (by kernel_rfl) (by kernel_rfl) (by kernel_rfl) (by exact fun _ _ _ h => h) (Or.inl ⟨by rfl, ?_⟩) (by assumption) ?_
          rotate_left
          · intro w' hSw; obtain ⟨e1, e2⟩ := hSw
            go_simp; try with_reducible rfl
          try simp only [Act.put, List.setIfInBounds_toArray, List.set_cons_zero, List.set_cons_succ]
          refine wpAnyH_take (i := 8) (v := ?_) (by simp only [List.getElem?_toArray, List.getElem?_cons_succ, List.getElem?_cons_zero]; rfl) (by kernel_rfl) (by kernel_rfl) (by kernel_rfl) (by exact fun _ _ _ h => h) (Or.inl ⟨by rfl, ?_⟩) (by assumption) ?_
          rotate_left
          · intro w' hSw; obtain ⟨e1, e2⟩ := hSw
            go_simp; try with_reducible rfl
          try simp only [Act.put, List.setIfInBounds_toArray, List.set_cons_zero, List.set_cons_succ]
          refine wpAnyH_take (i := 9) (v := ?_) (by simp only [List.getElem?_toArray, List.getElem?_cons_succ, List.getElem?_cons_zero]; rfl) (by kernel_rfl) (by kernel_rfl) (by kernel_rfl) (by exact fun _ _ _ h => h) (Or.inl ⟨by rfl, ?_⟩) (by assumption) ?_
          rotate_left
          · intro w' hSw; obtain ⟨e1, e2⟩ := hSw
            go_simp; try with_reducible rfl
          try simp only [Act.put, List.setIfInBounds_toArray, List.set_cons_zero, List.set_cons_succ]
          refine wpAnyH_take (i := 10) (v := ?_) (by simp only [List.getElem?_toArray, List.getElem?_cons_succ, List.getElem?_cons_zero]; rfl) (by kernel_rfl) (by kernel_rfl) (by kernel_rfl) (by exact fun _ _ _ h => h) (Or.inl ⟨by rfl, ?_⟩) (by assumption) ?_
          rotate_left
          · intro w' hSw; obtain ⟨e1, e2⟩ := hSw
            go_simp; try with_reducible rfl
          try simp only [Act.put, List.setIfInBounds_toArray, List.set_cons_zero, List.set_cons_succ]
          refine wpAnyH_take (i := 11) (v := ?_) (by simp only [List.getElem?_toArray, List.getElem?_cons_succ, List.getElem?_cons_zero]; rfl) (by kernel_rfl) (by kernel_rfl) (by kernel_rfl) (by exact fun _ _ _ h => h) (Or.inl ⟨by rfl, ?_⟩) (by assumption) ?_
          rotate_left
          · intro w' hSw; obtain ⟨e1, e2⟩ := hSw
            go_simp; try with_reducible rfl
          try simp only [Act.put, List.setIfInBounds_toArray, List.set_cons_zero, List.set_cons_succ]
          refine wpAnyH_ready (rs := [5]) (by kernel_rfl) (by simp) ?_
          refine AllReadyH.cons (by simp only [List.getElem?_toArray, List.getElem?_cons_succ, List.getElem?_cons_zero]; rfl) (fun K hK => ?_) AllReadyH.nil
          go_simp
          refine hK.out _ _ ⟨acell p0 (.cells #[.int .i64 (f : Int)] 3), acell q0 (.cells #[.int .i64 (f : Int)] 3)⟩ (fun hH5 => ?_)
          clear hK K
          try simp only [Act.put, List.setIfInBounds_toArray, List.set_cons_zero, List.set_cons_succ]
          refine wpAnyH_ready (rs := [12]) (by kernel_rfl) (by simp) ?_
          refine AllReadyH.cons (by simp only [List.getElem?_toArray, List.getElem?_cons_succ, List.getElem?_cons_zero]; rfl) (fun K hK => ?_) AllReadyH.nil
          go_simp
          obtain ⟨wx, hwx⟩ : ∃ wx : World, wx = (wr.alloc (.cells #[.int .i64 (f : Int)] 3)).drew := ⟨_, rfl⟩
          have key : Below wr.heap.size wr wx := by rw [hwx]; exact ((Below.refl _ _).alloc (Nat.le_refl _) _).drew
          have hox : wx.ownsRow w.heap.size 3 1 (.slice (some ⟨wr.heap.size, 0, none⟩) 1 1) 1 (ints (fwI [(f, 0)])) := by
            have h := World.ownsRow_lit (base := w.heap.size) (e := 3) (size := 1) wr #[.int .i64 (f : Int)] 1 HB.out.1.size (by decide) (by simp)
            rw [hwx]
            have h2 := own_later h (((Below.refl _ _).drew) : Below _ _ (wr.alloc (.cells #[.int .i64 (f : Int)] 3)).drew)
            simpa [ints, fwI, fw, stopsOf] using h2
          have HCall := Lib.hid (HWay.out k wx _ (HB.out.1.trans (key.mono HB.out.1.size)) (Nat.le_trans HB.out.1.size key.size) hox (by simp only [List.length_cons, List.length_nil]; omega))
          have HBx : Hid (Below w.heap.size w wx) := HB.out.1.trans (key.mono HB.out.1.size)
          have p0x := bkeep key p0
          have q0x := bkeep key q0
          rw [← hwx] at hH5 ⊢
          clear hwx key hox
          go_at_call 86
          refine HCall.out.mono ?_
          rintro e w4 ⟨u4, rfl, ho4, hb4⟩
          have hS4 : w4.cell? ⟨w.heap.size, 0, none⟩ = some (.slice a n.stops.length c) ∧ w4.cell? ⟨g2, dd, none⟩ = some (.int .i64 (mOf ck : Nat)) := ⟨bkeep hb4 p0x, bkeep hb4 q0x⟩
          have HB4 : Hid (Below w.heap.size w w4 ∧ w.heap.size < w4.heap.size) := ⟨HBx.out.trans (hb4.mono HBx.out.size), by have h1 := hb4.size; have h2 := World.block_lt_of_cell? _ _ hS4.1; simpa using h2⟩
          have HO4 := Lib.hid ho4
          obtain ⟨u4a, u4c, rfl⟩ := own_shape ho4
          clear hb4 ho4 HCall p0x q0x HBx
          go_wp2_with fail
          refine hK.out _ _ hS4 (fun hH12 => ?_)
          clear hK K
          try simp only [Act.put, List.setIfInBounds_toArray, List.set_cons_zero, List.set_cons_succ]
          refine wpAnyH_take (i := 13) (v := ?_) (by simp only [List.getElem?_toArray, List.getElem?_cons_succ, List.getElem?_cons_zero]; rfl) (by kernel_rfl) (by kernel_rfl) (by kernel_rfl) (by exact fun _ _ _ h => h) (Or.inl ⟨by rfl, ?_⟩) (by assumption) ?_
          rotate_left
          · intro w' hSw; go_simp; try with_reducible rfl
          try simp only [Act.put, List.setIfInBounds_toArray, List.set_cons_zero, List.set_cons_succ]
          refine wpAnyH_done (by kernel_rfl) ?_ _
          obtain ⟨p0, q0⟩ := hS4
          by_cases hke : k + 1 = ck.length
          · obtain ⟨h1, h2⟩ := HBest.out.2 k hke
            have HE := Lib.hid h2
            have hpos := List.length_pos_iff.2 h1
            have HLen : Hid ((wayF ws n.stops.length dd k [(f, 0)] (mOf ck : Nat)).length = (fwI ck).length) := by
              show _ = _
              have := congrArg List.length h2
              rw [fw_len, fw_len] at this
              rw [fwI_len]; exact this
            have HE2 : Hid (fwI (wayF ws n.stops.length dd k [(f, 0)] (mOf ck : Nat)) = fwI ck) := by show _ = _; unfold fwI; rw [HE.out]
            clear h1 h2 HE HBest HWay
            generalize wayF ws n.stops.length dd k [(f, 0)] (mOf ck : Nat) = G at *
            have dl : decide ((0 : Int) < (G.length : Int)) = true := decide_eq_true (by omega)
            have dl2 : decide (0 < G.length) = true := decide_eq_true hpos
            go_wp2_with fail
            go_ret2
            refine ⟨⟨_, rfl, IntsIn.mk ?_⟩, HB4.out.1⟩
            rw [← HLen.out, ← HE2.out]
            exact HO4.out
          · have h1 := HBest.out.1 k (by omega)
            rw [h1]
            go_wp2_with fail
            exact ⟨⟨k + 1, by go_num, by omega, p0, q0, HB4⟩, by simp [RowKit.intOf]; omega⟩
    · have HI := Lib.hid (fun W => l1In_no d 0 ((n.stops.length : Int) - 1) W (by omega))
      rw [show swOk n ws s d = false by unfold swOk; rw [hw, decide_eq_false hd]; rfl]
      simp only [Bool.false_eq_true, if_false]
      obtain ⟨a, c, a', c', rfl, -, -⟩ := net_open hr
      obtain ⟨lb, ld, rfl⟩ := WalkS_open hl
      clear hw hr hl hf hwf hg hv hd hs0 hs1
      go_enter Try.func32, Try.ntmps32
      go_wp2_with fail
      go_at_call 34
      refine (HW.out _ ((Below.refl _ _).alloc (Nat.le_refl _) _)).mono ?_
      rintro e w1 ⟨⟨u, rfl, hu⟩, hb1⟩
      have HB1 : Hid (Below w.heap.size w w1 ∧ w.heap.size < w1.heap.size) := ⟨((Below.refl _ _).alloc (Nat.le_refl _) _).trans (hb1.mono (by simp)), by have := hb1.size; simp at this; omega⟩
      have p0 : w1.cell? ⟨w.heap.size, 0, none⟩ = some (.slice a n.stops.length c) := bkeep hb1 (by go_simp)
      have HU := Lib.hid hu
      obtain ⟨ua, uc, rfl⟩ := own_shape hu.1
      clear hb1 hu
      go_wp2_with fail
      go_at_call 49
      refine (HI.out _).mono ?_
      rintro e w2 ⟨rfl, rfl⟩
      go_wp2_with fail
      go_ret2
      exact ⟨⟨_, rfl, lit_ints _ HB1.out.1.size⟩, HB1.out.1.alloc HB1.out.1.size _⟩

end Go.Proofs.Ytemejcbilhcebaa
