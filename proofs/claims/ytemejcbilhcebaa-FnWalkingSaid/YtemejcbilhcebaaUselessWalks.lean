import Derived.Test.YtemejcbilhcebaaWalkingTimes
namespace Go.Proofs.Ytemejcbilhcebaa
open Go.RowKit
set_option linter.unusedVariables false
set_option linter.unusedSimpArgs false

noncomputable def usF (ws : List WlkD) (n : Nat) : Nat → List Int
  | 0 => []
  | k + 1 => usF ws n k ++ (if h : k < ws.length then (if wat (wt ws n (ws[k]'h).a.toNat) (ws[k]'h).b.toNat < (ws[k]'h).m then [(k : Int)] else []) else [])
theorem usF_yes {ws : List WlkD} {n k : Nat} (h : k < ws.length) (hs : wat (wt ws n (ws[k]'h).a.toNat) (ws[k]'h).b.toNat < (ws[k]'h).m) : usF ws n (k + 1) = usF ws n k ++ [(k : Int)] := by simp [usF, h, hs]
theorem usF_no {ws : List WlkD} {n k : Nat} (h : k < ws.length) (hs : ¬ wat (wt ws n (ws[k]'h).a.toNat) (ws[k]'h).b.toNat < (ws[k]'h).m) : usF ws n (k + 1) = usF ws n k := by simp only [usF, dif_pos h, if_neg hs, List.append_nil]
theorem own_cells {B : Nat} {w : World} {a : Option Addr} {c n : Nat} {R : List Int} (h : w.ownsRow B 3 1 (.slice a n c) n (ints R)) (hn : 0 < n) (hR : R.length = n) :
    ∃ g, a = some ⟨g, 0, none⟩ ∧ B ≤ g ∧ g < w.heap.size ∧ ∀ k, k < n → w.cell? ⟨g, k, none⟩ = some (.int .i64 (wat R k)) := by
  obtain ⟨g, rfl⟩ : ∃ g, a = some ⟨g, 0, none⟩ := by
    obtain ⟨_, h2⟩ := h
    rcases h2 with ⟨hv, h0⟩ | ⟨g, cap, cur, hv, hg, hblk, h3, h4, h5, h6⟩
    · omega
    · simp at hv; exact ⟨g, hv.1⟩
  refine ⟨g, rfl, (h.lt g rfl).1, (h.lt g rfl).2, fun k hk => ?_⟩
  rw [h.cellAt k (by omega), wat_at (by omega)]
  unfold ints
  rw [List.getElem?_map, List.getElem?_eq_getElem (by omega)]
  rfl
noncomputable def usAns (n : NetD) (ws : List WlkD) : List Int := if walksB n ws then usF ws n.stops.length ws.length else []

set_option maxRecDepth 100000 in
set_option maxHeartbeats 4000000 in
theorem implUseless_any (nv lv : Value) (n : NetD) (ws : List WlkD) (w : World) (hr : NetAt w nv n) (hl : WalksAt w lv ws) (hf : NetFits n) :
    Calls Try.prog 40 #[nv, lv] w fun e w' => IntsB w.heap.size (usAns n ws) (walksB n ws) e w' ∧ Below w.heap.size w w' := by
  have HW := Lib.hid (fun W (h : Below w.heap.size w W) => implWalks_any nv lv n ws W (hr.below rfl h) (hl.below rfl h) hf)
  have HL := Lib.hid hl
  unfold usAns
  cases hw : walksB n ws with
  | false =>
    rw [hw] at HW
    simp only [Bool.false_eq_true, if_false]
    obtain ⟨a, c, a', c', rfl, -, -⟩ := net_open hr
    obtain ⟨lb, ld, rfl⟩ := WalkS_open hl
    clear hw hr hl hf
    go_enter Try.func40, Try.ntmps40
    go_wp2_with fail
    obtain ⟨wa, hwa⟩ : ∃ wa : World, wa = (w.alloc (.cells #[.slice a n.stops.length c, .slice a' n.lines.length c'] 27)).alloc (.cells #[] 3) := ⟨_, rfl⟩
    have hba : Below w.heap.size w wa := by rw [hwa]; exact ((Below.refl _ _).alloc (Nat.le_refl _) _).alloc (by simp) _
    have hO : wa.ownsRow w.heap.size 3 1 (.slice (some ⟨w.heap.size + 1, 0, none⟩) 0 0) 0 (ints []) := by
      have h := World.ownsRow_lit (base := w.heap.size) (e := 3) (size := 1) (w.alloc (.cells #[.slice a n.stops.length c, .slice a' n.lines.length c'] 27 (0, 0))) #[] 0 (by simp) (by decide) (by simp)
      rw [hwa]; simpa [ints] using h
    have HO := Lib.hid hO
    rw [← hwa]
    clear hwa hO
    go_at_call 35
    refine (HW.out _ hba).mono ?_
    rintro e w1 ⟨rfl, hb1⟩
    have HO1 := Lib.hid (own_later HO.out hb1)
    have HB1 : Hid (Below w.heap.size w w1) := hba.trans (hb1.mono hba.size)
    clear hb1 hba HO
    go_wp2_with fail
    go_ret2
    exact ⟨⟨_, rfl, IntsIn.mk HO1.out⟩, HB1.out⟩
  | true =>
    rw [hw] at HW
    obtain ⟨hg, hv⟩ := walksB_iff hw
    have HV := Lib.hid hv
    have hwl := hv.len
    have hn8 := netGood_stops hg
    have HTT := Lib.hid (fun f (hfn : f < n.stops.length) W (h : Below w.heap.size w W) => walkingTimesOf_any nv lv n ws f W (hr.below rfl h) (hl.below rfl h) hv (netGood_stops hg) hfn)
    simp only [if_true]
    obtain ⟨a, c, a', c', rfl, -, -⟩ := net_open hr
    obtain ⟨lb, ld, rfl⟩ := WalkS_open hl
    clear hw hr hl hf hg hv
    obtain ⟨i0, hi0, hz0, hz1, hz2⟩ := info_parts infoInt
    go_enter Try.func40, Try.ntmps40
    go_wp2_with fail
    obtain ⟨wa, hwa⟩ : ∃ wa : World, wa = (w.alloc (.cells #[.slice a n.stops.length c, .slice a' n.lines.length c'] 27)).alloc (.cells #[] 3) := ⟨_, rfl⟩
    have hba : Below w.heap.size w wa := by rw [hwa]; exact ((Below.refl _ _).alloc (Nat.le_refl _) _).alloc (by simp) _
    have hO : wa.ownsRow (w.heap.size + 1) 3 1 (.slice (some ⟨w.heap.size + 1, 0, none⟩) 0 0) 0 (ints []) := by
      have h := World.ownsRow_lit (base := w.heap.size + 1) (e := 3) (size := 1) (w.alloc (.cells #[.slice a n.stops.length c, .slice a' n.lines.length c'] 27 (0, 0))) #[] 0 (by simp) (by decide) (by simp)
      rw [hwa]; simpa [ints] using h
    have p0 : wa.cell? ⟨w.heap.size, 0, none⟩ = some (.slice a n.stops.length c) := by rw [hwa]; go_simp
    have p1 : wa.cell? ⟨w.heap.size, 1, none⟩ = some (.slice a' n.lines.length c') := by rw [hwa]; go_simp
    have hza : w.heap.size < wa.heap.size := by rw [hwa]; simp; omega
    have HO := Lib.hid hO
    rw [← hwa]
    clear hwa hO
    go_at_call 35
    refine (HW.out _ hba).mono ?_
    rintro e w1 ⟨rfl, hb1⟩
    have HO1 := Lib.hid (own_later HO.out hb1)
    have p0 := bkeep hb1 p0
    have p1 := bkeep hb1 p1
    have HB1 : Hid (Below w.heap.size w w1 ∧ w.heap.size < w1.heap.size) := ⟨hba.trans (hb1.mono hba.size), by have := hb1.size; omega⟩
    clear hb1 hba HO hza
    go_wp2_with fail
    go_loopw [6, 17] (fun o i wr => ∃ k m : Nat, k ≤ ws.length ∧ i = .int .i64 k ∧ m ≤ k ∧ Hid (wr.ownsRow (w.heap.size + 1) 3 1 o m (ints (usF ws n.stops.length k))) ∧ wr.cell? ⟨w.heap.size, 0, none⟩ = some (.slice a n.stops.length c) ∧ wr.cell? ⟨w.heap.size, 1, none⟩ = some (.slice a' n.lines.length c') ∧ Hid (Below w.heap.size w wr ∧ w.heap.size < wr.heap.size))
      (fun _ i _ => ws.length - (RowKit.intOf i).toNat)
    case atStart => exact ⟨0, 0, Nat.zero_le _, rfl, Nat.le_refl _, HO1.out, p0, p1, HB1⟩
    case round =>
      clear p0 p1 HO1 HB1
      obtain ⟨k, m, hk, rfl, hmk, HOwn, p0, p1, HB⟩ := hrel
      obtain ⟨oa, oc, rfl⟩ := own_shape HOwn.out
      by_cases hlt : k < ws.length
      · obtain ⟨g, go, rfl, hgb, y0, y1, y2⟩ := walk_at (HL.out.below rfl HB.out.1) k hlt
        have hk1 : (k : Int) < (ws.length : Int) := by omega
        have hxe := HV.out.each ws[k] (List.getElem_mem hlt)
        obtain ⟨xa, hxa⟩ := Int.eq_ofNat_of_zero_le hxe.1
        obtain ⟨xb, hxb⟩ := Int.eq_ofNat_of_zero_le (show 0 ≤ ws[k].b by omega)
        obtain ⟨xm, hxm⟩ : ∃ m, ws[k].m = m := ⟨_, rfl⟩
        have hxan : xa < n.stops.length := by omega
        have hxbn : xb < n.stops.length := by omega
        have hn0 : 0 < n.stops.length := by omega
        have HT := Lib.hid (HTT.out xa hxan)
        have hlenR := wt_len HV.out hxan
        have HYes : Hid (wat (wt ws n.stops.length xa) xb < xm → usF ws n.stops.length (k + 1) = usF ws n.stops.length k ++ [(k : Int)]) := fun h => usF_yes hlt (by rw [hxa, hxb, hxm]; exact h)
        have HNo : Hid (¬ wat (wt ws n.stops.length xa) xb < xm → usF ws n.stops.length (k + 1) = usF ws n.stops.length k) := fun h => usF_no hlt (by rw [hxa, hxb, hxm]; exact h)
        rw [hxa] at y0
        rw [hxb] at y1
        rw [hxm] at y2
        have hxb1 : (xb : Int) < (n.stops.length : Int) := by omega
        clear hxa hxb hxm hxe
        generalize hR : wt ws n.stops.length xa = R at *
        clear hR
        generalize hD : wat R xb = D at *
        go_wp2_with fail
        obtain ⟨wa, hwa⟩ : ∃ wa : World, wa = wr.alloc (.cells #[.int .i64 (xa : Int), .int .i64 (xb : Int), .int .i64 xm] 67) := ⟨_, rfl⟩
        have b0 : wa.cell? ⟨wr.heap.size, 0, none⟩ = some (.int .i64 (xa : Int)) := by rw [hwa]; go_simp
        have b1 : wa.cell? ⟨wr.heap.size, 1, none⟩ = some (.int .i64 (xb : Int)) := by rw [hwa]; go_simp
        have b2 : wa.cell? ⟨wr.heap.size, 2, none⟩ = some (.int .i64 xm) := by rw [hwa]; go_simp
        have p0 : wa.cell? ⟨w.heap.size, 0, none⟩ = some (.slice a n.stops.length c) := by rw [hwa]; exact acell p0 _
        have p1 : wa.cell? ⟨w.heap.size, 1, none⟩ = some (.slice a' n.lines.length c') := by rw [hwa]; exact acell p1 _
        have hba : Below wr.heap.size wr wa := by rw [hwa]; exact (Below.refl _ _).alloc (Nat.le_refl _) _
        rw [← hwa]
        clear hwa y0 y1 y2
        have HBa : Hid (Below w.heap.size w wa) := HB.out.1.trans (hba.mono HB.out.1.size)
        have hza : w.heap.size < wa.heap.size := by have := hba.size; have := HB.out.2; omega
        refine wp_region_held_drew (S := (fun w' => w'.cell? ⟨wr.heap.size, 0, none⟩ = some (.int .i64 (xa : Int)) ∧ w'.cell? ⟨wr.heap.size, 1, none⟩ = some (.int .i64 (xb : Int)) ∧ w'.cell? ⟨wr.heap.size, 2, none⟩ = some (.int .i64 xm) ∧ w'.cell? ⟨w.heap.size, 0, none⟩ = some (.slice a n.stops.length c) ∧ w'.cell? ⟨w.heap.size, 1, none⟩ = some (.slice a' n.lines.length c'))) (by kernel_rfl) ?_ (fun hHeld => ?_)
        · exact ⟨b0, b1, b2, p0, p1⟩
        refine wpAnyH_take (i := 0) (v := ?_) (by simp only [List.getElem?_toArray, List.getElem?_cons_zero]; rfl) (by kernel_rfl) (by kernel_rfl) (by kernel_rfl) (by exact fun _ _ _ h => h) (Or.inl ⟨by rfl, ?_⟩) (by assumption) ?_
        rotate_left
        · intro w' hSw; obtain ⟨e1, e2, e3, e4, e5⟩ := hSw
          go_simp; try with_reducible rfl
        try simp only [Act.put, List.setIfInBounds_toArray, List.set_cons_zero, List.set_cons_succ]
        refine wpAnyH_take (i := 1) (v := ?_) (by simp only [List.getElem?_toArray, List.getElem?_cons_succ, List.getElem?_cons_zero]; rfl) (by kernel_rfl) (by kernel_rfl) (by kernel_rfl) (by exact fun _ _ _ h => h) (Or.inl ⟨by rfl, ?_⟩) (by assumption) ?_
        rotate_left
        · intro w' hSw; obtain ⟨e1, e2, e3, e4, e5⟩ := hSw
          go_simp; try with_reducible rfl
        try simp only [Act.put, List.setIfInBounds_toArray, List.set_cons_zero, List.set_cons_succ]
        refine wpAnyH_take (i := 2) (v := ?_) (by simp only [List.getElem?_toArray, List.getElem?_cons_succ, List.getElem?_cons_zero]; rfl) (by kernel_rfl) (by kernel_rfl) (by kernel_rfl) (by exact fun _ _ _ h => h) (Or.inl ⟨by rfl, ?_⟩) (by assumption) ?_
        rotate_left
        · intro w' hSw; obtain ⟨e1, e2, e3, e4, e5⟩ := hSw
          go_simp; try with_reducible rfl
        try simp only [Act.put, List.setIfInBounds_toArray, List.set_cons_zero, List.set_cons_succ]
        refine wpAnyH_take (i := 3) (v := ?_) (by simp only [List.getElem?_toArray, List.getElem?_cons_succ, List.getElem?_cons_zero]; rfl) (by kernel_rfl) (by kernel_rfl) (by kernel_rfl) (by exact fun _ _ _ h => h) (Or.inl ⟨by rfl, ?_⟩) (by assumption) ?_
        rotate_left
        · intro w' hSw; obtain ⟨e1, e2, e3, e4, e5⟩ := hSw
          go_simp; try with_reducible rfl
        try simp only [Act.put, List.setIfInBounds_toArray, List.set_cons_zero, List.set_cons_succ]
        refine wpAnyH_take (i := 4) (v := ?_) (by simp only [List.getElem?_toArray, List.getElem?_cons_succ, List.getElem?_cons_zero]; rfl) (by kernel_rfl) (by kernel_rfl) (by kernel_rfl) (by exact fun _ _ _ h => h) (Or.inl ⟨by rfl, ?_⟩) (by assumption) ?_
        rotate_left
        · intro w' hSw; obtain ⟨e1, e2, e3, e4, e5⟩ := hSw
          go_simp; try with_reducible rfl
        try simp only [Act.put, List.setIfInBounds_toArray, List.set_cons_zero, List.set_cons_succ]
        refine wpAnyH_take (i := 5) (v := ?_) (by simp only [List.getElem?_toArray, List.getElem?_cons_succ, List.getElem?_cons_zero]; rfl) (by kernel_rfl) (by kernel_rfl) (by kernel_rfl) (by exact fun _ _ _ h => h) (Or.inl ⟨by rfl, ?_⟩) (by assumption) ?_
        rotate_left
        · intro w' hSw; obtain ⟨e1, e2, e3, e4, e5⟩ := hSw
          go_simp; try with_reducible rfl
        try simp only [Act.put, List.setIfInBounds_toArray, List.set_cons_zero, List.set_cons_succ]
        refine wpAnyH_take (i := 7) (v := ?_) (by simp only [List.getElem?_toArray, List.getElem?_cons_succ, List.getElem?_cons_zero]; rfl) (by kernel_rfl) (by kernel_rfl) (by kernel_rfl) (by exact fun _ _ _ h => h) (Or.inl ⟨by rfl, ?_⟩) (by assumption) ?_
        rotate_left
        · intro w' hSw; obtain ⟨e1, e2, e3, e4, e5⟩ := hSw
          go_simp; try with_reducible rfl
        try simp only [Act.put, List.setIfInBounds_toArray, List.set_cons_zero, List.set_cons_succ]
        refine wpAnyH_take (i := 8) (v := ?_) (by simp only [List.getElem?_toArray, List.getElem?_cons_succ, List.getElem?_cons_zero]; rfl) (by kernel_rfl) (by kernel_rfl) (by kernel_rfl) (by exact fun _ _ _ h => h) (Or.inl ⟨by rfl, ?_⟩) (by assumption) ?_
        rotate_left
        · intro w' hSw; obtain ⟨e1, e2, e3, e4, e5⟩ := hSw
          go_simp; try with_reducible rfl
        try simp only [Act.put, List.setIfInBounds_toArray, List.set_cons_zero, List.set_cons_succ]
        refine wpAnyH_ready (rs := [6]) (by kernel_rfl) (by simp) ?_
        refine AllReadyH.cons (by simp only [List.getElem?_toArray, List.getElem?_cons_succ, List.getElem?_cons_zero]; rfl) (fun K hK => ?_) AllReadyH.nil
        go_simp
        go_at_call 87
        refine (HT.out _ HBa.out.drew).mono ?_
        rintro e w2 ⟨⟨a2, c2, rfl, ho2⟩, hb2⟩
        obtain ⟨g2, rfl, -, hg2, hc2⟩ := own_cells ho2 hn0 hlenR
        have hcx := hc2 xb hxbn
        rw [hD] at hcx
        have rb : Below wa.heap.size wa w2 := (Below.refl _ _).drew.trans hb2
        have hS2 : w2.cell? ⟨wr.heap.size, 0, none⟩ = some (.int .i64 (xa : Int)) ∧ w2.cell? ⟨wr.heap.size, 1, none⟩ = some (.int .i64 (xb : Int)) ∧ w2.cell? ⟨wr.heap.size, 2, none⟩ = some (.int .i64 xm) ∧ w2.cell? ⟨w.heap.size, 0, none⟩ = some (.slice a n.stops.length c) ∧ w2.cell? ⟨w.heap.size, 1, none⟩ = some (.slice a' n.lines.length c') := ⟨bkeep rb b0, bkeep rb b1, bkeep rb b2, bkeep rb p0, bkeep rb p1⟩
        clear hc2 ho2 hb2
        go_wp2_with fail
        refine hK.out _ _ hS2 (fun hH6 => ?_)
        clear hK K
        try simp only [Act.put, List.setIfInBounds_toArray, List.set_cons_zero, List.set_cons_succ]
        refine wpAnyH_take (i := 9) (v := ?_) (by simp only [List.getElem?_toArray, List.getElem?_cons_succ, List.getElem?_cons_zero]; rfl) (by kernel_rfl) (by kernel_rfl) (by kernel_rfl) (by exact fun _ _ _ h => h) (Or.inl ⟨by rfl, ?_⟩) (by assumption) ?_
        rotate_left
        · intro w' hSw; go_simp; try with_reducible rfl
        try simp only [Act.put, List.setIfInBounds_toArray, List.set_cons_zero, List.set_cons_succ]
        refine wpAnyH_ready (rs := [10]) (by kernel_rfl) (by simp) ?_
        refine AllReadyH.cons (by simp only [List.getElem?_toArray, List.getElem?_cons_succ, List.getElem?_cons_zero]; rfl) (fun K hK => ?_) AllReadyH.nil
        go_simp
        refine hK.out _ _ hS2 (fun hH10 => ?_)
        clear hK K
        try simp only [Act.put, List.setIfInBounds_toArray, List.set_cons_zero, List.set_cons_succ]
        refine wpAnyH_take (i := 11) (v := ?_) (by simp only [List.getElem?_toArray, List.getElem?_cons_succ, List.getElem?_cons_zero]; rfl) (by kernel_rfl) (by kernel_rfl) (by kernel_rfl) (by exact fun _ _ _ h => h) (Or.inl ⟨by rfl, ?_⟩) (by assumption) ?_
        rotate_left
        · intro w' hSw; go_simp; try with_reducible rfl
        try simp only [Act.put, List.setIfInBounds_toArray, List.set_cons_zero, List.set_cons_succ]
        refine wpAnyH_done (by kernel_rfl) ?_ _
        obtain ⟨-, -, -, p0, p1⟩ := hS2
        obtain ⟨wx, rfl⟩ : ∃ wx : World, wx = w2 := ⟨_, rfl⟩
        have HOx := Lib.hid (own_later HOwn.out (hba.trans (rb.mono hba.size)))
        have HBx : Hid (Below w.heap.size w wx) := HBa.out.trans (rb.mono HBa.out.size)
        have hzx : w.heap.size < wx.heap.size := by have := rb.size; omega
        clear rb hba HOwn HBa
        by_cases hc : D < xm
        · have hdc : decide (D < xm) = true := decide_eq_true hc
          have HSucc := Lib.hid (HYes.out hc)
          clear HYes HNo hD hlenR HT
          go_wp2_with (at_builtin; refine wpList_append_own_at _ rfl _ _ 34 rfl (w.heap.size + 1) 3 i0 (.int .i64 0) 1 8 Try.underlying34 hi0 hz0 hz1 hz2 rfl (by decide) _ m _ rfl (HOx.out.alloc _) ⟨wx.heap.size, 0, none⟩ 1 1 [.int .i64 (k : Int)] rfl rfl ?c1 ?c2 ?c3 ?c4 ?c5 ?_)
          case c1 => exact one_new _ _
          case c2 => intro u hu; simp at hu; subst hu; rfl
          case c3 => unfold maxLen; omega
          case c4 => omega
          case c5 => simp; omega
          intro v' w3 hown' hgrow _ _
          have HR : Hid (w3.ownsRow (w.heap.size + 1) 3 1 v' (m + 1) (ints (usF ws n.stops.length (k + 1)))) := by
            show w3.ownsRow _ _ _ _ _ _
            rw [HSucc.out]; simpa [ints] using hown'
          have ho : Value.ownBlock (.slice oa m oc) ≠ some w.heap.size := fun e => by have := (HOx.out.lt w.heap.size e).1; omega
          have z0 : w3.cell? ⟨w.heap.size, 0, none⟩ = some (.slice a n.stops.length c) := hgrow.cell (acell p0 _) (fun e => ho e.symm)
          have z1 : w3.cell? ⟨w.heap.size, 1, none⟩ = some (.slice a' n.lines.length c') := hgrow.cell (acell p1 _) (fun e => ho e.symm)
          have HB3 : Hid (Below w.heap.size w w3 ∧ w.heap.size < w3.heap.size) := ⟨(HBx.out.alloc (by omega) _).grown hgrow (by simp; omega) (fun g hg => by have := (HOx.out.lt g hg).1; omega), by have := hgrow.size; simp at this; omega⟩
          clear hown' hgrow ho p0 p1
          go_wp2_with fail
          go_roundw
          case rel => exact ⟨k + 1, m + 1, by omega, by go_num, by omega, HR, z0, z1, HB3⟩
          case measure => simp [RowKit.intOf]; omega
        · have hdc : decide (D < xm) = false := decide_eq_false hc
          have HSucc := Lib.hid (HNo.out (by omega))
          clear HYes HNo hD hlenR HT
          go_wp2_with fail
          go_roundw
          case rel => exact ⟨k + 1, m, by omega, by go_num, by omega, by show World.ownsRow _ _ _ _ _ _ _; rw [HSucc.out]; exact HOx.out, p0, p1, HBx.out, hzx⟩
          case measure => simp [RowKit.intOf]; omega
      · obtain rfl : k = ws.length := by omega
        have hml : m = (usF ws n.stops.length ws.length).length := by have := HOwn.out.1; simpa [ints] using this.symm
        go_wp2_with fail
        go_ret2
        refine ⟨⟨_, rfl, IntsIn.mk ?_⟩, HB.out.1⟩
        rw [← hml]
        exact own_base HOwn.out (Nat.le_succ _)

end Go.Proofs.Ytemejcbilhcebaa
