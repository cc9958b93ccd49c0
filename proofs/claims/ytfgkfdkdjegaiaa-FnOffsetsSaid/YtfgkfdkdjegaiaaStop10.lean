import Derived.Test.YtfgkfdkdjegaiaaDrawPat
import Derived.Test.YtfgkfdkdjegaiaaMk11
import Derived.Test.YtfgkfdkdjegaiaaMk05
import Derived.OrdersHeld
import Derived.Deep.RegionHeld
import Derived.Deep.RegionLaw
namespace Go.Proofs.Ytfgkfdkdjegaiaa
open Go.RowKit
set_option linter.unusedVariables false
set_option linter.unusedSimpArgs false

theorem no_string {w w0 : World} {b m sb j : Nat} {v : Value} {nm : ByteArray} (hc : CurAt w b v m) (hv : CodeAt w0 v) (h : w.cell? ⟨sb, j, none⟩ = some (.string nm)) : sb ≠ b := by
  intro e
  subst e
  obtain ⟨k, s, hh, -, -⟩ := hc
  obtain ⟨l, ca, cc, rfl, -⟩ := hv
  rw [cell_in hh] at h
  rcases j with _ | _ | _ | j <;> simp at h
set_option maxRecDepth 100000 in
set_option maxHeartbeats 8000000 in
theorem stop10_any (b m l u : Nat) (v lv : Value) (d : NetD) (a : Option Addr) (c : Nat) (oa : Option Addr) (oc : Nat) (xs : List PatternD) (w : World) (hc : CurAt w b v m) (hv : CodeOff w b v) (hm : m ≤ 300000) (hbl : b < l) (hnet : NetL l u w (.agg #[.slice a d.stops.length c, .slice oa d.lines.length oc]) d)
    (hrow : w.ownsRow l 45 2 lv xs.length (patC xs)) (hd8 : d.stops.length ≤ 8 ∧ ∀ s ∈ d.stops, s.size ≤ 20) (hd12 : d.lines.length ≤ 12) (hln : ∀ x ∈ d.lines, AnyLn x) (hx4 : xs.length ≤ 4) (hxs : ∀ x ∈ xs, PtIn x) :
    Calls Try.prog 71 #[.pointer (some ⟨b, 0, none⟩), .agg #[.slice a d.stops.length c, .slice oa d.lines.length oc], lv] w fun e w' => (∃ r : Int, e = .returned (.int .i64 r) ∧ -1 ≤ r ∧ r ≤ 1000) ∧ CurPost w b (m + 20) v w' := by
  have hlt := curAt_lt hc
  have hfit : NetFits d := ⟨fun s hs => by have := hd8.2 s hs; unfold maxLen; omega, fun x hx => anyLn_fits (hln x hx)⟩
  obtain ⟨ra0, rc0, rfl⟩ := own_shape hrow
  have HC0 := Lib.hid (curPost_start hc hv (.cells #[.slice a d.stops.length c, .slice oa d.lines.length oc] 27))
  have HV := Lib.hid hv
  have HNet := Lib.hid (fun (W : World) (hz : w.heap.size ≤ W.heap.size) (hq : ∀ q, l ≤ q → q < w.heap.size → W.heap[q]? = w.heap[q]?) => (hnet.keep hz (fun q a1 _ a3 => hq q a1 a3)).at)
  have HGood := Lib.hid (fun W h => l2Good_any (.agg #[.slice a d.stops.length c, .slice oa d.lines.length oc]) d W h hfit)
  have HXs := Lib.hid hxs
  have HRow := Lib.hid hrow
  obtain ⟨w0, hw0⟩ : ∃ w0 : World, w0 = w.alloc (.cells #[.slice a d.stops.length c, .slice oa d.lines.length oc] 27) := ⟨_, rfl⟩
  rw [← hw0] at HC0
  have c0 : w0.cell? ⟨w.heap.size, 0, none⟩ = some (.slice a d.stops.length c) := by rw [hw0]; go_simp
  have c1 : w0.cell? ⟨w.heap.size, 1, none⟩ = some (.slice oa d.lines.length oc) := by rw [hw0]; go_simp
  have hz0 : w0.heap.size = w.heap.size + 1 := by rw [hw0]; simp
  have HN0 := Lib.hid (HNet.out w0 (by omega) (fun q _ hq => by rw [hw0]; exact Below.heap_alloc _ _ _ hq))
  have hwb : w.heap.size ≠ b := by omega
  have hd8' := hd8.1
  have HW0 := Lib.hid hw0
  clear hc hv hnet hrow hd8 hln hfit hxs
  clear hw0
  by_cases hx0 : xs.length = 0
  · have hle : ¬ (0 : Int) < (xs.length : Int) := by omega
    have hle2 : decide ((0 : Int) < (xs.length : Int)) = false := decide_eq_false hle
    have hle3 : decide (0 < xs.length) = false := decide_eq_false (by omega)
    clear hx0
    go_enter Try.func71, Try.ntmps71
    go_wp2_with fail
    rw [← HW0.out]
    have H5 := Lib.hid (pick_any b (m) v ((d.stops.length : Int) + 1) w0 HC0.out.1 HC0.out.2.1 (by omega) (by omega))
    have hsw : IntKind.i64.wrap ((d.stops.length : Int) + 1) = (d.stops.length : Int) + 1 := IntWalk.i64_in _ (by omega)
    go_wp2_with fail
    go_at_call 70
    refine H5.out.mono ?_
    rintro e wp ⟨⟨ra, rfl, ra0, ra1⟩, hp⟩
    have ra2 := ra1 (by omega)
    have HCp := Lib.hid (curPost_trans HC0.out hp)
    have H6 := Lib.hid (pick_any b (m + 2) v 12 wp HCp.out.1 HCp.out.2.1 (by omega) (by omega))
    clear hp H5 ra1 HC0
    go_wp2_with fail
    go_at_call 70
    refine H6.out.mono ?_
    rintro e wq ⟨⟨rb, rfl, rb0, rb1⟩, hp⟩
    have rb2 := rb1 (by omega)
    have HCq := Lib.hid (curPost_trans HCp.out hp)
    have htd : rb.tdiv 11 = rb / 11 := Int.tdiv_eq_ediv_of_nonneg rb0
    have hdv : 0 ≤ rb / 11 ∧ rb / 11 ≤ 1 := by omega
    generalize rb / 11 = rc at *
    have hwc : IntKind.i64.wrap rc = rc := IntWalk.i64_in _ (by omega)
    have hwd : IntKind.i64.wrap (ra - rc) = ra - rc := IntWalk.i64_in _ (by omega)
    clear hp H6 HCp rb1
    go_wp2_with fail
    go_ret
    exact ⟨⟨_, rfl, by omega, by omega⟩, curPost_mono HCq.out (by omega)⟩
  · have hle : (0 : Int) < (xs.length : Int) := by omega
    have HG0 := Lib.hid (HGood.out w0 HN0.out)
    by_cases hg : NetGood d
    · rw [netB_yes hg] at HG0
      have HGd := Lib.hid hg
      clear hg hx0
      go_enter Try.func71, Try.ntmps71
      go_wp2_with fail
      rw [← HW0.out]
      go_at_call 101
      refine HG0.out.mono ?_
      rintro e w1 ⟨rfl, hb1⟩
      have HC1 := Lib.hid (curPost_later HV.out hlt HC0.out hb1)
      have c0 := bkeep hb1 c0
      have c1 := bkeep hb1 c1
      have hz1 : w.heap.size < w1.heap.size := by have := hb1.size; omega
      have H1 := Lib.hid (one_any b m v 6 w1 HC1.out.1 HC1.out.2.1 (by omega) (by omega))
      clear hb1 HG0 HN0 HC0 hz0
      go_wp2_with fail
      go_at_call 102
      refine H1.out.mono ?_
      rintro e w2 ⟨⟨r2, rfl⟩, hp⟩
      have HC2 := Lib.hid (curPost_trans HC1.out hp)
      have c0 := hp.2.2.cell c0 (by simp; omega)
      have c1 := hp.2.2.cell c1 (by simp; omega)
      have hz2 : w.heap.size < w2.heap.size := by have := hp.2.2.size; omega
      clear hp H1 HC1 hz1
      cases r2 with
      | true =>
        have H5 := Lib.hid (pick_any b (m + 2) v ((d.stops.length : Int) + 1) w2 HC2.out.1 HC2.out.2.1 (by omega) (by omega))
        have hsw : IntKind.i64.wrap ((d.stops.length : Int) + 1) = (d.stops.length : Int) + 1 := IntWalk.i64_in _ (by omega)
        go_wp2_with fail
        go_at_call 70
        refine H5.out.mono ?_
        rintro e wp ⟨⟨ra, rfl, ra0, ra1⟩, hp⟩
        have ra2 := ra1 (by omega)
        have HCp := Lib.hid (curPost_trans HC2.out hp)
        have H6 := Lib.hid (pick_any b (m + 2 + 2) v 12 wp HCp.out.1 HCp.out.2.1 (by omega) (by omega))
        clear hp H5 ra1 HC2
        go_wp2_with fail
        go_at_call 70
        refine H6.out.mono ?_
        rintro e wq ⟨⟨rb, rfl, rb0, rb1⟩, hp⟩
        have rb2 := rb1 (by omega)
        have HCq := Lib.hid (curPost_trans HCp.out hp)
        have htd : rb.tdiv 11 = rb / 11 := Int.tdiv_eq_ediv_of_nonneg rb0
        have hdv : 0 ≤ rb / 11 ∧ rb / 11 ≤ 1 := by omega
        generalize rb / 11 = rc at *
        have hwc : IntKind.i64.wrap rc = rc := IntWalk.i64_in _ (by omega)
        have hwd : IntKind.i64.wrap (ra - rc) = ra - rc := IntWalk.i64_in _ (by omega)
        clear hp H6 HCp rb1
        go_wp2_with fail
        go_ret
        exact ⟨⟨_, rfl, by omega, by omega⟩, curPost_mono HCq.out (by omega)⟩
      | false =>
        have H2 := Lib.hid (pick_any b (m + 2) v (xs.length : Int) w2 HC2.out.1 HC2.out.2.1 (by omega) (by omega))
        go_wp2_with fail
        go_at_call 70
        refine H2.out.mono ?_
        rintro e w3 ⟨⟨r3, rfl, r30, r31⟩, hp⟩
        have r32 := r31 (by omega)
        obtain ⟨k3, rfl⟩ := Int.eq_ofNat_of_zero_le r30
        have hk3 : k3 < xs.length := by omega
        have HC3 := Lib.hid (curPost_trans HC2.out hp)
        have c0 := hp.2.2.cell c0 (by simp; omega)
        have c1 := hp.2.2.cell c1 (by simp; omega)
        have hz3 : w.heap.size < w3.heap.size := by have := hp.2.2.size; omega
        have hrow3 := own_cur HRow.out hbl HC3.out
        obtain ⟨rg, rc, hov, -, -, hrgl, hrgb, hcl⟩ := own_open hrow3 (own_someE hrow3 (by omega))
        simp only [Value.slice.injEq, true_and] at hov
        obtain ⟨rfl, rfl⟩ := hov
        have y0 := hcl _ _ (patC_get0 xs k3 hk3)
        have y1 := hcl _ _ (patC_get1 xs k3 hk3)
        have HXi := Lib.hid (HXs.out _ (List.getElem_mem hk3))
        have HN3 := Lib.hid (HNet.out w3 (by omega) (fun q a1 a2 => HC3.out.2.2.block q a2 (by simp; omega)))
        generalize xs[k3].line = xl at *
        generalize xs[k3].offs = xo at *
        obtain ⟨xb, hxb⟩ : ∃ xb, xb = w3.heap.size := ⟨_, rfl⟩
        obtain ⟨w4, hw4⟩ : ∃ w4 : World, w4 = w3.alloc (.cells #[.int .i64 xl, .int .i64 xo] 45) := ⟨_, rfl⟩
        have hb4 : Below w3.heap.size w3 w4 := by rw [hw4]; exact (Below.refl _ _).alloc (Nat.le_refl _) _
        have HC4 := Lib.hid (curPost_later HV.out hlt HC3.out hb4)
        have c0 := bkeep hb4 c0
        have c1 := bkeep hb4 c1
        have x0 : w4.cell? ⟨xb, 0, none⟩ = some (.int .i64 xl) := by rw [hxb, hw4]; go_simp
        have HN4 := Lib.hid (HN3.out.below rfl hb4)
        have hxbb : xb ≠ b := by omega
        have HWX := Lib.hid (And.intro hw4 hxb)
        have hlw : IntKind.i64.wrap ((d.lines.length : Int) - 1) = (d.lines.length : Int) - 1 := IntWalk.i64_in _ (by omega)
        have hk3i : (k3 : Int) < (xs.length : Int) := by omega
        clear hp H2 hrow3 hcl r31 HC2 HN3 hb4 hw4 hz2
        clear hxb
        go_wp2_with fail
        rw [← HWX.out.1, ← HWX.out.2]
        clear y0 y1 HC3
        by_cases hin : 0 ≤ xl ∧ xl ≤ (d.lines.length : Int) - 1
        · have HIn := Lib.hid (fun W => l1In_yes xl 0 ((d.lines.length : Int) - 1) W hin)
          obtain ⟨la, rfl⟩ := Int.eq_ofNat_of_zero_le hin.1
          have hla : la < d.lines.length := by omega
          clear hin
          obtain ⟨sb, so, s0, s1, t0, t1, rfl, hsb, z0, z1, -, -, -⟩ := net_line HN4.out la hla
          have hsbb : sb ≠ b := no_string HC4.out.1 HV.out.1 z0
          have hgl := good_line HGd.out la hla
          have hst := hgl.2.1
          have HGs : Hid (∀ s ∈ d.lines[la].stops, 0 ≤ s ∧ s < (d.stops.length : Int)) := hgl.2.2.1
          have HC3 := Lib.hid (curPost_later HV.out hlt HC4.out (Below.refl _ _).drew)
          have hz4 : w.heap.size ≤ w4.heap.size := HC4.out.2.2.size
          have H4 := Lib.hid (pick_any b (m + 2 + 2) v (d.lines[la].stops.length : Int) w4.drew HC4.out.1 HC4.out.2.1 (by omega) (by omega))
          have q1 := c1
          have q2 := x0
          have q3 := z1
          have hlai : (la : Int) < (d.lines.length : Int) := by omega
          clear hgl HC4 HN4 z0
          go_wp2_with fail
          go_at_call 66
          refine (HIn.out _).mono ?_
          rintro e w9 ⟨rfl, rfl⟩
          go_wp2_with fail
          refine wp_region_held_drew (S := (fun w' => w'.cell? ⟨w.heap.size, 1, none⟩ = some (.slice (some ⟨sb, so, none⟩) d.lines.length oc) ∧ w'.cell? ⟨xb, 0, none⟩ = some (.int .i64 (la : Int)) ∧ w'.cell? ⟨sb, so + la * 3 + 1, none⟩ = some (.slice s0 d.lines[la].stops.length s1))) (by kernel_rfl) ?_ (fun hHeld => ?_)
          · exact ⟨q1, q2, q3⟩
          refine wpAnyH_take (i := 0) (v := ?_) (by simp only [List.getElem?_toArray, List.getElem?_cons_zero]; rfl) (by kernel_rfl) (by kernel_rfl) (by kernel_rfl) (by exact fun _ _ _ h => h) (Or.inl ⟨by rfl, ?_⟩) (by assumption) ?_
          rotate_left
          · intro w' hSw; (try dsimp only at hSw); obtain ⟨e0, e1, e2⟩ := hSw
            go_simp; try with_reducible rfl
          try simp only [Act.put, List.setIfInBounds_toArray, List.set_cons_zero, List.set_cons_succ]
          refine wpAnyH_take (i := 1) (v := ?_) (by simp only [List.getElem?_toArray, List.getElem?_cons_succ, List.getElem?_cons_zero]; rfl) (by kernel_rfl) (by kernel_rfl) (by kernel_rfl) (by exact fun _ _ _ h => h) (Or.inl ⟨by rfl, ?_⟩) (by assumption) ?_
          rotate_left
          · intro w' hSw; (try dsimp only at hSw); obtain ⟨e0, e1, e2⟩ := hSw
            go_simp; try with_reducible rfl
          try simp only [Act.put, List.setIfInBounds_toArray, List.set_cons_zero, List.set_cons_succ]
          refine wpAnyH_take (i := 2) (v := ?_) (by simp only [List.getElem?_toArray, List.getElem?_cons_succ, List.getElem?_cons_zero]; rfl) (by kernel_rfl) (by kernel_rfl) (by kernel_rfl) (by exact fun _ _ _ h => h) (Or.inl ⟨by rfl, ?_⟩) (by assumption) ?_
          rotate_left
          · intro w' hSw; (try dsimp only at hSw); obtain ⟨e0, e1, e2⟩ := hSw
            go_simp; try with_reducible rfl
          try simp only [Act.put, List.setIfInBounds_toArray, List.set_cons_zero, List.set_cons_succ]
          refine wpAnyH_take (i := 3) (v := ?_) (by simp only [List.getElem?_toArray, List.getElem?_cons_succ, List.getElem?_cons_zero]; rfl) (by kernel_rfl) (by kernel_rfl) (by kernel_rfl) (by exact fun _ _ _ h => h) (Or.inl ⟨by rfl, ?_⟩) (by assumption) ?_
          rotate_left
          · intro w' hSw; (try dsimp only at hSw); obtain ⟨e0, e1, e2⟩ := hSw
            go_simp; try with_reducible rfl
          try simp only [Act.put, List.setIfInBounds_toArray, List.set_cons_zero, List.set_cons_succ]
          refine wpAnyH_take (i := 4) (v := ?_) (by simp only [List.getElem?_toArray, List.getElem?_cons_succ, List.getElem?_cons_zero]; rfl) (by kernel_rfl) (by kernel_rfl) (by kernel_rfl) (by exact fun _ _ _ h => h) (Or.inl ⟨by rfl, ?_⟩) (by assumption) ?_
          rotate_left
          · intro w' hSw; (try dsimp only at hSw); obtain ⟨e0, e1, e2⟩ := hSw
            go_simp; try with_reducible rfl
          try simp only [Act.put, List.setIfInBounds_toArray, List.set_cons_zero, List.set_cons_succ]
          refine wpAnyH_take (i := 5) (v := ?_) (by simp only [List.getElem?_toArray, List.getElem?_cons_succ, List.getElem?_cons_zero]; rfl) (by kernel_rfl) (by kernel_rfl) (by kernel_rfl) (by exact fun _ _ _ h => h) (Or.inl ⟨by rfl, ?_⟩) (by assumption) ?_
          rotate_left
          · intro w' hSw; (try dsimp only at hSw); obtain ⟨e0, e1, e2⟩ := hSw
            go_simp; try with_reducible rfl
          try simp only [Act.put, List.setIfInBounds_toArray, List.set_cons_zero, List.set_cons_succ]
          refine wpAnyH_take (i := 6) (v := ?_) (by simp only [List.getElem?_toArray, List.getElem?_cons_succ, List.getElem?_cons_zero]; rfl) (by kernel_rfl) (by kernel_rfl) (by kernel_rfl) (by exact fun _ _ _ h => h) (Or.inl ⟨by rfl, ?_⟩) (by assumption) ?_
          rotate_left
          · intro w' hSw; (try dsimp only at hSw); obtain ⟨e0, e1, e2⟩ := hSw
            go_simp; try with_reducible rfl
          try simp only [Act.put, List.setIfInBounds_toArray, List.set_cons_zero, List.set_cons_succ]
          refine wpAnyH_take (i := 7) (v := ?_) (by simp only [List.getElem?_toArray, List.getElem?_cons_succ, List.getElem?_cons_zero]; rfl) (by kernel_rfl) (by kernel_rfl) (by kernel_rfl) (by exact fun _ _ _ h => h) (Or.inl ⟨by rfl, ?_⟩) (by assumption) ?_
          rotate_left
          · intro w' hSw; (try dsimp only at hSw); obtain ⟨e0, e1, e2⟩ := hSw
            go_simp; try with_reducible rfl
          try simp only [Act.put, List.setIfInBounds_toArray, List.set_cons_zero, List.set_cons_succ]
          refine wpAnyH_take (i := 8) (v := ?_) (by simp only [List.getElem?_toArray, List.getElem?_cons_succ, List.getElem?_cons_zero]; rfl) (by kernel_rfl) (by kernel_rfl) (by kernel_rfl) (by exact fun _ _ _ h => h) (Or.inl ⟨by rfl, ?_⟩) (by assumption) ?_
          rotate_left
          · intro w' hSw; (try dsimp only at hSw); obtain ⟨e0, e1, e2⟩ := hSw
            go_simp; try with_reducible rfl
          try simp only [Act.put, List.setIfInBounds_toArray, List.set_cons_zero, List.set_cons_succ]
          refine wpAnyH_take (i := 9) (v := ?_) (by simp only [List.getElem?_toArray, List.getElem?_cons_succ, List.getElem?_cons_zero]; rfl) (by kernel_rfl) (by kernel_rfl) (by kernel_rfl) (by exact fun _ _ _ h => h) (Or.inl ⟨by rfl, ?_⟩) (by assumption) ?_
          rotate_left
          · intro w' hSw; (try dsimp only at hSw); obtain ⟨e0, e1, e2⟩ := hSw
            go_simp; try with_reducible rfl
          try simp only [Act.put, List.setIfInBounds_toArray, List.set_cons_zero, List.set_cons_succ]
          refine wpAnyH_take (i := 10) (v := ?_) (by simp only [List.getElem?_toArray, List.getElem?_cons_succ, List.getElem?_cons_zero]; rfl) (by kernel_rfl) (by kernel_rfl) (by kernel_rfl) (by exact fun _ _ _ h => h) (Or.inl ⟨by rfl, ?_⟩) (by assumption) ?_
          rotate_left
          · intro w' hSw; (try dsimp only at hSw); obtain ⟨e0, e1, e2⟩ := hSw
            go_simp; try with_reducible rfl
          try simp only [Act.put, List.setIfInBounds_toArray, List.set_cons_zero, List.set_cons_succ]
          refine wpAnyH_take (i := 11) (v := ?_) (by simp only [List.getElem?_toArray, List.getElem?_cons_succ, List.getElem?_cons_zero]; rfl) (by kernel_rfl) (by kernel_rfl) (by kernel_rfl) (by exact fun _ _ _ h => h) (Or.inl ⟨by rfl, ?_⟩) (by assumption) ?_
          rotate_left
          · intro w' hSw; (try dsimp only at hSw); obtain ⟨e0, e1, e2⟩ := hSw
            go_simp; try with_reducible rfl
          try simp only [Act.put, List.setIfInBounds_toArray, List.set_cons_zero, List.set_cons_succ]
          refine wpAnyH_take (i := 12) (v := ?_) (by simp only [List.getElem?_toArray, List.getElem?_cons_succ, List.getElem?_cons_zero]; rfl) (by kernel_rfl) (by kernel_rfl) (by kernel_rfl) (by exact fun _ _ _ h => h) (Or.inl ⟨by rfl, ?_⟩) (by assumption) ?_
          rotate_left
          · intro w' hSw; (try dsimp only at hSw); obtain ⟨e0, e1, e2⟩ := hSw
            go_simp; try with_reducible rfl
          try simp only [Act.put, List.setIfInBounds_toArray, List.set_cons_zero, List.set_cons_succ]
          refine wpAnyH_take (i := 13) (v := ?_) (by simp only [List.getElem?_toArray, List.getElem?_cons_succ, List.getElem?_cons_zero]; rfl) (by kernel_rfl) (by kernel_rfl) (by kernel_rfl) (by exact fun _ _ _ h => h) (Or.inl ⟨by rfl, ?_⟩) (by assumption) ?_
          rotate_left
          · intro w' hSw; (try dsimp only at hSw); obtain ⟨e0, e1, e2⟩ := hSw
            go_simp; try with_reducible rfl
          try simp only [Act.put, List.setIfInBounds_toArray, List.set_cons_zero, List.set_cons_succ]
          refine wpAnyH_take (i := 14) (v := ?_) (by simp only [List.getElem?_toArray, List.getElem?_cons_succ, List.getElem?_cons_zero]; rfl) (by kernel_rfl) (by kernel_rfl) (by kernel_rfl) (by exact fun _ _ _ h => h) (Or.inl ⟨by rfl, ?_⟩) (by assumption) ?_
          rotate_left
          · intro w' hSw; (try dsimp only at hSw); obtain ⟨e0, e1, e2⟩ := hSw
            go_simp; try with_reducible rfl
          try simp only [Act.put, List.setIfInBounds_toArray, List.set_cons_zero, List.set_cons_succ]
          refine wpAnyH_take (i := 15) (v := ?_) (by simp only [List.getElem?_toArray, List.getElem?_cons_succ, List.getElem?_cons_zero]; rfl) (by kernel_rfl) (by kernel_rfl) (by kernel_rfl) (by exact fun _ _ _ h => h) (Or.inl ⟨by rfl, ?_⟩) (by assumption) ?_
          rotate_left
          · intro w' hSw; (try dsimp only at hSw); obtain ⟨e0, e1, e2⟩ := hSw
            go_simp; try with_reducible rfl
          try simp only [Act.put, List.setIfInBounds_toArray, List.set_cons_zero, List.set_cons_succ]
          refine wpAnyH_ready (rs := [16]) (by kernel_rfl) (by simp) ?_
          refine AllReadyH.cons (by simp only [List.getElem?_toArray, List.getElem?_cons_succ, List.getElem?_cons_zero]; rfl) (fun K hK => ?_) AllReadyH.nil
          go_simp
          go_at_call 70
          refine H4.out.mono ?_
          rintro e w5 ⟨⟨r5, rfl, r50, r51⟩, hp⟩
          have r52 := r51 (by omega)
          have hS5 : w5.cell? ⟨w.heap.size, 1, none⟩ = some (.slice (some ⟨sb, so, none⟩) d.lines.length oc) ∧ w5.cell? ⟨xb, 0, none⟩ = some (.int .i64 (la : Int)) ∧ w5.cell? ⟨sb, so + la * 3 + 1, none⟩ = some (.slice s0 d.lines[la].stops.length s1) := ⟨hp.2.2.cell q1 (by simp; omega), hp.2.2.cell q2 (by simp; omega), hp.2.2.cell q3 (by simp; omega)⟩
          have HC5 := Lib.hid (curPost_trans HC3.out hp)
          obtain ⟨k5, rfl⟩ := Int.eq_ofNat_of_zero_le r50
          have hk5 : k5 < d.lines[la].stops.length := by omega
          have hN5 := HNet.out w5 HC5.out.2.2.size (fun q a1 a2 => HC5.out.2.2.block q a2 (by simp; omega))
          obtain ⟨_, _, s0', s1', _, _, he, -, -, z1', -, hrs, -⟩ := net_line hN5 la hla
          simp at he
          obtain ⟨rfl, rfl⟩ := he
          rw [hS5.2.2] at z1'
          simp at z1'
          obtain ⟨rfl, rfl⟩ := z1'
          obtain ⟨_, _, he, -, -, HSt⟩ := ints_open hrs
          simp at he
          obtain ⟨rfl, rfl⟩ := he
          obtain ⟨tg, tgo, rfl, htl, hcx⟩ := HSt.out k5 hk5
          have hin := HGs.out _ (List.getElem_mem hk5)
          generalize d.lines[la].stops[k5]'hk5 = sv at *
          clear hp r51 hN5 hrs HSt
          have hk5i : (k5 : Int) < (d.lines[la].stops.length : Int) := by omega
          go_wp2_with fail
          refine hK.out _ _ hS5 (fun hH16 => ?_)
          clear hK K
          try simp only [Act.put, List.setIfInBounds_toArray, List.set_cons_zero, List.set_cons_succ]
          refine wpAnyH_take (i := 17) (v := ?_) (by simp only [List.getElem?_toArray, List.getElem?_cons_succ, List.getElem?_cons_zero]; rfl) (by kernel_rfl) (by kernel_rfl) (by kernel_rfl) (by exact fun _ _ _ h => h) (Or.inl ⟨by rfl, ?_⟩) (by assumption) ?_
          rotate_left
          · intro w' hSw; (try dsimp only at hSw); obtain ⟨e0, e1, e2⟩ := hSw
            go_simp; try with_reducible rfl
          try simp only [Act.put, List.setIfInBounds_toArray, List.set_cons_zero, List.set_cons_succ]
          refine wpAnyH_ready (rs := [18]) (by kernel_rfl) (by simp) ?_
          refine AllReadyH.cons (by simp only [List.getElem?_toArray, List.getElem?_cons_succ, List.getElem?_cons_zero]; rfl) (fun K hK => ?_) AllReadyH.nil
          go_simp
          refine hK.out _ _ hS5 (fun hH18 => ?_)
          clear hK K
          try simp only [Act.put, List.setIfInBounds_toArray, List.set_cons_zero, List.set_cons_succ]
          refine wpAnyH_take (i := 19) (v := ?_) (by simp only [List.getElem?_toArray, List.getElem?_cons_succ, List.getElem?_cons_zero]; rfl) (by kernel_rfl) (by kernel_rfl) (by kernel_rfl) (by exact fun _ _ _ h => h) (Or.inl ⟨by rfl, ?_⟩) (by assumption) ?_
          rotate_left
          · intro w' hSw; (try dsimp only at hSw); obtain ⟨e0, e1, e2⟩ := hSw
            go_simp; try with_reducible rfl
          try simp only [Act.put, List.setIfInBounds_toArray, List.set_cons_zero, List.set_cons_succ]
          refine wpAnyH_done (by kernel_rfl) ?_ _
          clear hHeld hH16 hH18 hS5 hcx q1 q2 q3
          go_wp2_with fail
          go_ret
          exact ⟨⟨_, rfl, by omega, by omega⟩, curPost_mono HC5.out (by omega)⟩
        · have HIn := Lib.hid (fun W => l1In_no xl 0 ((d.lines.length : Int) - 1) W hin)
          clear hin
          go_wp2_with fail
          go_at_call 66
          refine (HIn.out _).mono ?_
          rintro e w9 ⟨rfl, rfl⟩
          have H5 := Lib.hid (pick_any b (m + 2 + 2) v ((d.stops.length : Int) + 1) w4 HC4.out.1 HC4.out.2.1 (by omega) (by omega))
          have hsw : IntKind.i64.wrap ((d.stops.length : Int) + 1) = (d.stops.length : Int) + 1 := IntWalk.i64_in _ (by omega)
          go_wp2_with fail
          go_at_call 70
          refine H5.out.mono ?_
          rintro e wp ⟨⟨ra, rfl, ra0, ra1⟩, hp⟩
          have ra2 := ra1 (by omega)
          have HCp := Lib.hid (curPost_trans HC4.out hp)
          have H6 := Lib.hid (pick_any b (m + 2 + 2 + 2) v 12 wp HCp.out.1 HCp.out.2.1 (by omega) (by omega))
          clear hp H5 ra1 HC4
          go_wp2_with fail
          go_at_call 70
          refine H6.out.mono ?_
          rintro e wq ⟨⟨rb, rfl, rb0, rb1⟩, hp⟩
          have rb2 := rb1 (by omega)
          have HCq := Lib.hid (curPost_trans HCp.out hp)
          have htd : rb.tdiv 11 = rb / 11 := Int.tdiv_eq_ediv_of_nonneg rb0
          have hdv : 0 ≤ rb / 11 ∧ rb / 11 ≤ 1 := by omega
          generalize rb / 11 = rc at *
          have hwc : IntKind.i64.wrap rc = rc := IntWalk.i64_in _ (by omega)
          have hwd : IntKind.i64.wrap (ra - rc) = ra - rc := IntWalk.i64_in _ (by omega)
          clear hp H6 HCp rb1
          go_wp2_with fail
          go_ret
          exact ⟨⟨_, rfl, by omega, by omega⟩, curPost_mono HCq.out (by omega)⟩
    · rw [netB_no hg] at HG0
      clear hg hx0
      go_enter Try.func71, Try.ntmps71
      go_wp2_with fail
      rw [← HW0.out]
      go_at_call 101
      refine HG0.out.mono ?_
      rintro e w1 ⟨rfl, hb1⟩
      have HC1 := Lib.hid (curPost_later HV.out hlt HC0.out hb1)
      have c0 := bkeep hb1 c0
      clear hb1 HG0 HN0 HC0
      have H5 := Lib.hid (pick_any b (m) v ((d.stops.length : Int) + 1) w1 HC1.out.1 HC1.out.2.1 (by omega) (by omega))
      have hsw : IntKind.i64.wrap ((d.stops.length : Int) + 1) = (d.stops.length : Int) + 1 := IntWalk.i64_in _ (by omega)
      go_wp2_with fail
      go_at_call 70
      refine H5.out.mono ?_
      rintro e wp ⟨⟨ra, rfl, ra0, ra1⟩, hp⟩
      have ra2 := ra1 (by omega)
      have HCp := Lib.hid (curPost_trans HC1.out hp)
      have H6 := Lib.hid (pick_any b (m + 2) v 12 wp HCp.out.1 HCp.out.2.1 (by omega) (by omega))
      clear hp H5 ra1 HC1
      go_wp2_with fail
      go_at_call 70
      refine H6.out.mono ?_
      rintro e wq ⟨⟨rb, rfl, rb0, rb1⟩, hp⟩
      have rb2 := rb1 (by omega)
      have HCq := Lib.hid (curPost_trans HCp.out hp)
      have htd : rb.tdiv 11 = rb / 11 := Int.tdiv_eq_ediv_of_nonneg rb0
      have hdv : 0 ≤ rb / 11 ∧ rb / 11 ≤ 1 := by omega
      generalize rb / 11 = rc at *
      have hwc : IntKind.i64.wrap rc = rc := IntWalk.i64_in _ (by omega)
      have hwd : IntKind.i64.wrap (ra - rc) = ra - rc := IntWalk.i64_in _ (by omega)
      clear hp H6 HCp rb1
      go_wp2_with fail
      go_ret
      exact ⟨⟨_, rfl, by omega, by omega⟩, curPost_mono HCq.out (by omega)⟩
end Go.Proofs.Ytfgkfdkdjegaiaa
