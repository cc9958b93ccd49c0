import Derived.Test.YtehpeifaknbcnaaSwapI
import Derived.Test.YtehpeifaknbcnaaMk48
namespace Go.Proofs.Ytehpeifaknbcnaa
open Go.RowKit
set_option linter.unusedVariables false
set_option linter.unusedSimpArgs false

theorem run_append_intsB (w : World) (B n : Nat) (v : Value) (xs : List Int) (hown : w.ownsRow B 3 1 v n (ints xs)) (g off cap : Nat) (ys : List Int) (m : Nat) (hm : ys.length = m) (hy : RowAt w (.slice (some ⟨g, off, none⟩) m cap) (ints ys)) (hn : n + m ≤ 1048576) (hB : B ≤ w.heap.size) :
    ∃ v' w', (Builtin.append_ #[80, 80] 80 #[v, .slice (some ⟨g, off, none⟩) m cap]).run Try.prog w = .ok v' w' ∧ w'.ownsRow B 3 1 v' (n + ys.length) (ints (xs ++ ys)) ∧ w.grownBy w' v.ownBlock ∧ (v'.ownBlock = v.ownBlock ∨ v'.ownBlock = some w.heap.size) := by
  subst hm
  obtain ⟨i, hi, hz0, hz1, hz2⟩ := info_parts infoInt
  obtain ⟨v', w', h1, h2, h3, -, h5⟩ := run_append_own_at (P := Try.prog) (w := w) B 80 80 3 i (.int .i64 0) 1 8 Try.underlying80 hi hz0 hz1 hz2 rfl (by decide) v n (ints xs) hown ⟨g, off, none⟩ ys.length cap (ints ys) (by rw [ints_len]; omega)
    (fun j u hu => by
      obtain ⟨_, _, he, _, _, hcell⟩ := hy
      simp [ints_len] at he
      obtain ⟨rfl, rfl⟩ := he
      obtain ⟨b', o', he, hlt, hc'⟩ := hcell j u hu
      simp at he
      obtain ⟨rfl, rfl⟩ := he
      rw [addr_add]; exact hc')
    (fun u hu => by obtain ⟨z, _, rfl⟩ := List.mem_map.1 hu; rfl) (by unfold maxLen; omega) (by omega) hB
  exact ⟨v', w', h1, by unfold ints at *; rw [List.map_append]; exact h2, h3, h5⟩
theorem run_append_grp1 (w : World) (B n : Nat) (v : Value) (vs : List Value) (hown : w.ownsRow B 80 1 v n vs) (g : Nat) (x : Value) (hx : x.oneCell' = true) (hc : ∀ j u, [x][j]? = some u → w.cell? ((⟨g, 0, none⟩ : Addr).add j) = some u) (hn : n + 1 ≤ 1048576) (hB : B ≤ w.heap.size) :
    ∃ v' w', (Builtin.append_ #[26, 26] 26 #[v, .slice (some ⟨g, 0, none⟩) 1 1]).run Try.prog w = .ok v' w' ∧ w'.ownsRow B 80 1 v' (n + 1) (vs ++ [x]) ∧ w.grownBy w' v.ownBlock ∧ (v'.ownBlock = v.ownBlock ∨ v'.ownBlock = some w.heap.size) := by
  obtain ⟨i, hi, hz0, hz1, hz2⟩ := info_parts infoInts
  obtain ⟨v', w', h1, h2, h3, -, h5⟩ := run_append_own_at (P := Try.prog) (w := w) B 26 26 80 i (.slice none 0 0) 1 24 Try.underlying26 hi hz0 hz1 hz2 rfl (by decide) v n vs hown ⟨g, 0, none⟩ 1 1 [x] rfl hc (fun u hu => by simp at hu; subst hu; exact hx) (by unfold maxLen; omega) (by omega) hB
  exact ⟨v', w', h1, h2, h3, h5⟩

set_option maxRecDepth 100000 in
set_option maxHeartbeats 8000000 in
theorem specSwap_any (tv fv bv : Value) (t : TTD) (f : FleetD) (bs : List (List Int)) (a b : Int) (w : World) (hr : TTAt w tv t) (hf : TTFits t) (hsm9 : TTSmall t) (hg : FleetAt w fv f) (hs : GrpsSmall f.dead) (hb : GrpsAt w bv bs) (hbs9 : GrpsSmall bs) :
    Calls Try.prog 43 #[tv, fv, bv, .int .i64 a, .int .i64 b] w fun e w' => GrAns w.heap.size (swA t f bs a b) (swOk t f bs a b) e w' ∧ Below w.heap.size w w' := by
  have HPo := Lib.hid (fun W (h : Below w.heap.size w W) id => l11Place_any bv bs id W (hb.below rfl h) hbs9)
  have HFo := Lib.hid (fun W (h : Below w.heap.size w W) => l11Asked_any tv fv t f W (hr.below rfl h) hf (hg.below rfl h) hs)
  have HKo := Lib.hid (fun W (h : Below w.heap.size w W) hA z xss (h1 : GrpsAt W z xss) (h2 : GrpsSmall xss) => l11Blocks_any tv fv z t f xss W (hr.below rfl h) hsm9 (hg.below rfl h) hA h1 h2)
  have HGr := Lib.hid hb
  have hsz := hbs9.1
  obtain ⟨c0, d0, c1, d1, c2, d2, rfl, -, -⟩ := tt_open hr
  obtain ⟨fa, fc, rfl, -⟩ := fleet_open hg
  obtain ⟨ba, bc, rfl⟩ := IntSS_open hb
  obtain ⟨j0, hj0, hy0, hy1, hy2⟩ := info_parts infoInts
  clear hr hf hg hs hb hsm9
  have HMain := Lib.hid (fun (h : swG t f bs a b = true) => swG_main h)
  have HGd : Hid (swG t f bs a b = (boOk t f bs a && boOk t f bs b && !(boA t f bs a == boA t f bs b))) := rfl
  cases hG : swG t f bs a b
  · have HOk : Hid (swOk t f bs a b = false) := by show _ = _; unfold swOk; rw [hG]; rfl
    have HAn : Hid (swA t f bs a b = []) := by show _ = _; unfold swA; rw [HOk.out]; rfl
    rw [HOk.out, HAn.out]
    have hD := HGd.out
    rw [hG] at hD
    have HPa := Lib.hid (fun W (h : Below w.heap.size w W) => HPo.out W h a)
    have HPb := Lib.hid (fun W (h : Below w.heap.size w W) => HPo.out W h b)
    have HK1 := Lib.hid (fun W (h : Below w.heap.size w W) hA => HKo.out W h hA (.slice ba bs.length bc) bs (HGr.out.below rfl h) hbs9)
    have HF := Lib.hid (fun W (h : Below w.heap.size w W) => HFo.out W h)
    have hways : askedB t f = false ∨ (askedB t f = true ∧ blksB t f bs = false) ∨ (askedB t f = true ∧ blksB t f bs = true ∧ (plF a 0 bs).1 < 0) ∨ (askedB t f = true ∧ blksB t f bs = true ∧ ¬ (plF a 0 bs).1 < 0 ∧ (plF b 0 bs).1 < 0) ∨ (askedB t f = true ∧ blksB t f bs = true ∧ ¬ (plF a 0 bs).1 < 0 ∧ ¬ (plF b 0 bs).1 < 0 ∧ (plF a 0 bs).1 = (plF b 0 bs).1) := by
      cases h1 : askedB t f
      · exact .inl rfl
      · cases h2 : blksB t f bs
        · exact .inr (.inl ⟨rfl, rfl⟩)
        · by_cases h3 : (plF a 0 bs).1 < 0
          · exact .inr (.inr (.inl ⟨rfl, rfl, h3⟩))
          · by_cases h4 : (plF b 0 bs).1 < 0
            · exact .inr (.inr (.inr (.inl ⟨rfl, rfl, h3, h4⟩)))
            · refine .inr (.inr (.inr (.inr ⟨rfl, rfl, h3, h4, ?_⟩)))
              have o1 : boOk t f bs a = true := by unfold boOk; rw [h1, h2, decide_eq_true (by omega)]; rfl
              have o2 : boOk t f bs b = true := by unfold boOk; rw [h1, h2, decide_eq_true (by omega)]; rfl
              have a1 : boA t f bs a = (plF a 0 bs).1 := by unfold boA; rw [if_pos o1]
              have a2 : boA t f bs b = (plF b 0 bs).1 := by unfold boA; rw [if_pos o2]
              rw [o1, o2, a1, a2] at hD
              by_cases e : (plF a 0 bs).1 = (plF b 0 bs).1
              · exact e
              · rw [beq_eq_false_iff_ne.2 e] at hD; cases hD
    have HAs2 : Hid (askedB t f = true → AskedGood t f) := fun h => askedB_iff.1 h
    clear hD HMain HGd HOk HAn hG HPo HFo HKo hbs9
    generalize plF a 0 bs = A at *
    generalize plF b 0 bs = B at *
    obtain ⟨A1, A2⟩ := A
    obtain ⟨B1, B2⟩ := B
    simp only at hways HPa HPb
    have hways2 : ∀ K : Prop, (askedB t f = false → K) → (askedB t f = true → blksB t f bs = false → K) → (askedB t f = true → blksB t f bs = true → A1 < 0 → K) → (askedB t f = true → blksB t f bs = true → ¬ A1 < 0 → B1 < 0 → K) → (askedB t f = true → blksB t f bs = true → ¬ A1 < 0 → ¬ B1 < 0 → A1 = B1 → K) → K := fun K k1 k2 k3 k4 k5 => by
      rcases hways with h | ⟨h1, h2⟩ | ⟨h1, h2, h3⟩ | ⟨h1, h2, h3, h4⟩ | ⟨h1, h2, h3, h4, h5⟩
      · exact k1 h
      · exact k2 h1 h2
      · exact k3 h1 h2 h3
      · exact k4 h1 h2 h3 h4
      · exact k5 h1 h2 h3 h4 h5
    clear hways
    refine hways2 _ (fun h1 => ?_) (fun h1 h2 => ?_) (fun h1 h2 h3 => ?_) (fun h1 h2 h3 h4 => ?_) (fun h1 h2 h3 h4 h5 => ?_)
    all_goals
      clear hways2
      rw [h1] at HF
      try have HAg := Lib.hid (HAs2.out h1)
      try rw [h2] at HK1
      try subst h5
      clear h1 HAs2
      try clear h2
      go_enter Try.func43, Try.ntmps43
      go_wp2_with fail
      go_at_call 83
      refine (HPa.out _ (((Below.refl _ _).alloc (Nat.le_refl _) _).alloc (by simp) _)).mono ?_
      rintro e w1 ⟨rfl, hb1⟩
      have HB1 : Hid (Below w.heap.size w w1) := (((Below.refl _ _).alloc (Nat.le_refl _) _).alloc (by simp) _).trans (hb1.mono (by simp; omega))
      have p0 : w1.cell? ⟨w.heap.size, 0, none⟩ = some (.slice c0 t.net.stops.length d0) := bkeep hb1 (by go_simp)
      have p1 : w1.cell? ⟨w.heap.size, 1, none⟩ = some (.slice c1 t.net.lines.length d1) := bkeep hb1 (by go_simp)
      have p2 : w1.cell? ⟨w.heap.size, 2, none⟩ = some (.slice c2 t.trips.length d2) := bkeep hb1 (by go_simp)
      have q0 : w1.cell? ⟨w.heap.size + 1, 0, none⟩ = some (.slice fa f.dead.length fc) := bkeep hb1 (by go_simp)
      have q1 : w1.cell? ⟨w.heap.size + 1, 1, none⟩ = some (.int .i64 f.turn) := bkeep hb1 (by go_simp)
      clear hb1
      go_wp2_with fail
      go_at_call 83
      refine (HPb.out _ HB1.out).mono ?_
      rintro e w4 ⟨rfl, hb4⟩
      have HB4 : Hid (Below w.heap.size w w4) := HB1.out.trans (hb4.mono HB1.out.size)
      have p0 := bkeep hb4 p0
      have p1 := bkeep hb4 p1
      have p2 := bkeep hb4 p2
      have q0 := bkeep hb4 q0
      have q1 := bkeep hb4 q1
      clear hb4 HB1
      go_wp2_with fail
      go_at_call 58
      refine (HF.out _ HB4.out).mono ?_
      rintro e w5 ⟨rfl, hb5⟩
      have HB5 : Hid (Below w.heap.size w w5) := HB4.out.trans (hb5.mono HB4.out.size)
      have p0 := bkeep hb5 p0
      have p1 := bkeep hb5 p1
      have p2 := bkeep hb5 p2
      have q0 := bkeep hb5 q0
      have q1 := bkeep hb5 q1
      clear hb5 HB4
      go_wp2_with fail
    · go_ret2
      exact ⟨⟨_, rfl, _, GrpsOwn.noneB (lit_grpsB (B := w.heap.size) w5 HB5.out.size)⟩, HB5.out.alloc HB5.out.size _⟩
    all_goals
      go_at_call 66
      refine (HK1.out _ HB5.out HAg.out).mono ?_
      rintro e w2 ⟨rfl, hb2⟩
      have HB2 : Hid (Below w.heap.size w w2) := HB5.out.trans (hb2.mono HB5.out.size)
      clear hb2 HB5
      go_wp2_with fail
      go_ret2
      exact ⟨⟨_, rfl, _, GrpsOwn.noneB (lit_grpsB (B := w.heap.size) w2 HB2.out.size)⟩, HB2.out.alloc HB2.out.size _⟩
  · obtain ⟨⟨hA, hB⟩, i, p, k, q, ⟨e1, e2, e3, e4⟩, ⟨f1, f2⟩, hne, ⟨hil, hpl⟩, hkl, hql⟩ := HMain.out hG
    have hD := HGd.out
    rw [hG] at hD
    have hok : boOk t f bs a = true ∧ boOk t f bs b = true := by
      have h := hD.symm
      simp only [Bool.and_eq_true] at h
      exact ⟨h.1.1, h.1.2⟩
    have hSL : swL t f bs a b = swF bs i p k q := by unfold swL; rw [e1, e2, e3, e4]; simp
    have HOk : Hid (swOk t f bs a b = blksB t f (swF bs i p k q)) := by show _ = _; unfold swOk; rw [hG, hSL]; rfl
    have HAn : Hid (swA t f bs a b = if blksB t f (swF bs i p k q) = true then swF bs i p k q else []) := by show _ = _; unfold swA; rw [HOk.out, hSL]
    rw [HOk.out, HAn.out]
    have HFn := Lib.hid hB.fnd
    have hsm := hB.small hA.1.2.1
    have HSw := Lib.hid (swF_small hB hA.1.2.1 (i := i) (p := p) (k := k) (q := q) hil hkl)
    have HAsk := Lib.hid (askedB_yes hA)
    have HPa := Lib.hid (fun W (h : Below w.heap.size w W) => HPo.out W h a)
    have HPb := Lib.hid (fun W (h : Below w.heap.size w W) => HPo.out W h b)
    rw [f1] at HPa
    rw [f2] at HPb
    simp only at HPa HPb
    have HF := Lib.hid (fun W (h : Below w.heap.size w W) => HFo.out W h)
    rw [HAsk.out] at HF
    have HK1 := Lib.hid (fun W (h : Below w.heap.size w W) => HKo.out W h hA (.slice ba bs.length bc) bs (HGr.out.below rfl h) hbs9)
    rw [blksB_yes hB] at HK1
    have HV2 := Lib.hid (fun W (h : Below w.heap.size w W) z (h1 : GrpsAt W z (swF bs i p k q)) => HKo.out W h hA z _ h1 HSw.out)
    obtain ⟨r, hr⟩ : ∃ r, blksB t f (swF bs i p k q) = r := ⟨_, rfl⟩
    rw [hr] at HV2 ⊢
    obtain ⟨vb, vo, rfl, hRows⟩ := grp_rows HGr.out (by omega)
    obtain ⟨rb9, ro9, rc9, hrc, hrm, hRi⟩ := hRows i hil (by omega)
    obtain ⟨kb9, ko9, kc9, hkc, hkm, hRk⟩ := hRows k hkl (by omega)
    have HRi := Lib.hid hRi
    have HRk := Lib.hid hRk
    have HRows := Lib.hid hRows
    have hli := hsm.2 i hil
    have hlk := hsm.2 k hkl
    have hbl := hsm.1
    have HLm := Lib.hid hsm.2
    clear hRi hRk hRows hSL hok hD e1 e2 e3 e4 f1 f2 HMain HGd hG HOk HAn hA hB hsm HPo HFo HKo hr hbs9
    have hne1 : ((i : Int) == (k : Int)) = false := by rw [beq_eq_false_iff_ne]; omega
    have hne3 : ¬ i = k := fun e => hne e.symm
    have hne2 := hne
    go_enter Try.func43, Try.ntmps43
    go_wp2_with fail
    go_at_call 83
    refine (HPa.out _ (((Below.refl _ _).alloc (Nat.le_refl _) _).alloc (by simp) _)).mono ?_
    rintro e w1 ⟨rfl, hb1⟩
    have HB1 : Hid (Below w.heap.size w w1) := (((Below.refl _ _).alloc (Nat.le_refl _) _).alloc (by simp) _).trans (hb1.mono (by simp; omega))
    have p0 : w1.cell? ⟨w.heap.size, 0, none⟩ = some (.slice c0 t.net.stops.length d0) := bkeep hb1 (by go_simp)
    have p1 : w1.cell? ⟨w.heap.size, 1, none⟩ = some (.slice c1 t.net.lines.length d1) := bkeep hb1 (by go_simp)
    have p2 : w1.cell? ⟨w.heap.size, 2, none⟩ = some (.slice c2 t.trips.length d2) := bkeep hb1 (by go_simp)
    have q0 : w1.cell? ⟨w.heap.size + 1, 0, none⟩ = some (.slice fa f.dead.length fc) := bkeep hb1 (by go_simp)
    have q1 : w1.cell? ⟨w.heap.size + 1, 1, none⟩ = some (.int .i64 f.turn) := bkeep hb1 (by go_simp)
    have hz1 : w.heap.size + 2 ≤ w1.heap.size := by have := hb1.size; simp at this; omega
    clear hb1
    go_wp2_with fail
    go_at_call 83
    refine (HPb.out _ HB1.out).mono ?_
    rintro e w4 ⟨rfl, hb4⟩
    have HB4 : Hid (Below w.heap.size w w4) := HB1.out.trans (hb4.mono HB1.out.size)
    have hz4 : w.heap.size + 2 ≤ w4.heap.size := Nat.le_trans hz1 hb4.size
    have p0 := bkeep hb4 p0
    have p1 := bkeep hb4 p1
    have p2 := bkeep hb4 p2
    have q0 := bkeep hb4 q0
    have q1 := bkeep hb4 q1
    clear hb4 HB1 hz1
    go_wp2_with fail
    go_at_call 58
    refine (HF.out _ HB4.out).mono ?_
    rintro e w5 ⟨rfl, hb5⟩
    have HB5 : Hid (Below w.heap.size w w5) := HB4.out.trans (hb5.mono HB4.out.size)
    have hz5 : w.heap.size + 2 ≤ w5.heap.size := Nat.le_trans hz4 hb5.size
    have p0 := bkeep hb5 p0
    have p1 := bkeep hb5 p1
    have p2 := bkeep hb5 p2
    have q0 := bkeep hb5 q0
    have q1 := bkeep hb5 q1
    clear hb5 HB4 hz4
    go_wp2_with fail
    go_at_call 66
    refine (HK1.out _ HB5.out).mono ?_
    rintro e w2 ⟨rfl, hb2⟩
    have HB2 : Hid (Below w.heap.size w w2) := HB5.out.trans (hb2.mono HB5.out.size)
    have hz2 : w.heap.size + 2 ≤ w2.heap.size := Nat.le_trans hz5 hb2.size
    have P0 := acell (bkeep hb2 p0) (.cells #[] 80)
    have P1 := acell (bkeep hb2 p1) (.cells #[] 80)
    have P2 := acell (bkeep hb2 p2) (.cells #[] 80)
    have Q0 := acell (bkeep hb2 q0) (.cells #[] 80)
    have Q1 := acell (bkeep hb2 q1) (.cells #[] 80)
    have HGo := Lib.hid (GrpsOwn.noneB (lit_grpsB (B := w.heap.size + 2) w2 hz2))
    clear hb2 HB5 p0 p1 p2 q0 q1 hz5
    go_wp2_with fail
    go_loopw [16, 17] (fun sv qv wr => ∃ (m sc : Nat) (sa : Option Addr) (vs : List Value), m ≤ bs.length ∧ qv = .int .i64 m ∧ sv = .slice sa m sc ∧ Hid (GrpsOwn (w.heap.size + 2) wr.heap.size wr (.slice sa m sc) vs ((swF bs i p k q).take m)) ∧ wr.cell? ⟨w.heap.size, 0, none⟩ = some (.slice c0 t.net.stops.length d0) ∧ wr.cell? ⟨w.heap.size, 1, none⟩ = some (.slice c1 t.net.lines.length d1) ∧ wr.cell? ⟨w.heap.size, 2, none⟩ = some (.slice c2 t.trips.length d2) ∧ wr.cell? ⟨w.heap.size + 1, 0, none⟩ = some (.slice fa f.dead.length fc) ∧ wr.cell? ⟨w.heap.size + 1, 1, none⟩ = some (.int .i64 f.turn) ∧ Hid (Below w.heap.size w wr ∧ w.heap.size + 2 ≤ wr.heap.size))
      (fun _ qv _ => bs.length - (RowKit.intOf qv).toNat)
    case atStart => exact ⟨0, 0, _, [], Nat.zero_le _, rfl, rfl, HGo.out, P0, P1, P2, Q0, Q1, HB2.out.alloc (by omega) _, by simp; omega⟩
    case round =>
      clear P0 P1 P2 Q0 Q1 HGo HB2 hz2
      obtain ⟨m, sc, sa, vs, hm, rfl, rfl, HG0, p0, p1, p2, q0, q1, HB⟩ := hrel
      have hzB := HB.out.2
      by_cases hlt : m < bs.length
      · have hml : ((swF bs i p k q).take m).length = m := by rw [List.length_take, swF_len]; omega
        have hm1 : (m : Int) < (bs.length : Int) := by omega
        have hi1 : (i : Int) < (bs.length : Int) := by omega
        have hk1 : (k : Int) < (bs.length : Int) := by omega
        by_cases hmi : m = i
        · subst hmi
          have yR := (HRi.out _ HB.out.1).1
          have yO := (HRk.out _ HB.out.1).1
          have hvbw : vb < w.heap.size := World.block_lt_of_cell? _ _ (HRi.out w (Below.refl _ _)).1
          have hpr : p + 1 ≤ rc9 := by omega
          have hpr1 : ((p : Nat) : Int) + 1 ≤ ((rc9 : Nat) : Int) := by omega
          have hpr0 : (0 : Int) ≤ ((p : Nat) : Int) + 1 := by omega
          have hptn : (((p : Nat) : Int) + 1).toNat = p + 1 := by omega
          have hqtn : (((q : Nat) : Int) + 1).toNat = q + 1 := by omega
          have hqr0 : (0 : Int) ≤ ((q : Nat) : Int) + 1 := by omega
          have hqr1 : ((q : Nat) : Int) + 1 ≤ ((bs[k].length : Nat) : Int) := by omega
          have hqr : q + 1 ≤ bs[k].length := by omega
          have hok1 : ((k : Nat) : Int) < (bs.length : Int) := by omega
          have hwp : IntKind.i64.wrap (((p : Nat) : Int) + 1) = ((p : Nat) : Int) + 1 := IntWalk.i64_in _ (by omega)
          have hwq : IntKind.i64.wrap (((q : Nat) : Int) + 1) = ((q : Nat) : Int) + 1 := IntWalk.i64_in _ (by omega)
          have hlx : (bs[m].take (p + 1)).length = p + 1 := by rw [List.length_take]; omega
          have hly : (bs[k].drop (q + 1)).length = bs[k].length - (q + 1) := by rw [List.length_drop]
          have hO2 := o2_eq kb9 kc9 (q + 1) ko9
          have HRO : Hid (∀ W, Below w.heap.size w W → RowAt W (.slice (some ⟨kb9, o2F kc9 (q + 1) ko9, none⟩) (bs[k].length - (q + 1)) (kc9 - (q + 1))) (ints (bs[k].drop (q + 1)))) := fun W hW => rowDropO (k := q + 1) (HRk.out W hW).2 (by omega)
          generalize o2F kc9 (q + 1) ko9 = O2 at *
          have HOc : Hid (∀ W, Below w.heap.size w W → Calls Try.prog 86 #[.slice (some ⟨rb9, ro9, none⟩) (p + 1) rc9] W fun e w' => ∃ g c, e = .returned (.slice (some ⟨g, 0, none⟩) (p + 1) c) ∧ w'.ownsRow W.heap.size 3 1 (.slice (some ⟨g, 0, none⟩) (p + 1) c) (p + 1) (ints (bs[m].take (p + 1))) ∧ Below W.heap.size W w') := fun W hW => by
            have r1 := rowTakeB (k := p + 1) (HRi.out W hW).2 (by omega)
            have h := l1Own_any _ (bs[m].take (p + 1)) W r1 (by rw [hlx]; omega) (by rw [hlx]; omega)
            rw [hlx] at h
            exact h
          have HLx := Lib.hid hlx
          have HLy := Lib.hid hly
          clear hlx hly
          go_upto_region 12 with fail
          refine wp_region_held_drew (S := (fun w' => w'.cell? ⟨w.heap.size, 0, none⟩ = some (.slice c0 t.net.stops.length d0) ∧ w'.cell? ⟨w.heap.size, 1, none⟩ = some (.slice c1 t.net.lines.length d1) ∧ w'.cell? ⟨w.heap.size, 2, none⟩ = some (.slice c2 t.trips.length d2) ∧ w'.cell? ⟨w.heap.size + 1, 0, none⟩ = some (.slice fa f.dead.length fc) ∧ w'.cell? ⟨w.heap.size + 1, 1, none⟩ = some (.int .i64 f.turn) ∧ w'.cell? ⟨vb, vo + m, none⟩ = some (.slice (some ⟨rb9, ro9, none⟩) bs[m].length rc9) ∧ w'.cell? ⟨vb, vo + k, none⟩ = some (.slice (some ⟨kb9, ko9, none⟩) bs[k].length kc9))) (by kernel_rfl) ?_ (fun hHeld => ?_)
          · exact ⟨p0, p1, p2, q0, q1, yR, yO⟩
          refine wpAnyH_take (i := 0) (v := ?_) (by simp only [List.getElem?_toArray, List.getElem?_cons_zero]; rfl) (by kernel_rfl) (by kernel_rfl) (by kernel_rfl) (by exact fun _ _ _ h => h) (Or.inl ⟨by rfl, ?_⟩) (by assumption) ?_
          rotate_left
          · intro w' hSw; obtain ⟨e0, e1, e2, e3, e4, e5, e6⟩ := hSw
            go_simp; try with_reducible rfl
          try simp only [Act.put, List.setIfInBounds_toArray, List.set_cons_zero, List.set_cons_succ]
          refine wpAnyH_take (i := 1) (v := ?_) (by simp only [List.getElem?_toArray, List.getElem?_cons_succ, List.getElem?_cons_zero]; rfl) (by kernel_rfl) (by kernel_rfl) (by kernel_rfl) (by exact fun _ _ _ h => h) (Or.inl ⟨by rfl, ?_⟩) (by assumption) ?_
          rotate_left
          · intro w' hSw; obtain ⟨e0, e1, e2, e3, e4, e5, e6⟩ := hSw
            go_simp; try with_reducible rfl
          try simp only [Act.put, List.setIfInBounds_toArray, List.set_cons_zero, List.set_cons_succ]
          refine wpAnyH_take (i := 2) (v := ?_) (by simp only [List.getElem?_toArray, List.getElem?_cons_succ, List.getElem?_cons_zero]; rfl) (by kernel_rfl) (by kernel_rfl) (by kernel_rfl) (by exact fun _ _ _ h => h) (Or.inl ⟨by rfl, ?_⟩) (by assumption) ?_
          rotate_left
          · intro w' hSw; obtain ⟨e0, e1, e2, e3, e4, e5, e6⟩ := hSw
            go_simp; try with_reducible rfl
          try simp only [Act.put, List.setIfInBounds_toArray, List.set_cons_zero, List.set_cons_succ]
          refine wpAnyH_take (i := 3) (v := ?_) (by simp only [List.getElem?_toArray, List.getElem?_cons_succ, List.getElem?_cons_zero]; rfl) (by kernel_rfl) (by kernel_rfl) (by kernel_rfl) (by exact fun _ _ _ h => h) (Or.inl ⟨by rfl, ?_⟩) (by assumption) ?_
          rotate_left
          · intro w' hSw; obtain ⟨e0, e1, e2, e3, e4, e5, e6⟩ := hSw
            go_simp; try with_reducible rfl
          try simp only [Act.put, List.setIfInBounds_toArray, List.set_cons_zero, List.set_cons_succ]
          refine wpAnyH_take (i := 4) (v := ?_) (by simp only [List.getElem?_toArray, List.getElem?_cons_succ, List.getElem?_cons_zero]; rfl) (by kernel_rfl) (by kernel_rfl) (by kernel_rfl) (by exact fun _ _ _ h => h) (Or.inl ⟨by rfl, ?_⟩) (by assumption) ?_
          rotate_left
          · intro w' hSw; obtain ⟨e0, e1, e2, e3, e4, e5, e6⟩ := hSw
            go_simp; try with_reducible rfl
          try simp only [Act.put, List.setIfInBounds_toArray, List.set_cons_zero, List.set_cons_succ]
          refine wpAnyH_take (i := 5) (v := ?_) (by simp only [List.getElem?_toArray, List.getElem?_cons_succ, List.getElem?_cons_zero]; rfl) (by kernel_rfl) (by kernel_rfl) (by kernel_rfl) (by exact fun _ _ _ h => h) (Or.inl ⟨by rfl, ?_⟩) (by assumption) ?_
          rotate_left
          · intro w' hSw; obtain ⟨e0, e1, e2, e3, e4, e5, e6⟩ := hSw
            go_simp; try with_reducible rfl
          try simp only [Act.put, List.setIfInBounds_toArray, List.set_cons_zero, List.set_cons_succ]
          refine wpAnyH_take (i := 6) (v := ?_) (by simp only [List.getElem?_toArray, List.getElem?_cons_succ, List.getElem?_cons_zero]; rfl) (by kernel_rfl) (by kernel_rfl) (by kernel_rfl) (by exact fun _ _ _ h => h) (Or.inl ⟨by rfl, ?_⟩) (by assumption) ?_
          rotate_left
          · intro w' hSw; obtain ⟨e0, e1, e2, e3, e4, e5, e6⟩ := hSw
            go_simp; try with_reducible rfl
          try simp only [Act.put, List.setIfInBounds_toArray, List.set_cons_zero, List.set_cons_succ]
          refine wpAnyH_take (i := 7) (v := ?_) (by simp only [List.getElem?_toArray, List.getElem?_cons_succ, List.getElem?_cons_zero]; rfl) (by kernel_rfl) (by kernel_rfl) (by kernel_rfl) (by exact fun _ _ _ h => h) (Or.inl ⟨by rfl, ?_⟩) (by assumption) ?_
          rotate_left
          · intro w' hSw; obtain ⟨e0, e1, e2, e3, e4, e5, e6⟩ := hSw
            go_simp; try with_reducible rfl
          try simp only [Act.put, List.setIfInBounds_toArray, List.set_cons_zero, List.set_cons_succ]
          refine wpAnyH_take (i := 9) (v := ?_) (by simp only [List.getElem?_toArray, List.getElem?_cons_succ, List.getElem?_cons_zero]; rfl) (by kernel_rfl) (by kernel_rfl) (by kernel_rfl) (by exact fun _ _ _ h => h) (Or.inl ⟨by rfl, ?_⟩) (by assumption) ?_
          rotate_left
          · intro w' hSw; obtain ⟨e0, e1, e2, e3, e4, e5, e6⟩ := hSw
            go_simp; try with_reducible rfl
          try simp only [Act.put, List.setIfInBounds_toArray, List.set_cons_zero, List.set_cons_succ]
          refine wpAnyH_take (i := 10) (v := ?_) (by simp only [List.getElem?_toArray, List.getElem?_cons_succ, List.getElem?_cons_zero]; rfl) (by kernel_rfl) (by kernel_rfl) (by kernel_rfl) (by exact fun _ _ _ h => h) (Or.inl ⟨by rfl, ?_⟩) (by assumption) ?_
          rotate_left
          · intro w' hSw; obtain ⟨e0, e1, e2, e3, e4, e5, e6⟩ := hSw
            go_simp; try with_reducible rfl
          try simp only [Act.put, List.setIfInBounds_toArray, List.set_cons_zero, List.set_cons_succ]
          refine wpAnyH_take (i := 11) (v := ?_) (by simp only [List.getElem?_toArray, List.getElem?_cons_succ, List.getElem?_cons_zero]; rfl) (by kernel_rfl) (by kernel_rfl) (by kernel_rfl) (by exact fun _ _ _ h => h) (Or.inl ⟨by rfl, ?_⟩) (by assumption) ?_
          rotate_left
          · intro w' hSw; obtain ⟨e0, e1, e2, e3, e4, e5, e6⟩ := hSw
            go_simp; try with_reducible rfl
          try simp only [Act.put, List.setIfInBounds_toArray, List.set_cons_zero, List.set_cons_succ]
          refine wpAnyH_take (i := 12) (v := ?_) (by simp only [List.getElem?_toArray, List.getElem?_cons_succ, List.getElem?_cons_zero]; rfl) (by kernel_rfl) (by kernel_rfl) (by kernel_rfl) (by exact fun _ _ _ h => h) (Or.inl ⟨by rfl, ?_⟩) (by assumption) ?_
          rotate_left
          · intro w' hSw; obtain ⟨e0, e1, e2, e3, e4, e5, e6⟩ := hSw
            go_simp; try with_reducible rfl
          try simp only [Act.put, List.setIfInBounds_toArray, List.set_cons_zero, List.set_cons_succ]
          refine wpAnyH_take (i := 13) (v := ?_) (by simp only [List.getElem?_toArray, List.getElem?_cons_succ, List.getElem?_cons_zero]; rfl) (by kernel_rfl) (by kernel_rfl) (by kernel_rfl) (by exact fun _ _ _ h => h) (Or.inl ⟨by rfl, ?_⟩) (by assumption) ?_
          rotate_left
          · intro w' hSw; obtain ⟨e0, e1, e2, e3, e4, e5, e6⟩ := hSw
            go_simp; try with_reducible rfl
          try simp only [Act.put, List.setIfInBounds_toArray, List.set_cons_zero, List.set_cons_succ]
          refine wpAnyH_take (i := 14) (v := ?_) (by simp only [List.getElem?_toArray, List.getElem?_cons_succ, List.getElem?_cons_zero]; rfl) (by kernel_rfl) (by kernel_rfl) (by kernel_rfl) (by exact fun _ _ _ h => h) (Or.inl ⟨by rfl, ?_⟩) (by assumption) ?_
          rotate_left
          · intro w' hSw; obtain ⟨e0, e1, e2, e3, e4, e5, e6⟩ := hSw
            go_simp; try with_reducible rfl
          try simp only [Act.put, List.setIfInBounds_toArray, List.set_cons_zero, List.set_cons_succ]
          refine wpAnyH_take (i := 15) (v := ?_) (by simp only [List.getElem?_toArray, List.getElem?_cons_succ, List.getElem?_cons_zero]; rfl) (by kernel_rfl) (by kernel_rfl) (by kernel_rfl) (by exact fun _ _ _ h => h) (Or.inl ⟨by rfl, ?_⟩) (by assumption) ?_
          rotate_left
          · intro w' hSw; obtain ⟨e0, e1, e2, e3, e4, e5, e6⟩ := hSw
            go_simp; try with_reducible rfl
          try simp only [Act.put, List.setIfInBounds_toArray, List.set_cons_zero, List.set_cons_succ]
          refine wpAnyH_ready (rs := [8]) (by kernel_rfl) (by simp) ?_
          refine AllReadyH.cons (by simp only [List.getElem?_toArray, List.getElem?_cons_succ, List.getElem?_cons_zero]; rfl) (fun K hK => ?_) AllReadyH.nil
          go_simp
          go_at_call 86
          refine (HOc.out _ HB.out.1.drew).mono ?_
          rintro e wA ⟨ga, ca, rfl, hown, hb⟩
          have rb : Below wr.heap.size wr wA := (Below.refl _ _).drew.trans hb
          have hS2 : wA.cell? ⟨w.heap.size, 0, none⟩ = some (.slice c0 t.net.stops.length d0) ∧ wA.cell? ⟨w.heap.size, 1, none⟩ = some (.slice c1 t.net.lines.length d1) ∧ wA.cell? ⟨w.heap.size, 2, none⟩ = some (.slice c2 t.trips.length d2) ∧ wA.cell? ⟨w.heap.size + 1, 0, none⟩ = some (.slice fa f.dead.length fc) ∧ wA.cell? ⟨w.heap.size + 1, 1, none⟩ = some (.int .i64 f.turn) ∧ wA.cell? ⟨vb, vo + m, none⟩ = some (.slice (some ⟨rb9, ro9, none⟩) bs[m].length rc9) ∧ wA.cell? ⟨vb, vo + k, none⟩ = some (.slice (some ⟨kb9, ko9, none⟩) bs[k].length kc9) := ⟨bkeep rb p0, bkeep rb p1, bkeep rb p2, bkeep rb q0, bkeep rb q1, bkeep rb yR, bkeep rb yO⟩
          have HBA : Hid (Below w.heap.size w wA ∧ w.heap.size + 2 ≤ wA.heap.size) := ⟨HB.out.1.trans (rb.mono HB.out.1.size), Nat.le_trans HB.out.2 rb.size⟩
          have HGA := Lib.hid (HG0.out.inB (u' := wr.heap.size) rb (Nat.le_refl _))
          have HOA : Hid (wA.ownsRow wr.heap.size 3 1 (.slice (some ⟨ga, 0, none⟩) (p + 1) ca) (p + 1) (ints (bs[m].take (p + 1)))) := hown
          have hszA : wr.heap.size ≤ wA.heap.size := rb.size
          clear hown hb rb
          go_wp2_with fail
          refine hK.out _ _ hS2 (fun hH8 => ?_)
          obtain ⟨p0, p1, p2, q0, q1, yR, yO⟩ := hS2
          clear hK K
          try simp only [Act.put, List.setIfInBounds_toArray, List.set_cons_zero, List.set_cons_succ]
          refine wpAnyH_ready (rs := [16]) (by kernel_rfl) (by simp) ?_
          refine AllReadyH.cons (by simp only [List.getElem?_toArray, List.getElem?_cons_succ, List.getElem?_cons_zero]; rfl) (fun K hK => ?_) AllReadyH.nil
          obtain ⟨vR, wR, hrun, hown, hgr, hat⟩ := run_append_intsB wA wr.heap.size (p + 1) (.slice (some ⟨ga, 0, none⟩) (p + 1) ca) (bs[m].take (p + 1)) HOA.out kb9 O2 (kc9 - (q + 1)) (bs[k].drop (q + 1)) (bs[k].length - (q + 1)) HLy.out (HRO.out wA HBA.out.1) (by omega) hszA
          have hgl : ∀ g, (Value.slice (some ⟨ga, 0, none⟩) (p + 1) ca).ownBlock = some g → wr.heap.size ≤ g := fun g hg => (HOA.out.lt g hg).1
          have hbR : Below wr.heap.size wA wR := (Below.refl _ _).grown hgr hszA hgl
          have hzW := HB.out.2
          have hS2 : wR.cell? ⟨w.heap.size, 0, none⟩ = some (.slice c0 t.net.stops.length d0) ∧ wR.cell? ⟨w.heap.size, 1, none⟩ = some (.slice c1 t.net.lines.length d1) ∧ wR.cell? ⟨w.heap.size, 2, none⟩ = some (.slice c2 t.trips.length d2) ∧ wR.cell? ⟨w.heap.size + 1, 0, none⟩ = some (.slice fa f.dead.length fc) ∧ wR.cell? ⟨w.heap.size + 1, 1, none⟩ = some (.int .i64 f.turn) ∧ wR.cell? ⟨vb, vo + m, none⟩ = some (.slice (some ⟨rb9, ro9, none⟩) bs[m].length rc9) ∧ wR.cell? ⟨vb, vo + k, none⟩ = some (.slice (some ⟨kb9, ko9, none⟩) bs[k].length kc9) := ⟨hgr.cell p0 (fun e => by have := hgl _ e.symm; dsimp only at this; omega), hgr.cell p1 (fun e => by have := hgl _ e.symm; dsimp only at this; omega), hgr.cell p2 (fun e => by have := hgl _ e.symm; dsimp only at this; omega), hgr.cell q0 (fun e => by have := hgl _ e.symm; dsimp only at this; omega), hgr.cell q1 (fun e => by have := hgl _ e.symm; dsimp only at this; omega), hgr.cell yR (fun e => by have := hgl _ e.symm; dsimp only at this; omega), hgr.cell yO (fun e => by have := hgl _ e.symm; dsimp only at this; omega)⟩
          have HBR : Hid (Below w.heap.size w wR ∧ w.heap.size + 2 ≤ wR.heap.size) := ⟨HBA.out.1.trans (hbR.mono (by omega)), Nat.le_trans HBA.out.2 hbR.size⟩
          have HGR : Hid (GrpsOwn (w.heap.size + 2) wr.heap.size wR (.slice sa m sc) vs ((swF bs m p k q).take m)) :=
            ⟨own_block HGA.out.row (fun g hg => hbR.block g (HGA.out.hi g hg)), HGA.out.hi, HGA.out.len, fun i1 a1 b1 => ⟨own_block (HGA.out.each i1 a1 b1).1 (fun g hg => hbR.block g ((HGA.out.each i1 a1 b1).2 g hg)), (HGA.out.each i1 a1 b1).2⟩, HGA.out.out, HGA.out.apart⟩
          have HOR := Lib.hid hown
          have hszR : wr.heap.size ≤ wR.heap.size := Nat.le_trans hszA hgr.size
          refine step_append_run rfl (.tmp 82) (.tmp 89) 80 rfl rfl rfl hrun ?_
          clear hrun hown hgr hgl hbR hat HGA HOA
          obtain ⟨xa, xl, xc, rfl⟩ : ∃ xa xl xc, vR = .slice xa xl xc := by obtain ⟨a, c, h⟩ := own_shape HOR.out; exact ⟨_, _, _, h⟩
          refine hK.out _ _ hS2 (fun hH16 => ?_)
          obtain ⟨p0, p1, p2, q0, q1, yR, yO⟩ := hS2
          clear hK K
          try simp only [Act.put, List.setIfInBounds_toArray, List.set_cons_zero, List.set_cons_succ]
          refine wpAnyH_ready (rs := [17]) (by kernel_rfl) (by simp) ?_
          refine AllReadyH.cons (by simp only [List.getElem?_toArray, List.getElem?_cons_succ, List.getElem?_cons_zero]; rfl) (fun K hK => ?_) AllReadyH.nil
          go_simp
          obtain ⟨wL, hwL⟩ : ∃ wL : World, wL = World.alloc wR (.cells #[.slice xa xl xc] 80) := ⟨_, rfl⟩
          have rb : Below wR.heap.size wR wL := by rw [hwL]; exact (Below.refl _ _).alloc (Nat.le_refl _) _
          have hS2 : wL.cell? ⟨w.heap.size, 0, none⟩ = some (.slice c0 t.net.stops.length d0) ∧ wL.cell? ⟨w.heap.size, 1, none⟩ = some (.slice c1 t.net.lines.length d1) ∧ wL.cell? ⟨w.heap.size, 2, none⟩ = some (.slice c2 t.trips.length d2) ∧ wL.cell? ⟨w.heap.size + 1, 0, none⟩ = some (.slice fa f.dead.length fc) ∧ wL.cell? ⟨w.heap.size + 1, 1, none⟩ = some (.int .i64 f.turn) ∧ wL.cell? ⟨vb, vo + m, none⟩ = some (.slice (some ⟨rb9, ro9, none⟩) bs[m].length rc9) ∧ wL.cell? ⟨vb, vo + k, none⟩ = some (.slice (some ⟨kb9, ko9, none⟩) bs[k].length kc9) := ⟨bkeep rb p0, bkeep rb p1, bkeep rb p2, bkeep rb q0, bkeep rb q1, bkeep rb yR, bkeep rb yO⟩
          have HBL : Hid (Below w.heap.size w wL ∧ w.heap.size + 2 ≤ wL.heap.size) := ⟨HBR.out.1.trans (rb.mono HBR.out.1.size), Nat.le_trans HBR.out.2 rb.size⟩
          have HRL := Lib.hid (own_later HGR.out.row rb)
          have HCL : Hid (∀ j u, [Value.slice xa xl xc][j]? = some u → wL.cell? ((⟨wR.heap.size, 0, none⟩ : Addr).add j) = some u) := by rw [hwL]; exact one_new _ _
          have HBwL : Hid (Below wR.heap.size wR wL) := rb
          rw [← hwL]
          clear rb hwL
          refine hK.out _ _ hS2 (fun hH17 => ?_)
          obtain ⟨p0, p1, p2, q0, q1, yR, yO⟩ := hS2
          clear hK K
          try simp only [Act.put, List.setIfInBounds_toArray, List.set_cons_zero, List.set_cons_succ]
          refine wpAnyH_ready (rs := [18]) (by kernel_rfl) (by simp) ?_
          refine AllReadyH.cons (by simp only [List.getElem?_toArray, List.getElem?_cons_succ, List.getElem?_cons_zero]; rfl) (fun K hK => ?_) AllReadyH.nil
          have hRL := HRL.out
          rw [hml] at hRL
          obtain ⟨v', w3, hrun, hown', hgrow, hat⟩ := run_append_grp1 wL (w.heap.size + 2) m (.slice sa m sc) vs hRL wR.heap.size (.slice xa xl xc) rfl HCL.out (by omega) HBL.out.2
          have hg1 : ∀ g, Value.ownBlock (.slice sa m sc) = some g → w.heap.size + 2 ≤ g ∧ g < wr.heap.size := fun g hg => ⟨(hRL.lt g hg).1, HGR.out.hi g hg⟩
          have HG3 : Hid (GrpsOwn (w.heap.size + 2) w3.heap.size w3 v' (vs ++ [.slice xa xl xc]) ((swF bs m p k q).take (m + 1))) := by
            show GrpsOwn _ _ _ _ _ _
            rw [swF_take hlt, sw_at bs m p k q hil hkl]
            refine GrpsOwn.snocB HGR.out (Nat.le_refl _) (by have := HB.out.2; omega) (show IntsIn wr.heap.size wR.heap.size wR (.slice xa xl xc) ((bs[m].take (p + 1)) ++ (bs[k].drop (q + 1))) from ⟨by rw [List.length_append, HLx.out]; exact HOR.out, fun g hg => (HOR.out.lt g hg).2⟩) (Nat.le_refl _) hszR HBwL.out hgrow ?_ ?_
            · rw [hml]; exact hown'
            · exact hat
          have hzL := HBL.out.2
          have hvb9 := hvbw
          have hS2 : w3.cell? ⟨w.heap.size, 0, none⟩ = some (.slice c0 t.net.stops.length d0) ∧ w3.cell? ⟨w.heap.size, 1, none⟩ = some (.slice c1 t.net.lines.length d1) ∧ w3.cell? ⟨w.heap.size, 2, none⟩ = some (.slice c2 t.trips.length d2) ∧ w3.cell? ⟨w.heap.size + 1, 0, none⟩ = some (.slice fa f.dead.length fc) ∧ w3.cell? ⟨w.heap.size + 1, 1, none⟩ = some (.int .i64 f.turn) ∧ w3.cell? ⟨vb, vo + m, none⟩ = some (.slice (some ⟨rb9, ro9, none⟩) bs[m].length rc9) ∧ w3.cell? ⟨vb, vo + k, none⟩ = some (.slice (some ⟨kb9, ko9, none⟩) bs[k].length kc9) := ⟨hgrow.cell p0 (fun e => by have := (hg1 _ e.symm).1; dsimp only at this; omega), hgrow.cell p1 (fun e => by have := (hg1 _ e.symm).1; dsimp only at this; omega), hgrow.cell p2 (fun e => by have := (hg1 _ e.symm).1; dsimp only at this; omega), hgrow.cell q0 (fun e => by have := (hg1 _ e.symm).1; dsimp only at this; omega), hgrow.cell q1 (fun e => by have := (hg1 _ e.symm).1; dsimp only at this; omega), hgrow.cell yR (fun e => by have := (hg1 _ e.symm).1; dsimp only at this; omega), hgrow.cell yO (fun e => by have := (hg1 _ e.symm).1; dsimp only at this; omega)⟩
          have HB3 : Hid (Below w.heap.size w w3 ∧ w.heap.size + 2 ≤ w3.heap.size) := ⟨HBL.out.1.grown hgrow (by omega) (fun g hg => by have := (hg1 g hg).1; omega), Nat.le_trans HBL.out.2 hgrow.size⟩
          refine step_append_run rfl (.tmp 74) (.tmp 91) 26 rfl rfl rfl hrun ?_
          clear hrun hgrow hg1 hat hRL
          obtain ⟨a6, c6, rfl⟩ := own_shape hown'
          clear hown'
          refine hK.out _ _ hS2 (fun hH18 => ?_)
          obtain ⟨p0, p1, p2, q0, q1, yR, yO⟩ := hS2
          clear hK K
          try simp only [Act.put, List.setIfInBounds_toArray, List.set_cons_zero, List.set_cons_succ]
          refine wpAnyH_take (i := 19) (v := ?_) (by simp only [List.getElem?_toArray, List.getElem?_cons_succ, List.getElem?_cons_zero]; rfl) (by kernel_rfl) (by kernel_rfl) (by kernel_rfl) (by exact fun _ _ _ h => h) (Or.inl ⟨by rfl, ?_⟩) (by assumption) ?_
          rotate_left
          · intro w' hSw; obtain ⟨e0, e1, e2, e3, e4, e5, e6⟩ := hSw
            go_simp; try with_reducible rfl
          try simp only [Act.put, List.setIfInBounds_toArray, List.set_cons_zero, List.set_cons_succ]
          refine wpAnyH_done (by kernel_rfl) ?_ _
          clear yR yO
          go_wp2_with fail
          go_roundw
          case rel => exact ⟨m + 1, c6, a6, _, by omega, by go_num, rfl, HG3, p0, p1, p2, q0, q1, HB3⟩
          case measure => simp [RowKit.intOf]; omega
        · by_cases hmk : m = k
          · subst hmk
            have hmiB : ((m : Int) == (i : Int)) = false := by rw [beq_eq_false_iff_ne]; omega
            have hmiN : ¬ (m : Int) = (i : Int) := by omega
            have yR := (HRk.out _ HB.out.1).1
            have yO := (HRi.out _ HB.out.1).1
            have hvbw : vb < w.heap.size := World.block_lt_of_cell? _ _ (HRi.out w (Below.refl _ _)).1
            have hpr : q + 1 ≤ kc9 := by omega
            have hpr1 : ((q : Nat) : Int) + 1 ≤ ((kc9 : Nat) : Int) := by omega
            have hpr0 : (0 : Int) ≤ ((q : Nat) : Int) + 1 := by omega
            have hptn : (((q : Nat) : Int) + 1).toNat = q + 1 := by omega
            have hqtn : (((p : Nat) : Int) + 1).toNat = p + 1 := by omega
            have hqr0 : (0 : Int) ≤ ((p : Nat) : Int) + 1 := by omega
            have hqr1 : ((p : Nat) : Int) + 1 ≤ ((bs[i].length : Nat) : Int) := by omega
            have hqr : p + 1 ≤ bs[i].length := by omega
            have hok1 : ((i : Nat) : Int) < (bs.length : Int) := by omega
            have hwp : IntKind.i64.wrap (((q : Nat) : Int) + 1) = ((q : Nat) : Int) + 1 := IntWalk.i64_in _ (by omega)
            have hwq : IntKind.i64.wrap (((p : Nat) : Int) + 1) = ((p : Nat) : Int) + 1 := IntWalk.i64_in _ (by omega)
            have hlx : (bs[m].take (q + 1)).length = q + 1 := by rw [List.length_take]; omega
            have hly : (bs[i].drop (p + 1)).length = bs[i].length - (p + 1) := by rw [List.length_drop]
            have hO2 := o2_eq rb9 rc9 (p + 1) ro9
            have HRO : Hid (∀ W, Below w.heap.size w W → RowAt W (.slice (some ⟨rb9, o2F rc9 (p + 1) ro9, none⟩) (bs[i].length - (p + 1)) (rc9 - (p + 1))) (ints (bs[i].drop (p + 1)))) := fun W hW => rowDropO (k := p + 1) (HRi.out W hW).2 (by omega)
            generalize o2F rc9 (p + 1) ro9 = O2 at *
            have HOc : Hid (∀ W, Below w.heap.size w W → Calls Try.prog 86 #[.slice (some ⟨kb9, ko9, none⟩) (q + 1) kc9] W fun e w' => ∃ g c, e = .returned (.slice (some ⟨g, 0, none⟩) (q + 1) c) ∧ w'.ownsRow W.heap.size 3 1 (.slice (some ⟨g, 0, none⟩) (q + 1) c) (q + 1) (ints (bs[m].take (q + 1))) ∧ Below W.heap.size W w') := fun W hW => by
              have r1 := rowTakeB (k := q + 1) (HRk.out W hW).2 (by omega)
              have h := l1Own_any _ (bs[m].take (q + 1)) W r1 (by rw [hlx]; omega) (by rw [hlx]; omega)
              rw [hlx] at h
              exact h
            have HLx := Lib.hid hlx
            have HLy := Lib.hid hly
            clear hlx hly
            go_upto_region 14 with fail
            refine wp_region_held_drew (S := (fun w' => w'.cell? ⟨w.heap.size, 0, none⟩ = some (.slice c0 t.net.stops.length d0) ∧ w'.cell? ⟨w.heap.size, 1, none⟩ = some (.slice c1 t.net.lines.length d1) ∧ w'.cell? ⟨w.heap.size, 2, none⟩ = some (.slice c2 t.trips.length d2) ∧ w'.cell? ⟨w.heap.size + 1, 0, none⟩ = some (.slice fa f.dead.length fc) ∧ w'.cell? ⟨w.heap.size + 1, 1, none⟩ = some (.int .i64 f.turn) ∧ w'.cell? ⟨vb, vo + m, none⟩ = some (.slice (some ⟨kb9, ko9, none⟩) bs[m].length kc9) ∧ w'.cell? ⟨vb, vo + i, none⟩ = some (.slice (some ⟨rb9, ro9, none⟩) bs[i].length rc9))) (by kernel_rfl) ?_ (fun hHeld => ?_)
            · exact ⟨p0, p1, p2, q0, q1, yR, yO⟩
            refine wpAnyH_take (i := 0) (v := ?_) (by simp only [List.getElem?_toArray, List.getElem?_cons_zero]; rfl) (by kernel_rfl) (by kernel_rfl) (by kernel_rfl) (by exact fun _ _ _ h => h) (Or.inl ⟨by rfl, ?_⟩) (by assumption) ?_
            rotate_left
            · intro w' hSw; obtain ⟨e0, e1, e2, e3, e4, e5, e6⟩ := hSw
              go_simp; try with_reducible rfl
            try simp only [Act.put, List.setIfInBounds_toArray, List.set_cons_zero, List.set_cons_succ]
            refine wpAnyH_take (i := 1) (v := ?_) (by simp only [List.getElem?_toArray, List.getElem?_cons_succ, List.getElem?_cons_zero]; rfl) (by kernel_rfl) (by kernel_rfl) (by kernel_rfl) (by exact fun _ _ _ h => h) (Or.inl ⟨by rfl, ?_⟩) (by assumption) ?_
            rotate_left
            · intro w' hSw; obtain ⟨e0, e1, e2, e3, e4, e5, e6⟩ := hSw
              go_simp; try with_reducible rfl
            try simp only [Act.put, List.setIfInBounds_toArray, List.set_cons_zero, List.set_cons_succ]
            refine wpAnyH_take (i := 2) (v := ?_) (by simp only [List.getElem?_toArray, List.getElem?_cons_succ, List.getElem?_cons_zero]; rfl) (by kernel_rfl) (by kernel_rfl) (by kernel_rfl) (by exact fun _ _ _ h => h) (Or.inl ⟨by rfl, ?_⟩) (by assumption) ?_
            rotate_left
            · intro w' hSw; obtain ⟨e0, e1, e2, e3, e4, e5, e6⟩ := hSw
              go_simp; try with_reducible rfl
            try simp only [Act.put, List.setIfInBounds_toArray, List.set_cons_zero, List.set_cons_succ]
            refine wpAnyH_take (i := 3) (v := ?_) (by simp only [List.getElem?_toArray, List.getElem?_cons_succ, List.getElem?_cons_zero]; rfl) (by kernel_rfl) (by kernel_rfl) (by kernel_rfl) (by exact fun _ _ _ h => h) (Or.inl ⟨by rfl, ?_⟩) (by assumption) ?_
            rotate_left
            · intro w' hSw; obtain ⟨e0, e1, e2, e3, e4, e5, e6⟩ := hSw
              go_simp; try with_reducible rfl
            try simp only [Act.put, List.setIfInBounds_toArray, List.set_cons_zero, List.set_cons_succ]
            refine wpAnyH_take (i := 4) (v := ?_) (by simp only [List.getElem?_toArray, List.getElem?_cons_succ, List.getElem?_cons_zero]; rfl) (by kernel_rfl) (by kernel_rfl) (by kernel_rfl) (by exact fun _ _ _ h => h) (Or.inl ⟨by rfl, ?_⟩) (by assumption) ?_
            rotate_left
            · intro w' hSw; obtain ⟨e0, e1, e2, e3, e4, e5, e6⟩ := hSw
              go_simp; try with_reducible rfl
            try simp only [Act.put, List.setIfInBounds_toArray, List.set_cons_zero, List.set_cons_succ]
            refine wpAnyH_take (i := 5) (v := ?_) (by simp only [List.getElem?_toArray, List.getElem?_cons_succ, List.getElem?_cons_zero]; rfl) (by kernel_rfl) (by kernel_rfl) (by kernel_rfl) (by exact fun _ _ _ h => h) (Or.inl ⟨by rfl, ?_⟩) (by assumption) ?_
            rotate_left
            · intro w' hSw; obtain ⟨e0, e1, e2, e3, e4, e5, e6⟩ := hSw
              go_simp; try with_reducible rfl
            try simp only [Act.put, List.setIfInBounds_toArray, List.set_cons_zero, List.set_cons_succ]
            refine wpAnyH_take (i := 6) (v := ?_) (by simp only [List.getElem?_toArray, List.getElem?_cons_succ, List.getElem?_cons_zero]; rfl) (by kernel_rfl) (by kernel_rfl) (by kernel_rfl) (by exact fun _ _ _ h => h) (Or.inl ⟨by rfl, ?_⟩) (by assumption) ?_
            rotate_left
            · intro w' hSw; obtain ⟨e0, e1, e2, e3, e4, e5, e6⟩ := hSw
              go_simp; try with_reducible rfl
            try simp only [Act.put, List.setIfInBounds_toArray, List.set_cons_zero, List.set_cons_succ]
            refine wpAnyH_take (i := 7) (v := ?_) (by simp only [List.getElem?_toArray, List.getElem?_cons_succ, List.getElem?_cons_zero]; rfl) (by kernel_rfl) (by kernel_rfl) (by kernel_rfl) (by exact fun _ _ _ h => h) (Or.inl ⟨by rfl, ?_⟩) (by assumption) ?_
            rotate_left
            · intro w' hSw; obtain ⟨e0, e1, e2, e3, e4, e5, e6⟩ := hSw
              go_simp; try with_reducible rfl
            try simp only [Act.put, List.setIfInBounds_toArray, List.set_cons_zero, List.set_cons_succ]
            refine wpAnyH_take (i := 9) (v := ?_) (by simp only [List.getElem?_toArray, List.getElem?_cons_succ, List.getElem?_cons_zero]; rfl) (by kernel_rfl) (by kernel_rfl) (by kernel_rfl) (by exact fun _ _ _ h => h) (Or.inl ⟨by rfl, ?_⟩) (by assumption) ?_
            rotate_left
            · intro w' hSw; obtain ⟨e0, e1, e2, e3, e4, e5, e6⟩ := hSw
              go_simp; try with_reducible rfl
            try simp only [Act.put, List.setIfInBounds_toArray, List.set_cons_zero, List.set_cons_succ]
            refine wpAnyH_take (i := 10) (v := ?_) (by simp only [List.getElem?_toArray, List.getElem?_cons_succ, List.getElem?_cons_zero]; rfl) (by kernel_rfl) (by kernel_rfl) (by kernel_rfl) (by exact fun _ _ _ h => h) (Or.inl ⟨by rfl, ?_⟩) (by assumption) ?_
            rotate_left
            · intro w' hSw; obtain ⟨e0, e1, e2, e3, e4, e5, e6⟩ := hSw
              go_simp; try with_reducible rfl
            try simp only [Act.put, List.setIfInBounds_toArray, List.set_cons_zero, List.set_cons_succ]
            refine wpAnyH_take (i := 11) (v := ?_) (by simp only [List.getElem?_toArray, List.getElem?_cons_succ, List.getElem?_cons_zero]; rfl) (by kernel_rfl) (by kernel_rfl) (by kernel_rfl) (by exact fun _ _ _ h => h) (Or.inl ⟨by rfl, ?_⟩) (by assumption) ?_
            rotate_left
            · intro w' hSw; obtain ⟨e0, e1, e2, e3, e4, e5, e6⟩ := hSw
              go_simp; try with_reducible rfl
            try simp only [Act.put, List.setIfInBounds_toArray, List.set_cons_zero, List.set_cons_succ]
            refine wpAnyH_take (i := 12) (v := ?_) (by simp only [List.getElem?_toArray, List.getElem?_cons_succ, List.getElem?_cons_zero]; rfl) (by kernel_rfl) (by kernel_rfl) (by kernel_rfl) (by exact fun _ _ _ h => h) (Or.inl ⟨by rfl, ?_⟩) (by assumption) ?_
            rotate_left
            · intro w' hSw; obtain ⟨e0, e1, e2, e3, e4, e5, e6⟩ := hSw
              go_simp; try with_reducible rfl
            try simp only [Act.put, List.setIfInBounds_toArray, List.set_cons_zero, List.set_cons_succ]
            refine wpAnyH_take (i := 13) (v := ?_) (by simp only [List.getElem?_toArray, List.getElem?_cons_succ, List.getElem?_cons_zero]; rfl) (by kernel_rfl) (by kernel_rfl) (by kernel_rfl) (by exact fun _ _ _ h => h) (Or.inl ⟨by rfl, ?_⟩) (by assumption) ?_
            rotate_left
            · intro w' hSw; obtain ⟨e0, e1, e2, e3, e4, e5, e6⟩ := hSw
              go_simp; try with_reducible rfl
            try simp only [Act.put, List.setIfInBounds_toArray, List.set_cons_zero, List.set_cons_succ]
            refine wpAnyH_take (i := 14) (v := ?_) (by simp only [List.getElem?_toArray, List.getElem?_cons_succ, List.getElem?_cons_zero]; rfl) (by kernel_rfl) (by kernel_rfl) (by kernel_rfl) (by exact fun _ _ _ h => h) (Or.inl ⟨by rfl, ?_⟩) (by assumption) ?_
            rotate_left
            · intro w' hSw; obtain ⟨e0, e1, e2, e3, e4, e5, e6⟩ := hSw
              go_simp; try with_reducible rfl
            try simp only [Act.put, List.setIfInBounds_toArray, List.set_cons_zero, List.set_cons_succ]
            refine wpAnyH_take (i := 15) (v := ?_) (by simp only [List.getElem?_toArray, List.getElem?_cons_succ, List.getElem?_cons_zero]; rfl) (by kernel_rfl) (by kernel_rfl) (by kernel_rfl) (by exact fun _ _ _ h => h) (Or.inl ⟨by rfl, ?_⟩) (by assumption) ?_
            rotate_left
            · intro w' hSw; obtain ⟨e0, e1, e2, e3, e4, e5, e6⟩ := hSw
              go_simp; try with_reducible rfl
            try simp only [Act.put, List.setIfInBounds_toArray, List.set_cons_zero, List.set_cons_succ]
            refine wpAnyH_ready (rs := [8]) (by kernel_rfl) (by simp) ?_
            refine AllReadyH.cons (by simp only [List.getElem?_toArray, List.getElem?_cons_succ, List.getElem?_cons_zero]; rfl) (fun K hK => ?_) AllReadyH.nil
            go_simp
            go_at_call 86
            refine (HOc.out _ HB.out.1.drew).mono ?_
            rintro e wA ⟨ga, ca, rfl, hown, hb⟩
            have rb : Below wr.heap.size wr wA := (Below.refl _ _).drew.trans hb
            have hS2 : wA.cell? ⟨w.heap.size, 0, none⟩ = some (.slice c0 t.net.stops.length d0) ∧ wA.cell? ⟨w.heap.size, 1, none⟩ = some (.slice c1 t.net.lines.length d1) ∧ wA.cell? ⟨w.heap.size, 2, none⟩ = some (.slice c2 t.trips.length d2) ∧ wA.cell? ⟨w.heap.size + 1, 0, none⟩ = some (.slice fa f.dead.length fc) ∧ wA.cell? ⟨w.heap.size + 1, 1, none⟩ = some (.int .i64 f.turn) ∧ wA.cell? ⟨vb, vo + m, none⟩ = some (.slice (some ⟨kb9, ko9, none⟩) bs[m].length kc9) ∧ wA.cell? ⟨vb, vo + i, none⟩ = some (.slice (some ⟨rb9, ro9, none⟩) bs[i].length rc9) := ⟨bkeep rb p0, bkeep rb p1, bkeep rb p2, bkeep rb q0, bkeep rb q1, bkeep rb yR, bkeep rb yO⟩
            have HBA : Hid (Below w.heap.size w wA ∧ w.heap.size + 2 ≤ wA.heap.size) := ⟨HB.out.1.trans (rb.mono HB.out.1.size), Nat.le_trans HB.out.2 rb.size⟩
            have HGA := Lib.hid (HG0.out.inB (u' := wr.heap.size) rb (Nat.le_refl _))
            have HOA : Hid (wA.ownsRow wr.heap.size 3 1 (.slice (some ⟨ga, 0, none⟩) (q + 1) ca) (q + 1) (ints (bs[m].take (q + 1)))) := hown
            have hszA : wr.heap.size ≤ wA.heap.size := rb.size
            clear hown hb rb
            go_wp2_with fail
            refine hK.out _ _ hS2 (fun hH8 => ?_)
            obtain ⟨p0, p1, p2, q0, q1, yR, yO⟩ := hS2
            clear hK K
            try simp only [Act.put, List.setIfInBounds_toArray, List.set_cons_zero, List.set_cons_succ]
            refine wpAnyH_ready (rs := [16]) (by kernel_rfl) (by simp) ?_
            refine AllReadyH.cons (by simp only [List.getElem?_toArray, List.getElem?_cons_succ, List.getElem?_cons_zero]; rfl) (fun K hK => ?_) AllReadyH.nil
            obtain ⟨vR, wR, hrun, hown, hgr, hat⟩ := run_append_intsB wA wr.heap.size (q + 1) (.slice (some ⟨ga, 0, none⟩) (q + 1) ca) (bs[m].take (q + 1)) HOA.out rb9 O2 (rc9 - (p + 1)) (bs[i].drop (p + 1)) (bs[i].length - (p + 1)) HLy.out (HRO.out wA HBA.out.1) (by omega) hszA
            have hgl : ∀ g, (Value.slice (some ⟨ga, 0, none⟩) (q + 1) ca).ownBlock = some g → wr.heap.size ≤ g := fun g hg => (HOA.out.lt g hg).1
            have hbR : Below wr.heap.size wA wR := (Below.refl _ _).grown hgr hszA hgl
            have hzW := HB.out.2
            have hS2 : wR.cell? ⟨w.heap.size, 0, none⟩ = some (.slice c0 t.net.stops.length d0) ∧ wR.cell? ⟨w.heap.size, 1, none⟩ = some (.slice c1 t.net.lines.length d1) ∧ wR.cell? ⟨w.heap.size, 2, none⟩ = some (.slice c2 t.trips.length d2) ∧ wR.cell? ⟨w.heap.size + 1, 0, none⟩ = some (.slice fa f.dead.length fc) ∧ wR.cell? ⟨w.heap.size + 1, 1, none⟩ = some (.int .i64 f.turn) ∧ wR.cell? ⟨vb, vo + m, none⟩ = some (.slice (some ⟨kb9, ko9, none⟩) bs[m].length kc9) ∧ wR.cell? ⟨vb, vo + i, none⟩ = some (.slice (some ⟨rb9, ro9, none⟩) bs[i].length rc9) := ⟨hgr.cell p0 (fun e => by have := hgl _ e.symm; dsimp only at this; omega), hgr.cell p1 (fun e => by have := hgl _ e.symm; dsimp only at this; omega), hgr.cell p2 (fun e => by have := hgl _ e.symm; dsimp only at this; omega), hgr.cell q0 (fun e => by have := hgl _ e.symm; dsimp only at this; omega), hgr.cell q1 (fun e => by have := hgl _ e.symm; dsimp only at this; omega), hgr.cell yR (fun e => by have := hgl _ e.symm; dsimp only at this; omega), hgr.cell yO (fun e => by have := hgl _ e.symm; dsimp only at this; omega)⟩
            have HBR : Hid (Below w.heap.size w wR ∧ w.heap.size + 2 ≤ wR.heap.size) := ⟨HBA.out.1.trans (hbR.mono (by omega)), Nat.le_trans HBA.out.2 hbR.size⟩
            have HGR : Hid (GrpsOwn (w.heap.size + 2) wr.heap.size wR (.slice sa m sc) vs ((swF bs i p m q).take m)) :=
              ⟨own_block HGA.out.row (fun g hg => hbR.block g (HGA.out.hi g hg)), HGA.out.hi, HGA.out.len, fun i1 a1 b1 => ⟨own_block (HGA.out.each i1 a1 b1).1 (fun g hg => hbR.block g ((HGA.out.each i1 a1 b1).2 g hg)), (HGA.out.each i1 a1 b1).2⟩, HGA.out.out, HGA.out.apart⟩
            have HOR := Lib.hid hown
            have hszR : wr.heap.size ≤ wR.heap.size := Nat.le_trans hszA hgr.size
            refine step_append_run rfl (.tmp 104) (.tmp 111) 80 rfl rfl rfl hrun ?_
            clear hrun hown hgr hgl hbR hat HGA HOA
            obtain ⟨xa, xl, xc, rfl⟩ : ∃ xa xl xc, vR = .slice xa xl xc := by obtain ⟨a, c, h⟩ := own_shape HOR.out; exact ⟨_, _, _, h⟩
            refine hK.out _ _ hS2 (fun hH16 => ?_)
            obtain ⟨p0, p1, p2, q0, q1, yR, yO⟩ := hS2
            clear hK K
            try simp only [Act.put, List.setIfInBounds_toArray, List.set_cons_zero, List.set_cons_succ]
            refine wpAnyH_ready (rs := [17]) (by kernel_rfl) (by simp) ?_
            refine AllReadyH.cons (by simp only [List.getElem?_toArray, List.getElem?_cons_succ, List.getElem?_cons_zero]; rfl) (fun K hK => ?_) AllReadyH.nil
            go_simp
            obtain ⟨wL, hwL⟩ : ∃ wL : World, wL = World.alloc wR (.cells #[.slice xa xl xc] 80) := ⟨_, rfl⟩
            have rb : Below wR.heap.size wR wL := by rw [hwL]; exact (Below.refl _ _).alloc (Nat.le_refl _) _
            have hS2 : wL.cell? ⟨w.heap.size, 0, none⟩ = some (.slice c0 t.net.stops.length d0) ∧ wL.cell? ⟨w.heap.size, 1, none⟩ = some (.slice c1 t.net.lines.length d1) ∧ wL.cell? ⟨w.heap.size, 2, none⟩ = some (.slice c2 t.trips.length d2) ∧ wL.cell? ⟨w.heap.size + 1, 0, none⟩ = some (.slice fa f.dead.length fc) ∧ wL.cell? ⟨w.heap.size + 1, 1, none⟩ = some (.int .i64 f.turn) ∧ wL.cell? ⟨vb, vo + m, none⟩ = some (.slice (some ⟨kb9, ko9, none⟩) bs[m].length kc9) ∧ wL.cell? ⟨vb, vo + i, none⟩ = some (.slice (some ⟨rb9, ro9, none⟩) bs[i].length rc9) := ⟨bkeep rb p0, bkeep rb p1, bkeep rb p2, bkeep rb q0, bkeep rb q1, bkeep rb yR, bkeep rb yO⟩
            have HBL : Hid (Below w.heap.size w wL ∧ w.heap.size + 2 ≤ wL.heap.size) := ⟨HBR.out.1.trans (rb.mono HBR.out.1.size), Nat.le_trans HBR.out.2 rb.size⟩
            have HRL := Lib.hid (own_later HGR.out.row rb)
            have HCL : Hid (∀ j u, [Value.slice xa xl xc][j]? = some u → wL.cell? ((⟨wR.heap.size, 0, none⟩ : Addr).add j) = some u) := by rw [hwL]; exact one_new _ _
            have HBwL : Hid (Below wR.heap.size wR wL) := rb
            rw [← hwL]
            clear rb hwL
            refine hK.out _ _ hS2 (fun hH17 => ?_)
            obtain ⟨p0, p1, p2, q0, q1, yR, yO⟩ := hS2
            clear hK K
            try simp only [Act.put, List.setIfInBounds_toArray, List.set_cons_zero, List.set_cons_succ]
            refine wpAnyH_ready (rs := [18]) (by kernel_rfl) (by simp) ?_
            refine AllReadyH.cons (by simp only [List.getElem?_toArray, List.getElem?_cons_succ, List.getElem?_cons_zero]; rfl) (fun K hK => ?_) AllReadyH.nil
            have hRL := HRL.out
            rw [hml] at hRL
            obtain ⟨v', w3, hrun, hown', hgrow, hat⟩ := run_append_grp1 wL (w.heap.size + 2) m (.slice sa m sc) vs hRL wR.heap.size (.slice xa xl xc) rfl HCL.out (by omega) HBL.out.2
            have hg1 : ∀ g, Value.ownBlock (.slice sa m sc) = some g → w.heap.size + 2 ≤ g ∧ g < wr.heap.size := fun g hg => ⟨(hRL.lt g hg).1, HGR.out.hi g hg⟩
            have HG3 : Hid (GrpsOwn (w.heap.size + 2) w3.heap.size w3 v' (vs ++ [.slice xa xl xc]) ((swF bs i p m q).take (m + 1))) := by
              show GrpsOwn _ _ _ _ _ _
              rw [swF_take hlt, sw_at2 bs i p m q hmi hil hkl]
              refine GrpsOwn.snocB HGR.out (Nat.le_refl _) (by have := HB.out.2; omega) (show IntsIn wr.heap.size wR.heap.size wR (.slice xa xl xc) ((bs[m].take (q + 1)) ++ (bs[i].drop (p + 1))) from ⟨by rw [List.length_append, HLx.out]; exact HOR.out, fun g hg => (HOR.out.lt g hg).2⟩) (Nat.le_refl _) hszR HBwL.out hgrow ?_ ?_
              · rw [hml]; exact hown'
              · exact hat
            have hzL := HBL.out.2
            have hvb9 := hvbw
            have hS2 : w3.cell? ⟨w.heap.size, 0, none⟩ = some (.slice c0 t.net.stops.length d0) ∧ w3.cell? ⟨w.heap.size, 1, none⟩ = some (.slice c1 t.net.lines.length d1) ∧ w3.cell? ⟨w.heap.size, 2, none⟩ = some (.slice c2 t.trips.length d2) ∧ w3.cell? ⟨w.heap.size + 1, 0, none⟩ = some (.slice fa f.dead.length fc) ∧ w3.cell? ⟨w.heap.size + 1, 1, none⟩ = some (.int .i64 f.turn) ∧ w3.cell? ⟨vb, vo + m, none⟩ = some (.slice (some ⟨kb9, ko9, none⟩) bs[m].length kc9) ∧ w3.cell? ⟨vb, vo + i, none⟩ = some (.slice (some ⟨rb9, ro9, none⟩) bs[i].length rc9) := ⟨hgrow.cell p0 (fun e => by have := (hg1 _ e.symm).1; dsimp only at this; omega), hgrow.cell p1 (fun e => by have := (hg1 _ e.symm).1; dsimp only at this; omega), hgrow.cell p2 (fun e => by have := (hg1 _ e.symm).1; dsimp only at this; omega), hgrow.cell q0 (fun e => by have := (hg1 _ e.symm).1; dsimp only at this; omega), hgrow.cell q1 (fun e => by have := (hg1 _ e.symm).1; dsimp only at this; omega), hgrow.cell yR (fun e => by have := (hg1 _ e.symm).1; dsimp only at this; omega), hgrow.cell yO (fun e => by have := (hg1 _ e.symm).1; dsimp only at this; omega)⟩
            have HB3 : Hid (Below w.heap.size w w3 ∧ w.heap.size + 2 ≤ w3.heap.size) := ⟨HBL.out.1.grown hgrow (by omega) (fun g hg => by have := (hg1 g hg).1; omega), Nat.le_trans HBL.out.2 hgrow.size⟩
            refine step_append_run rfl (.tmp 96) (.tmp 113) 26 rfl rfl rfl hrun ?_
            clear hrun hgrow hg1 hat hRL
            obtain ⟨a6, c6, rfl⟩ := own_shape hown'
            clear hown'
            refine hK.out _ _ hS2 (fun hH18 => ?_)
            obtain ⟨p0, p1, p2, q0, q1, yR, yO⟩ := hS2
            clear hK K
            try simp only [Act.put, List.setIfInBounds_toArray, List.set_cons_zero, List.set_cons_succ]
            refine wpAnyH_take (i := 19) (v := ?_) (by simp only [List.getElem?_toArray, List.getElem?_cons_succ, List.getElem?_cons_zero]; rfl) (by kernel_rfl) (by kernel_rfl) (by kernel_rfl) (by exact fun _ _ _ h => h) (Or.inl ⟨by rfl, ?_⟩) (by assumption) ?_
            rotate_left
            · intro w' hSw; obtain ⟨e0, e1, e2, e3, e4, e5, e6⟩ := hSw
              go_simp; try with_reducible rfl
            try simp only [Act.put, List.setIfInBounds_toArray, List.set_cons_zero, List.set_cons_succ]
            refine wpAnyH_done (by kernel_rfl) ?_ _
            clear yR yO
            go_wp2_with fail
            go_roundw
            case rel => exact ⟨m + 1, c6, a6, _, by omega, by go_num, rfl, HG3, p0, p1, p2, q0, q1, HB3⟩
            case measure => simp [RowKit.intOf]; omega
          · have hmiB : ((m : Int) == (i : Int)) = false := by rw [beq_eq_false_iff_ne]; omega
            have hmkB : ((m : Int) == (k : Int)) = false := by rw [beq_eq_false_iff_ne]; omega
            have hmiN : ¬ (m : Int) = (i : Int) := by omega
            have hmkN : ¬ (m : Int) = (k : Int) := by omega
            have hmpos := (HFn.out m hlt).1
            obtain ⟨rb, ro, rc, hrcm, hrmm, hRm⟩ := HRows.out m hlt hmpos
            obtain ⟨y, hrw⟩ := hRm _ HB.out.1
            have hlm := HLm.out m hlt
            have HCl := Lib.hid (l1Own_any _ bs[m] wr hrw hmpos (by omega))
            clear hRm hrw
            go_wp2_with fail
            go_at_call 86
            refine HCl.out.mono ?_
            rintro e wN ⟨gx, cx, rfl, hown, hb⟩
            have p0 := bkeep hb p0
            have p1 := bkeep hb p1
            have p2 := bkeep hb p2
            have q0 := bkeep hb q0
            have q1 := bkeep hb q1
            have HBn : Hid (Below w.heap.size w wN ∧ w.heap.size + 2 ≤ wN.heap.size) := ⟨HB.out.1.trans (hb.mono HB.out.1.size), Nat.le_trans HB.out.2 hb.size⟩
            have HG := Lib.hid (HG0.out.laterB hb)
            have hszn : wr.heap.size ≤ wN.heap.size := hb.size
            obtain ⟨xa, xl, xc, hxx⟩ : ∃ xa xl xc, Value.slice (some ⟨gx, 0, none⟩) bs[m].length cx = .slice xa xl xc := ⟨_, _, _, rfl⟩
            rw [hxx] at hown ⊢
            clear hxx
            have HX : Hid (IntsIn wr.heap.size wN.heap.size wN (.slice xa xl xc) bs[m]) := ⟨hown, fun g hg => (hown.lt g hg).2⟩
            clear hown hb y
            have hzn := HBn.out.2
            have hG := HG.out.row
            rw [hml] at hG
            have HRw := Lib.hid hG
            clear hG
            go_wp2_with (at_builtin; refine wpList_append_own_at _ rfl _ _ 26 rfl (w.heap.size + 2) 80 j0 (.slice none 0 0) 1 24 Try.underlying26 hj0 hy0 hy1 hy2 rfl (by decide) _ m _ rfl (HRw.out.alloc _) ⟨wN.heap.size, 0, none⟩ 1 1 [.slice xa xl xc] rfl rfl ?c1 ?c2 ?c3 ?c4 ?c5 ?_)
            case c1 => exact one_new _ _
            case c2 => intro u hu; simp at hu; subst hu; rfl
            case c3 => unfold maxLen; omega
            case c4 => omega
            case c5 => simp; omega
            intro v' w3 hown' hgrow _ hat
            have HG3 : Hid (GrpsOwn (w.heap.size + 2) w3.heap.size w3 v' (vs ++ [.slice xa xl xc]) ((swF bs i p k q).take (m + 1))) := by
              show GrpsOwn _ _ _ _ _ _
              rw [swF_take hlt, sw_other bs i p k q m hmi hmk hlt]
              refine GrpsOwn.snocB HG.out (Nat.le_refl _) (by omega) HX.out (Nat.le_refl _) hszn ((Below.refl _ _).alloc (Nat.le_refl _) _) hgrow ?_ ?_
              · rw [hml]; exact hown'
              · simpa using hat
            have hg1 : ∀ g, Value.ownBlock (.slice sa m sc) = some g → w.heap.size + 2 ≤ g := fun g hg => (HRw.out.lt g hg).1
            have p0 : w3.cell? ⟨w.heap.size, 0, none⟩ = some (.slice c0 t.net.stops.length d0) := hgrow.cell (acell p0 _) (fun e => by have := hg1 _ e.symm; dsimp only at this; omega)
            have p1 : w3.cell? ⟨w.heap.size, 1, none⟩ = some (.slice c1 t.net.lines.length d1) := hgrow.cell (acell p1 _) (fun e => by have := hg1 _ e.symm; dsimp only at this; omega)
            have p2 : w3.cell? ⟨w.heap.size, 2, none⟩ = some (.slice c2 t.trips.length d2) := hgrow.cell (acell p2 _) (fun e => by have := hg1 _ e.symm; dsimp only at this; omega)
            have q0 : w3.cell? ⟨w.heap.size + 1, 0, none⟩ = some (.slice fa f.dead.length fc) := hgrow.cell (acell q0 _) (fun e => by have := hg1 _ e.symm; dsimp only at this; omega)
            have q1 : w3.cell? ⟨w.heap.size + 1, 1, none⟩ = some (.int .i64 f.turn) := hgrow.cell (acell q1 _) (fun e => by have := hg1 _ e.symm; dsimp only at this; omega)
            have HB3 : Hid (Below w.heap.size w w3 ∧ w.heap.size + 2 ≤ w3.heap.size) := ⟨(HBn.out.1.alloc (by omega) _).grown hgrow (by simp; omega) (fun g hg => by have := hg1 g hg; omega), by have := hgrow.size; simp at this; omega⟩
            obtain ⟨a6, c6, rfl⟩ := own_shape hown'
            clear hown' hgrow hg1 hat
            go_wp2_with fail
            go_roundw
            case rel => exact ⟨m + 1, c6, a6, _, by omega, by go_num, rfl, HG3, p0, p1, p2, q0, q1, HB3⟩
            case measure => simp [RowKit.intOf]; omega
      · obtain rfl : m = bs.length := by omega
        have hgx := HG0.out
        have hl := swF_len bs i p k q
        rw [List.take_of_length_le (by omega)] at hgx
        have HGX := Lib.hid hgx
        have HVx := Lib.hid (HV2.out _ HB.out.1 _ (GrpsIn.at ⟨_, hgx⟩))
        clear hgx
        cases r
        · go_wp2_with fail
          go_at_call 66
          refine HVx.out.mono ?_
          rintro e w4 ⟨rfl, hb4⟩
          have HB4 : Hid (Below w.heap.size w w4) := HB.out.1.trans (hb4.mono HB.out.1.size)
          clear hb4
          go_wp2_with fail
          go_ret2
          exact ⟨⟨_, rfl, _, GrpsOwn.noneB (lit_grpsB (B := w.heap.size) w4 HB4.out.size)⟩, HB4.out.alloc HB4.out.size _⟩
        · go_wp2_with fail
          go_at_call 66
          refine HVx.out.mono ?_
          rintro e w4 ⟨rfl, hb4⟩
          have HB4 : Hid (Below w.heap.size w w4) := HB.out.1.trans (hb4.mono HB.out.1.size)
          have HG4 := Lib.hid ((HGX.out.inB (u' := w4.heap.size) hb4 hb4.size).baseB (Nat.le_add_right w.heap.size 2))
          clear hb4
          go_wp2_with fail
          go_ret2
          exact ⟨⟨_, rfl, _, HG4.out⟩, HB4.out⟩

theorem bothSwapTails (t : TTD) (hf : TTFits t) (hs : TTSmall t) (f : FleetD) (_hf2 : FleetFits f) (hs2 : FleetSmall f) (bs : List (List Int)) (_hf3 : GrpsFit bs) (hs3 : GrpsSmall bs) (a : Int) (_wa : (Lit.int .i64 a).wf = true) (b : Int) (_wb : (Lit.int .i64 b).wf = true) : ∃ (r0 : List (List Int)) (r1 : Bool), GrpsSmall r0 ∧ ∀ v v' v'' w, TTAt w v t → FleetAt w v' f → GrpsAt w v'' bs →
    (Calls Try.prog 43 #[v, v', v'', .int .i64 a, .int .i64 b] w fun e w' => ∃ z, e = .returned (.tuple #[z, .bool r1]) ∧ GrpsIn w.heap.size w'.heap.size w' z r0 ∧ Below w.heap.size w w') ∧ Calls Try.prog 44 #[v, v', v'', .int .i64 a, .int .i64 b] w fun e w' => ∃ z, e = .returned (.tuple #[z, .bool r1]) ∧ GrpsIn w.heap.size w'.heap.size w' z r0 ∧ Below w.heap.size w w' := by
  refine ⟨swA t f bs a b, swOk t f bs a b, ?_, fun v v' v'' w h h' h'' => ⟨(specSwap_any v v' v'' t f bs a b w h hf hs h' hs2 h'' hs3).mono ?_, (implSwap_any v v' v'' t f bs a b w h hf h' hs2 h'' hs3).mono ?_⟩⟩
  · unfold swA
    split
    · rename_i h
      unfold swOk at h
      obtain ⟨⟨hA, hB⟩, i, p, k, q, ⟨e1, e2, e3, e4⟩, -, -, ⟨hil, -⟩, hkl, -⟩ := swG_main (Bool.and_eq_true_iff.1 h).1
      have hSL : swL t f bs a b = swF bs i p k q := by unfold swL; rw [e1, e2, e3, e4]; simp
      rw [hSL]
      exact swF_small hB hA.1.2.1 hil hkl
    · exact ⟨by simp, by simp [totL, preL]⟩
  all_goals
    rintro e w' ⟨⟨z, he, hi⟩, hb⟩
    exact ⟨_, he, hi, hb⟩
end Go.Proofs.Ytehpeifaknbcnaa
