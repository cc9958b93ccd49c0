import Derived.Test.YtfgkfdkdjegaiaaBestP
import Derived.Test.YtfgkfdkdjegaiaaMk03
import Derived.OrdersHeld
import Derived.Deep.RegionHeld
import Derived.Deep.RegionLaw
namespace Go.Proofs.Ytfgkfdkdjegaiaa
open Go.RowKit
set_option linter.unusedVariables false
set_option linter.unusedSimpArgs false

theorem pats_cells {w : World} {g go d : Nat} : ∀ {xs : List PatternD}, PatternsAt w (.slice (some ⟨g, go, none⟩) xs.length d) xs → ∀ j u, (patC xs)[j]? = some u → w.cell? ((⟨g, go, none⟩ : Addr).add j) = some u := by
  intro xs h j u hu
  have hl := (List.getElem?_eq_some_iff.1 hu).1
  rw [patC_len] at hl
  have hk : j / 2 < xs.length := by omega
  obtain ⟨g', go', he, _, c0, c1⟩ := pat_at h (j / 2) hk
  simp at he
  obtain ⟨rfl, rfl⟩ := he
  rw [addr_add]
  rcases Nat.mod_two_eq_zero_or_one j with hm | hm
  · have e : j = j / 2 * 2 := by omega
    rw [e, patC_get0 xs (j / 2) hk] at hu
    rw [e]; rw [← hu]; rw [← e] at c0 ⊢; exact c0
  · have e : j = j / 2 * 2 + 1 := by omega
    rw [e, patC_get1 xs (j / 2) hk] at hu
    have e2 : go + j = go + j / 2 * 2 + 1 := by omega
    rw [e2, ← hu]; exact c1
theorem grB_cell {w w' : World} {m : Nat} {a : Addr} {v : Value} (h : w.grownBy w' (some m)) (hc : w.cell? a = some v) (hm : a.block ≠ m) : w'.cell? a = some v := by
  have hl := World.block_lt_of_cell? w _ hc
  exact (World.cell?_of_block (h.block a.block hl (by simpa using hm))).trans hc
theorem made_ints (n : Nat) : (madeCells #[.int .i64 0] n).toList = List.replicate n (.int .i64 0) := by
  unfold madeCells
  refine List.ext_getElem (by simp) fun t h1 h2 => ?_
  simp [Nat.mod_one]
theorem pow_small {q k : Nat} (h : q ≤ 20) (hk : k ≤ 1) : q ^ k ≤ 20 := by
  have : k = 0 ∨ k = 1 := by omega
  rcases this with rfl | rfl
  · simp
  · simpa using h

set_option maxRecDepth 100000 in
set_option maxHeartbeats 16000000 in
theorem specBest_any (nv lv : Value) (n : NetD) (p : Int) (xs : List PatternD) (stop : Int) (w : World) (hr : NetAt w nv n) (hw : PatternsAt w lv xs) (hf : NetFits n) (hs : NetSmall n) :
    Calls Try.prog 30 #[nv, .int .i64 p, lv, .int .i64 stop] w fun e w' => (∃ v', e = .returned (.tuple #[v', .int .i64 (boF n p xs stop).2, .bool (boB n p xs stop)]) ∧ w'.ownsRow w.heap.size 3 1 v' (boF n p xs stop).1.length (ints (boF n p xs stop).1)) ∧ Below w.heap.size w w' := by
  have HR := Lib.hid (fun W (hW : Below w.heap.size w W) => specLargestGap_any nv lv n p xs stop W (hr.below rfl hW) (hw.below rfl hW) hf hs)
  have HRs := Lib.hid (fun v ys h W (hW : Below w.heap.size w W) (hv : PatternsAt W v ys) => l10Rests_any nv v n p ys stop W (hr.below rfl hW) hv h)
  have HPt := Lib.hid hw
  have HPc := Lib.hid (fun g go d (h : lv = .slice (some ⟨g, go, none⟩) xs.length d) => pats_cells (w := w) (xs := xs) (g := g) (go := go) (d := d) (by rw [← h]; exact hw))
  obtain ⟨a, c, a', c', rfl, -, -⟩ := net_open hr
  obtain ⟨b, d, rfl⟩ := PatternS_open hw
  obtain ⟨_, _, he, hlc, hlm, -⟩ := pats_open hw
  simp at he
  obtain ⟨rfl, rfl⟩ := he
  clear hr hw hf hs
  cases hs : servB n p xs stop with
  | false =>
    have hb : boB n p xs stop = false := by unfold boB; rw [hs]; rfl
    rw [hs] at HR
    rw [boF_no hb, hb]
    clear hb hs HRs HPt HPc
    go_enter Try.func30, Try.ntmps30
    go_wp2_with fail
    go_at_call 54
    refine (HR.out _ ((Below.refl _ _).alloc (Nat.le_refl _) _)).mono ?_
    rintro e w1 ⟨rfl, hb1⟩
    have HB1 : Hid (Below w.heap.size w w1 ∧ w.heap.size < w1.heap.size) := ⟨((Below.refl _ _).alloc (Nat.le_refl _) _).trans (hb1.mono (by simp)), by have := hb1.size; simp at this; omega⟩
    have p0 : w1.cell? ⟨w.heap.size, 0, none⟩ = some (.slice a n.stops.length c) := bkeep hb1 (by go_simp)
    have p1 : w1.cell? ⟨w.heap.size, 1, none⟩ = some (.slice a' n.lines.length c') := bkeep hb1 (by go_simp)
    clear HR
    clear hb1
    go_wp2_with fail
    go_ret3
    exact ⟨⟨_, rfl, row_new _ _ HB1.out.1.size⟩, HB1.out.1.alloc HB1.out.1.size _⟩
  | true =>
    rw [hs] at HR
    by_cases hp : p ≤ 20
    · have hb : boB n p xs stop = true := by unfold boB; rw [hs]; simp [hp]
      have hd : decide ((20 : Int) < p) = false := decide_eq_false (by omega)
      rw [boF_yes hb, hb]
      obtain ⟨hgood, -, h0⟩ := boB_iff hb
      have hp1 := hgood.2.1.1
      have hL := hgood.2.2.1
      have HRs2 := Lib.hid (fun v c W hW hv => HRs.out v (tT xs p c) (tT_good hgood c) W hW hv)
      have hmany := manyN_in (p := p) ⟨hp1, hp⟩ hL
      have HBin := Lib.hid (fun k => bestA_in (n := n) (xs := xs) (stop := stop) hp1 h0 k)
      have HLen := Lib.hid (fun c => restS_same (n := n) hp1 (tT_same xs p c) stop)
      obtain ⟨M, hM⟩ : ∃ M, manyN p xs.length = M := ⟨_, rfl⟩
      rw [hM] at hmany
      rw [hM]
      have HM : Hid (p.toNat ^ (xs.length - 1) = M) := hM
      obtain ⟨q, hq⟩ := Int.eq_ofNat_of_zero_le (show 0 ≤ p by omega)
      have HQ : Hid ((q : Int) = p ∧ p.toNat = q) := ⟨hq.symm, by rw [hq]; rfl⟩
      obtain ⟨g, go, rfl, hgb, -, -⟩ := pat_at HPt.out 0 (by omega)
      have HCel := Lib.hid (HPc.out g go d rfl)
      obtain ⟨i0, hi0, hz0, hz1, hz2⟩ := info_parts infoInt
      obtain ⟨iP, hiP, hzP0, hzP1, hzP2⟩ := info_parts infoPattern
      have hp0 : ¬ p = 0 := by omega
      have hp0' : (p == 0) = false := by simp; omega
      have hpw : IntKind.i64.wrap (p + 1) = p + 1 := IntWalk.i64_in _ (by omega)
      clear hb hs HRs HPc hM hgood hq
      go_enter Try.func30, Try.ntmps30
      go_wp2_with fail
      go_at_call 54
      refine (HR.out _ ((Below.refl _ _).alloc (Nat.le_refl _) _)).mono ?_
      rintro e w1 ⟨rfl, hb1⟩
      have HB1 : Hid (Below w.heap.size w w1 ∧ w.heap.size < w1.heap.size) := ⟨((Below.refl _ _).alloc (Nat.le_refl _) _).trans (hb1.mono (by simp)), by have := hb1.size; simp at this; omega⟩
      have p0 : w1.cell? ⟨w.heap.size, 0, none⟩ = some (.slice a n.stops.length c) := bkeep hb1 (by go_simp)
      have p1 : w1.cell? ⟨w.heap.size, 1, none⟩ = some (.slice a' n.lines.length c') := bkeep hb1 (by go_simp)
      clear HR
      clear hb1
      go_wp2_with fail
      go_loop [14, 15] (fun m q0 => ∃ k : Nat, k + 1 ≤ xs.length ∧ q0 = .int .i64 ((k + 1 : Nat) : Int) ∧ m = .int .i64 ((q ^ k : Nat) : Int)) (fun _ q0 => xs.length - (RowKit.intOf q0).toNat)
      case atStart => exact ⟨0, by omega, rfl, by simp⟩
      case round =>
        obtain ⟨k, hk, rfl, rfl⟩ := hrel
        by_cases hlt : k + 1 < xs.length
        · have hqb := pow_small (q := q) (k := k) (by have := HQ.out.1; omega) (by omega)
          have hqn : 0 ≤ q ^ k := Nat.zero_le _
          have HNx : Hid (((q ^ (k + 1) : Nat) : Int) = ((q ^ k : Nat) : Int) * p) := by show _ = _; rw [← HQ.out.1, Nat.pow_succ]; push_cast; rfl
          have hmul : 0 ≤ ((q ^ k : Nat) : Int) * p ∧ ((q ^ k : Nat) : Int) * p ≤ 400 := ⟨Int.mul_nonneg (by omega) (by omega), by have := Int.mul_le_mul (show ((q ^ k : Nat) : Int) ≤ 20 by omega) hp (by omega) (by omega); omega⟩
          generalize hqk : ((q ^ k : Nat) : Int) = Q at *
          have hw1 : IntKind.i64.wrap (Q * p) = Q * p := IntWalk.i64_in _ (by omega)
          have hk1 : ((k + 1 : Nat) : Int) < (xs.length : Int) := by omega
          have hk2 : (k : Int) + 1 < (xs.length : Int) := by omega
          clear hqk
          go_wp2_with fail
          go_round
          case rel => exact ⟨k + 1, by omega, by go_num, by rw [HNx.out]⟩
          case measure => simp [RowKit.intOf]; omega
        · have hkL : k = xs.length - 1 := by omega
          have hk1 : ¬ ((k + 1 : Nat) : Int) < (xs.length : Int) := by omega
          have hk2 : ¬ (k : Int) + 1 < (xs.length : Int) := by omega
          have HMk : Hid (((q ^ k : Nat) : Int) = (M : Int)) := by show _ = _; rw [hkL, ← HQ.out.2, HM.out]
          generalize ((q ^ k : Nat) : Int) = Q at *
          obtain rfl : Q = (M : Int) := HMk.out
          clear HMk
          have HO1 := Lib.hid (row_new w1 (w.heap.size + 1) (by have := HB1.out.2; omega))
          have HB2 : Hid (Below w.heap.size w (w1.alloc (.cells #[] 3)) ∧ w.heap.size < (w1.alloc (.cells #[] 3)).heap.size) := ⟨HB1.out.1.alloc HB1.out.1.size _, by have := HB1.out.2; simp; omega⟩
          have p0 := acell p0 (.cells #[] 3)
          have p1 := acell p1 (.cells #[] 3)
          clear HB1
          go_wp2_with fail
          go_loopw [16, 17, 18] (fun o l q0 wr => ∃ k : Nat, k ≤ M ∧ q0 = .int .i64 (k : Int) ∧ l = .int .i64 (bestA n p xs stop k).2 ∧ Hid (wr.ownsRow (w.heap.size + 1) 3 1 o (bestA n p xs stop k).1.length (ints (bestA n p xs stop k).1)) ∧ wr.cell? ⟨w.heap.size, 0, none⟩ = some (.slice a n.stops.length c) ∧ wr.cell? ⟨w.heap.size, 1, none⟩ = some (.slice a' n.lines.length c') ∧ Hid (Below w.heap.size w wr ∧ w.heap.size < wr.heap.size))
            (fun _ _ q0 _ => M - (RowKit.intOf q0).toNat)
          case atStart => exact ⟨0, Nat.zero_le _, rfl, rfl, HO1.out, p0, p1, HB2⟩
          case round =>
            clear p0 p1 HO1 HB2
            obtain ⟨k, hk, rfl, rfl, HOb, p0, p1, HB⟩ := hrel
            have hbi := HBin.out k
            by_cases hlt : k < M
            · have hk1 : (k : Int) < (M : Int) := by omega
              have hzr := HB.out.2
              obtain ⟨ob, oc, rfl⟩ := own_shape HOb.out
              have HLit := Lib.hid (World.ownsRow_lit (base := wr.heap.size) (e := 45) (size := 2) wr #[] 0 (Nat.le_refl _) (by decide) (by simp))
              have HCw : Hid (∀ j u, (patC xs)[j]? = some u → (wr.alloc (.cells #[] 45)).cell? ((⟨g, go, none⟩ : Addr).add j) = some u) := fun j u hu => acell (bkeep HB.out.1 (HCel.out j u hu)) _
              go_wp2_with (at_builtin; refine wpList_append_own _ rfl _ _ 28 rfl wr.heap.size 45 iP (.agg #[.int .i64 0, .int .i64 0]) 2 16 Try.underlying28 hiP hzP0 hzP1 hzP2 rfl (by decide) _ 0 _ rfl HLit.out ⟨g, go, none⟩ xs.length d (patC xs) rfl (patC_len xs) ?c1 ?c2 ?c3 ?c4 ?c5 ?_)
              case c1 => first | exact HCw.out | (intro j u hu; have hq := HCw.out j u hu; rw [addr_add] at hq; exact hq)
              case c2 => exact patC_cells xs
              case c3 => first | omega | (unfold maxLen; omega)
              try (case c4 => omega)
              try (case c5 => first | omega | (simp; omega) | simp)
              intro v1 w2 hown1 hgr1 _
              have hb2 : Below wr.heap.size wr w2 := ((Below.refl _ _).alloc (Nat.le_refl _) _).grown hgr1 (by simp) (fun g hg => by simp [Value.ownBlock] at hg; omega)
              have hT0 : w2.ownsRow wr.heap.size 45 2 v1 xs.length (patC xs) := by simpa using hown1
              obtain ⟨tg, tc, rfl, htc, htm, htl, htb, -⟩ := own_open hT0 (own_someE hT0 (by omega))
              have HT0 := Lib.hid hT0
              clear hown1 hgr1 hT0 HLit HCw
              go_wp2_with (at_make; refine wpList_make_full _ rfl _ _ 31 rfl wr.heap.size 3 i0 _ 1 Try.underlying31 hi0 hz0 hz1 .i64 .i64 (xs.length : Int) (xs.length : Int) xs.length rfl rfl rfl rfl ?c1 ?c2 ?c3 ?_)
              case c1 => rw [hz2]; omega
              case c2 => unfold maxLen; omega
              case c3 => exact hb2.size
              intro w3 hown3 hgr3
              rw [made_ints] at hown3
              have hb3 : Below wr.heap.size wr w3 := hb2.grown hgr3 hb2.size (fun g hg => by cases hg)
              have HT3 := Lib.hid (own_later HT0.out ((Below.refl _ _).grown hgr3 (Nat.le_refl _) (fun g hg => by cases hg)))
              obtain ⟨og, hog⟩ : ∃ og, og = w2.heap.size := ⟨_, rfl⟩
              have hne : tg ≠ og := by omega
              have hogl : wr.heap.size ≤ og := by have := hb2.size; omega
              rw [← hog] at hown3
              have HO3 : Hid (w3.ownsRow wr.heap.size 3 1 (.slice (some ⟨og, 0, none⟩) xs.length xs.length) xs.length (ints (ops xs p k 0))) := by
                show World.ownsRow _ _ _ _ _ _ _
                rw [show ints (ops xs p k 0) = List.replicate xs.length (.int .i64 0) by simp [ints, ops]]; exact hown3
              have HB3 := Lib.hid hb3
              have hlw : IntKind.i64.wrap ((xs.length : Int) - 1) = ((xs.length - 1 : Nat) : Int) := by rw [IntWalk.i64_in _ (by omega)]; omega
              rw [← hog]
              clear hog hown3 hgr3 hb3 HT0
              go_wp2_with fail
              obtain ⟨wo, rfl⟩ : ∃ wo : World, wo = wr := ⟨_, rfl⟩
              go_loopw [21, 22] (fun x0 q0 wr => ∃ s i : Nat, s + i + 1 = xs.length ∧ q0 = .int .i64 (i : Int) ∧ x0 = .int .i64 (shr p k s) ∧ Hid (wr.ownsRow wo.heap.size 45 2 (.slice (some ⟨tg, 0, none⟩) xs.length tc) xs.length (patC (tps xs p k s))) ∧ Hid (wr.ownsRow wo.heap.size 3 1 (.slice (some ⟨og, 0, none⟩) xs.length xs.length) xs.length (ints (ops xs p k s))) ∧ Hid (Below wo.heap.size wo wr))
                (fun _ q0 _ => (RowKit.intOf q0).toNat)
              case atStart => exact ⟨0, xs.length - 1, by omega, rfl, rfl, HT3.out, HO3.out, HB3.out⟩
              case round =>
                clear HT3 HO3 HB3
                obtain ⟨s, i, hsi, rfl, rfl, HT, HO, HBi⟩ := hrel
                have hil : i < xs.length := by omega
                have hX0 := shr_nonneg (p := p) (c := (k : Int)) hp1 (by omega) s
                have hX1 := shr_le (p := p) (c := (k : Int)) hp1 (by omega) s
                have htl := tps_len xs p k s
                have hol := ops_len xs p k s
                have hcO : wr.cell? ⟨og, i, none⟩ = some ((ints (ops xs p k s))[i]'(by rw [ints_len, hol]; exact hil)) := by
                  have h := HO.out.cellAt i (by omega)
                  rw [h]; exact List.getElem?_eq_getElem _
                have hfO := fun o => HO.out.frozenAt o
                by_cases hpos : 0 < i
                · have HTn : Hid (tps xs p k (s + 1) = (tps xs p k s).set i ⟨xs[i].line, dgt p k s⟩) := by
                    show _ = _
                    simp only [tps]; rw [show xs.length - 1 - s = i by omega]; simp [List.getD, hil]
                  have HOn : Hid (ops xs p k (s + 1) = (ops xs p k s).set i (dgt p k s)) := by
                    show _ = _
                    simp only [ops]; rw [show xs.length - 1 - s = i by omega]
                  have HXn : Hid (shr p k (s + 1) = shr p k s / p) := rfl
                  have HDg : Hid (dgt p k s = shr p k s % p) := rfl
                  obtain ⟨_, _, he, -, yq, -⟩ := pat_at HPt.out i hil
                  simp at he
                  obtain ⟨rfl, rfl⟩ := he
                  have hm0 := dgt_in hp1 (k : Int) s
                  generalize hXX : shr p k s = X at *
                  generalize hxl : xs[i].line = xl at *
                  generalize hDD : dgt p k s = D at *
                  have htm : X.tmod p = D := by rw [Int.tmod_eq_emod_of_nonneg hX0]; exact HDg.out.symm
                  have htd : X.tdiv p = X / p := Int.tdiv_eq_ediv_of_nonneg hX0
                  have hq0 : 0 ≤ X / p := Int.ediv_nonneg hX0 (by omega)
                  have hq1 : X / p ≤ X := Int.ediv_le_self p hX0
                  generalize hYY : X / p = Y at *
                  have hwD : IntKind.i64.wrap D = D := IntWalk.i64_in _ (by omega)
                  have hwY : IntKind.i64.wrap Y = Y := IntWalk.i64_in _ (by omega)
                  clear hXX hxl hDD hYY HDg
                  have hi1 : (i : Int) < (xs.length : Int) := by omega
                  have hi0 : (0 : Int) ≤ (i : Int) := by omega
                  have hpd : decide ((0 : Int) < (i : Int)) = true := decide_eq_true (by omega)
                  obtain ⟨wj, hwj⟩ : ∃ wj : World, wj = wr.setCell ⟨og, i, none⟩ (.int .i64 D) := ⟨_, rfl⟩
                  have hsO := HO.out.stored i (.int .i64 D)
                  rw [← hwj] at hsO
                  have HOj : Hid (wj.ownsRow wo.heap.size 3 1 (.slice (some ⟨og, 0, none⟩) xs.length xs.length) xs.length (ints (ops xs p k (s + 1)))) := by
                    show World.ownsRow _ _ _ _ _ _ _
                    rw [HOn.out, show ints ((ops xs p k s).set i D) = (ints (ops xs p k s)).set i (.int .i64 D) by unfold ints; rw [List.map_set]]; exact hsO.1
                  have HTj := Lib.hid (HT.out.kept hsO.2 (.inr (fun e => hne (by simpa [Value.ownBlock] using e))))
                  have HBj : Hid (Below wo.heap.size wo wj) := by show Below _ _ _; rw [hwj]; exact HBi.out.setCell (p := ⟨og, i, none⟩) hogl _
                  have yq := bkeep (HB.out.1.trans (HBj.out.mono HB.out.1.size)) yq
                  have hcT0 : wj.cell? ⟨tg, i * 2, none⟩ = some ((patC (tps xs p k s))[i * 2]'(by rw [patC_len, htl]; omega)) := by
                    have h := HTj.out.cellAt (i * 2) (by omega)
                    rw [h]; exact List.getElem?_eq_getElem _
                  have hcT1 : wj.cell? ⟨tg, i * 2 + 1, none⟩ = some ((patC (tps xs p k s))[i * 2 + 1]'(by rw [patC_len, htl]; omega)) := by
                    have h := HTj.out.cellAt (i * 2 + 1) (by omega)
                    rw [h]; exact List.getElem?_eq_getElem _
                  have hfT := fun o => HTj.out.frozenAt o
                  have hs1 := (HTj.out.stored (i * 2) (.int .i64 xl)).1.stored (i * 2 + 1) (.int .i64 D)
                  have hg1 := (HTj.out.stored (i * 2) (.int .i64 xl)).2
                  have HTz : Hid ((((wj.setCell ⟨tg, i * 2, none⟩ (.int .i64 xl)).setCell ⟨tg, i * 2 + 1, none⟩ (.int .i64 D))).drew.ownsRow wo.heap.size 45 2 (.slice (some ⟨tg, 0, none⟩) xs.length tc) xs.length (patC (tps xs p k (s + 1)))) := by
                    show World.ownsRow _ _ _ _ _ _ _
                    have h := patC_set (tps xs p k s) i ⟨xl, D⟩ (by rw [htl]; exact hil)
                    rw [HTn.out, ← h]; exact own_later hs1.1 (Below.refl _ _).drew
                  have hoh : (Value.slice (some ⟨og, 0, none⟩) xs.length xs.length).ownBlock ≠ some tg := fun e => hne (by simpa [Value.ownBlock] using e.symm)
                  have HOz := Lib.hid (own_later ((HOj.out.kept hg1 (.inr hoh)).kept hs1.2 (.inr hoh)) (Below.refl _ _).drew)
                  have hiw : IntKind.i64.wrap ((i : Int) - 1) = ((i - 1 : Nat) : Int) := by rw [IntWalk.i64_in _ (by omega)]; omega
                  have HBz : Hid (Below wo.heap.size wo ((wj.setCell ⟨tg, i * 2, none⟩ (.int .i64 xl)).setCell ⟨tg, i * 2 + 1, none⟩ (.int .i64 D)).drew) := ((HBj.out.setCell (p := ⟨tg, i * 2, none⟩) htb _).setCell (p := ⟨tg, i * 2 + 1, none⟩) htb _).drew
                  generalize (patC (tps xs p k s))[i * 2]'_ = old1 at *
                  generalize (patC (tps xs p k s))[i * 2 + 1]'_ = old2 at *
                  generalize (ints (ops xs p k s))[i]'_ = old0 at *
                  clear hs1 hg1 hsO HT HO HBi HTj HOj HBj HTn HOn hoh htl hol
                  go_wp2_with fail
                  rw [← hwj]
                  clear hwj
                  refine wp_region_until 12 (S := (fun w' => w'.cell? ⟨g, go + i * 2, none⟩ = some (.int .i64 xl))) (by kernel_rfl) ?_ (fun hHeld => ?_)
                  · exact yq
                  refine wpAnyU_take (i := 0) (v := ?_) (by simp only [List.getElem?_toArray, List.getElem?_cons_zero]; rfl) (by kernel_rfl) (by kernel_rfl) (by kernel_rfl) (by kernel_rfl) (by kernel_rfl) (by exact fun _ _ _ h => h) (Or.inl ⟨by rfl, ?_⟩) (by assumption) ?_
                  rotate_left
                  · intro w' hSw; go_simp; try with_reducible rfl
                  try simp only [Act.put, List.setIfInBounds_toArray, List.set_cons_zero, List.set_cons_succ]
                  refine wpAnyU_take (i := 1) (v := ?_) (by simp only [List.getElem?_toArray, List.getElem?_cons_succ, List.getElem?_cons_zero]; rfl) (by kernel_rfl) (by kernel_rfl) (by kernel_rfl) (by kernel_rfl) (by kernel_rfl) (by exact fun _ _ _ h => h) (Or.inl ⟨by rfl, ?_⟩) (by assumption) ?_
                  rotate_left
                  · intro w' hSw; go_simp; try with_reducible rfl
                  try simp only [Act.put, List.setIfInBounds_toArray, List.set_cons_zero, List.set_cons_succ]
                  refine wpAnyU_take (i := 2) (v := ?_) (by simp only [List.getElem?_toArray, List.getElem?_cons_succ, List.getElem?_cons_zero]; rfl) (by kernel_rfl) (by kernel_rfl) (by kernel_rfl) (by kernel_rfl) (by kernel_rfl) (by exact fun _ _ _ h => h) (Or.inl ⟨by rfl, ?_⟩) (by assumption) ?_
                  rotate_left
                  · intro w' hSw; go_simp; try with_reducible rfl
                  try simp only [Act.put, List.setIfInBounds_toArray, List.set_cons_zero, List.set_cons_succ]
                  refine wpAnyU_take (i := 3) (v := ?_) (by simp only [List.getElem?_toArray, List.getElem?_cons_succ, List.getElem?_cons_zero]; rfl) (by kernel_rfl) (by kernel_rfl) (by kernel_rfl) (by kernel_rfl) (by kernel_rfl) (by exact fun _ _ _ h => h) (Or.inl ⟨by rfl, ?_⟩) (by assumption) ?_
                  rotate_left
                  · intro w' hSw; go_simp; try with_reducible rfl
                  try simp only [Act.put, List.setIfInBounds_toArray, List.set_cons_zero, List.set_cons_succ]
                  refine wpAnyU_take (i := 4) (v := ?_) (by simp only [List.getElem?_toArray, List.getElem?_cons_succ, List.getElem?_cons_zero]; rfl) (by kernel_rfl) (by kernel_rfl) (by kernel_rfl) (by kernel_rfl) (by kernel_rfl) (by exact fun _ _ _ h => h) (Or.inl ⟨by rfl, ?_⟩) (by assumption) ?_
                  rotate_left
                  · intro w' hSw; go_simp; try with_reducible rfl
                  try simp only [Act.put, List.setIfInBounds_toArray, List.set_cons_zero, List.set_cons_succ]
                  refine wpAnyU_take (i := 5) (v := ?_) (by simp only [List.getElem?_toArray, List.getElem?_cons_succ, List.getElem?_cons_zero]; rfl) (by kernel_rfl) (by kernel_rfl) (by kernel_rfl) (by kernel_rfl) (by kernel_rfl) (by exact fun _ _ _ h => h) (Or.inl ⟨by rfl, ?_⟩) (by assumption) ?_
                  rotate_left
                  · intro w' hSw; go_simp; try with_reducible rfl
                  try simp only [Act.put, List.setIfInBounds_toArray, List.set_cons_zero, List.set_cons_succ]
                  refine wpAnyU_take (i := 6) (v := ?_) (by simp only [List.getElem?_toArray, List.getElem?_cons_succ, List.getElem?_cons_zero]; rfl) (by kernel_rfl) (by kernel_rfl) (by kernel_rfl) (by kernel_rfl) (by kernel_rfl) (by exact fun _ _ _ h => h) (Or.inl ⟨by rfl, ?_⟩) (by assumption) ?_
                  rotate_left
                  · intro w' hSw; go_simp; try with_reducible rfl
                  try simp only [Act.put, List.setIfInBounds_toArray, List.set_cons_zero, List.set_cons_succ]
                  refine wpAnyU_take (i := 7) (v := ?_) (by simp only [List.getElem?_toArray, List.getElem?_cons_succ, List.getElem?_cons_zero]; rfl) (by kernel_rfl) (by kernel_rfl) (by kernel_rfl) (by kernel_rfl) (by kernel_rfl) (by exact fun _ _ _ h => h) (Or.inl ⟨by rfl, ?_⟩) (by assumption) ?_
                  rotate_left
                  · intro w' hSw; go_simp; try with_reducible rfl
                  try simp only [Act.put, List.setIfInBounds_toArray, List.set_cons_zero, List.set_cons_succ]
                  refine wpAnyU_take (i := 8) (v := ?_) (by simp only [List.getElem?_toArray, List.getElem?_cons_succ, List.getElem?_cons_zero]; rfl) (by kernel_rfl) (by kernel_rfl) (by kernel_rfl) (by kernel_rfl) (by kernel_rfl) (by exact fun _ _ _ h => h) (Or.inl ⟨by rfl, ?_⟩) (by assumption) ?_
                  rotate_left
                  · intro w' hSw; go_simp; try with_reducible rfl
                  try simp only [Act.put, List.setIfInBounds_toArray, List.set_cons_zero, List.set_cons_succ]
                  refine wpAnyU_take (i := 9) (v := ?_) (by simp only [List.getElem?_toArray, List.getElem?_cons_succ, List.getElem?_cons_zero]; rfl) (by kernel_rfl) (by kernel_rfl) (by kernel_rfl) (by kernel_rfl) (by kernel_rfl) (by exact fun _ _ _ h => h) (Or.inl ⟨by rfl, ?_⟩) (by assumption) ?_
                  rotate_left
                  · intro w' hSw; go_simp; try with_reducible rfl
                  try simp only [Act.put, List.setIfInBounds_toArray, List.set_cons_zero, List.set_cons_succ]
                  refine wpAnyU_take (i := 10) (v := ?_) (by simp only [List.getElem?_toArray, List.getElem?_cons_succ, List.getElem?_cons_zero]; rfl) (by kernel_rfl) (by kernel_rfl) (by kernel_rfl) (by kernel_rfl) (by kernel_rfl) (by exact fun _ _ _ h => h) (Or.inl ⟨by rfl, ?_⟩) (by assumption) ?_
                  rotate_left
                  · intro w' hSw; go_simp; try with_reducible rfl
                  try simp only [Act.put, List.setIfInBounds_toArray, List.set_cons_zero, List.set_cons_succ]
                  refine wpAnyU_take (i := 11) (v := ?_) (by simp only [List.getElem?_toArray, List.getElem?_cons_succ, List.getElem?_cons_zero]; rfl) (by kernel_rfl) (by kernel_rfl) (by kernel_rfl) (by kernel_rfl) (by kernel_rfl) (by exact fun _ _ _ h => h) (Or.inl ⟨by rfl, ?_⟩) (by assumption) ?_
                  rotate_left
                  · intro w' hSw; go_simp; try with_reducible rfl
                  try simp only [Act.put, List.setIfInBounds_toArray, List.set_cons_zero, List.set_cons_succ]
                  refine wpAnyU_ready (rs := [12]) (by kernel_rfl) (by simp) ?_
                  refine AllReadyU.last (by simp only [List.getElem?_toArray, List.getElem?_cons_succ, List.getElem?_cons_zero]; rfl) (by kernel_rfl) (fun K hK => ?_)
                  go_simp
                  refine hK.out _ _ ?_
                  clear hK K
                  try simp only [Act.put, List.setIfInBounds_toArray, List.set_cons_zero, List.set_cons_succ]
                  refine wpAnyU_done (by kernel_rfl) ?_ _
                  clear hHeld
                  go_wp2_with fail
                  go_roundw
                  case rel => exact ⟨s + 1, i - 1, by omega, rfl, by rw [HXn.out], HTz.out, HOz.out, HBz.out⟩
                  case measure => simp [RowKit.intOf] <;> omega
                · obtain rfl : i = 0 := by omega
                  have hsL : s = xs.length - 1 := by omega
                  have hpd : decide ((0 : Int) < ((0 : Nat) : Int)) = false := by simp
                  have HTT : Hid (tps xs p k s = tT xs p k) := by show _ = _; rw [hsL]; rfl
                  have HOT : Hid (oT xs p k = (ops xs p k s).set 0 xs[0].offs) := by show _ = _; rw [hsL]; simp [oT, List.getD, hil]
                  obtain ⟨_, _, he, -, -, yq⟩ := pat_at HPt.out 0 hil
                  simp at he
                  obtain ⟨rfl, rfl⟩ := he
                  have yq := bkeep (HB.out.1.trans (HBi.out.mono HB.out.1.size)) yq
                  have yq' := yq
                  rw [Nat.zero_mul, Nat.add_zero] at yq'
                  generalize xs[0].offs = x0 at *
                  obtain ⟨wj, hwj⟩ : ∃ wj : World, wj = wr.setCell ⟨og, 0, none⟩ (.int .i64 x0) := ⟨_, rfl⟩
                  have hsO := HO.out.stored 0 (.int .i64 x0)
                  rw [← hwj] at hsO
                  have HOj : Hid (wj.ownsRow wo.heap.size 3 1 (.slice (some ⟨og, 0, none⟩) xs.length xs.length) xs.length (ints (oT xs p k))) := by
                    show World.ownsRow _ _ _ _ _ _ _
                    rw [HOT.out, show ints ((ops xs p k s).set 0 x0) = (ints (ops xs p k s)).set 0 (.int .i64 x0) by unfold ints; rw [List.map_set]]; exact hsO.1
                  have hTj := HT.out.kept hsO.2 (.inr (fun e => hne (by simpa [Value.ownBlock] using e)))
                  have HBj : Hid (Below wo.heap.size wo wj) := by show Below _ _ _; rw [hwj]; exact HBi.out.setCell (p := ⟨og, 0, none⟩) hogl _
                  have HBw : Hid (Below w.heap.size w wj ∧ w.heap.size < wj.heap.size) := ⟨HB.out.1.trans (HBj.out.mono HB.out.1.size), by have := HBj.out.size; omega⟩
                  rw [HTT.out] at hTj
                  have HPj : Hid (PatternsAt wj (.slice (some ⟨tg, 0, none⟩) xs.length tc) (tT xs p k)) := patsAt_own (by rw [tT_len]; exact hTj)
                  have HC1 := Lib.hid (HRs2.out _ (k : Int) wj HBw.out.1 HPj.out)
                  have hlen0 : 0 < (restS n p (tT xs p k) stop).length := by rw [HLen.out (k : Int)]; exact h0
                  have hlr := restS_len n p (tT xs p k) stop
                  rw [tT_len] at hlr
                  have hmem := restS_mem (n := n) (xs := tT xs p k) (stop := stop) hp1
                  have HGt : Hid (lgV (gaps (restS n p (tT xs p k) stop) p) = gapT n p (tT xs p k) stop) := rfl
                  have hgt := gapT_in (n := n) (ys := tT xs p k) (stop := stop) hp1 (by omega)
                  have HYes := Lib.hid (fun h => bestA_yes (n := n) (p := p) (xs := xs) (stop := stop) (k := k) h)
                  have HNo := Lib.hid (fun h => bestA_no (n := n) (p := p) (xs := xs) (stop := stop) (k := k) h)
                  have p0o := p0
                  have p1o := p1
                  have p0 := bkeep (HBj.out) p0o
                  have p1 := bkeep (HBj.out) p1o
                  have p0w := p0
                  have p1w := p1
                  rw [hwj] at p0w p1w
                  generalize (ints (ops xs p k s))[0]'_ = old0 at *
                  clear hsO HT HO HBi HTT HOT hTj HPj hX0 hX1 htl hol hsi hsL
                  go_wp2_with fail
                  rw [← hwj]
                  clear hwj p0w p1w
                  go_at_call 59
                  refine HC1.out.mono ?_
                  rintro e w5 ⟨⟨v5, rfl, ho5⟩, hb5⟩
                  have HBw5 : Hid (Below w.heap.size w w5) := HBw.out.1.trans (hb5.mono HBw.out.1.size)
                  have HC2 := Lib.hid (l10Gaps_any v5 _ p w5 (rowAt_own ho5) (by omega) (fun x hx => by have := hmem x hx; omega) (fun _ => by omega))
                  have HBj5 : Hid (Below wo.heap.size wo w5) := HBj.out.trans (hb5.mono HBj.out.size)
                  have HOj5 := Lib.hid (own_later HOj.out hb5)
                  obtain ⟨_, _, rfl⟩ := own_shape ho5
                  clear ho5 hb5 HC1 HBw HBj HOj
                  go_wp2_with fail
                  go_at_call 58
                  refine HC2.out.mono ?_
                  rintro e w6 ⟨⟨v6, rfl, ho6⟩, hb6⟩
                  have HBw6 : Hid (Below w.heap.size w w6) := HBw5.out.trans (hb6.mono HBw5.out.size)
                  have HBj6 : Hid (Below wo.heap.size wo w6) := HBj5.out.trans (hb6.mono HBj5.out.size)
                  have HC3 := Lib.hid (l10Largest_any v6 _ w6 (rowAt_own ho6) (by rw [gaps_len]; omega))
                  have HOj6 := Lib.hid (own_later HOj5.out hb6)
                  rw [HGt.out] at HC3
                  obtain ⟨_, _, rfl⟩ := own_shape ho6
                  clear ho6 hb6 HC2 HBw5 HBj5 HOj5
                  go_wp2_with fail
                  go_at_call 74
                  refine HC3.out.mono ?_
                  rintro e w7 ⟨rfl, hb7⟩
                  have HBw7 : Hid (Below w.heap.size w w7 ∧ w.heap.size < w7.heap.size) := ⟨HBw6.out.trans (hb7.mono HBw6.out.size), by have := HBj6.out.size; have := hb7.size; omega⟩
                  have HBj7 : Hid (Below wo.heap.size wo w7) := HBj6.out.trans (hb7.mono HBj6.out.size)
                  have HOj7 := Lib.hid (own_later HOj6.out hb7)
                  have p0 := bkeep (HBj7.out) p0o
                  have p1 := bkeep (HBj7.out) p1o
                  have HOb7 := Lib.hid (own_later HOb.out HBj7.out)
                  clear hb7 HC3 HBw6 HBj6 HOj6 HGt
                  generalize gapT n p (tT xs p k) stop = G at *
                  by_cases hc : G < (bestA n p xs stop k).2
                  · have hdc : decide (G < (bestA n p xs stop k).2) = true := decide_eq_true hc
                    have HN := Lib.hid (HYes.out (by omega))
                    have HR : Hid (w7.ownsRow (w.heap.size + 1) 3 1 (.slice (some ⟨og, 0, none⟩) xs.length xs.length) (bestA n p xs stop (k + 1)).1.length (ints (bestA n p xs stop (k + 1)).1)) := by
                      show World.ownsRow _ _ _ _ _ _ _
                      rw [HN.out]; show World.ownsRow _ _ _ _ _ (oT xs p k).length (ints (oT xs p k)); rw [oT_len]; exact own_base HOj7.out (by omega)
                    have HN2 : Hid ((bestA n p xs stop (k + 1)).2 = G) := by show _ = _; rw [HN.out]
                    clear HYes HNo HN hc HOj7 HOb7 HOb
                    go_wp2_with fail
                    exact ⟨⟨k + 1, by omega, by go_num, by rw [HN2.out], HR, p0, p1, HBw7⟩, by simp [RowKit.intOf]; omega⟩
                  · have hdc : decide (G < (bestA n p xs stop k).2) = false := decide_eq_false hc
                    have HN := Lib.hid (HNo.out (by omega))
                    clear HYes HNo hc HOj7
                    have HRb : Hid (w7.ownsRow (w.heap.size + 1) 3 1 (.slice ob (bestA n p xs stop k).1.length oc) (bestA n p xs stop (k + 1)).1.length (ints (bestA n p xs stop (k + 1)).1)) := by show World.ownsRow _ _ _ _ _ _ _; rw [HN.out]; exact HOb7.out
                    have HN2 : Hid ((bestA n p xs stop (k + 1)).2 = (bestA n p xs stop k).2) := by show _ = _; rw [HN.out]
                    go_wp2_with fail
                    exact ⟨⟨k + 1, by omega, by go_num, by rw [HN2.out], HRb, p0, p1, HBw7⟩, by simp [RowKit.intOf]; omega⟩
            · obtain rfl : k = M := by omega
              have HX := Lib.hid (own_base HOb.out (Nat.le_succ w.heap.size))
              clear HOb
              go_wp2_with fail
              go_ret3
              exact ⟨⟨_, rfl, HX.out⟩, HB.out.1⟩
    · have hb : boB n p xs stop = false := by unfold boB; rw [hs]; simp [hp]
      have hd : decide ((20 : Int) < p) = true := decide_eq_true (by omega)
      rw [boF_no hb, hb]
      clear hb hs HRs HPt HPc
      go_enter Try.func30, Try.ntmps30
      go_wp2_with fail
      go_at_call 54
      refine (HR.out _ ((Below.refl _ _).alloc (Nat.le_refl _) _)).mono ?_
      rintro e w1 ⟨rfl, hb1⟩
      have HB1 : Hid (Below w.heap.size w w1 ∧ w.heap.size < w1.heap.size) := ⟨((Below.refl _ _).alloc (Nat.le_refl _) _).trans (hb1.mono (by simp)), by have := hb1.size; simp at this; omega⟩
      have p0 : w1.cell? ⟨w.heap.size, 0, none⟩ = some (.slice a n.stops.length c) := bkeep hb1 (by go_simp)
      have p1 : w1.cell? ⟨w.heap.size, 1, none⟩ = some (.slice a' n.lines.length c') := bkeep hb1 (by go_simp)
      clear HR
      clear hb1
      go_wp2_with fail
      go_ret3
      exact ⟨⟨_, rfl, row_new _ _ HB1.out.1.size⟩, HB1.out.1.alloc HB1.out.1.size _⟩

end Go.Proofs.Ytfgkfdkdjegaiaa
