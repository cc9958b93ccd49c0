import Derived.Test.YtfgkfdkdjegaiaaBestE
namespace Go.Proofs.Ytfgkfdkdjegaiaa
open Go.RowKit
set_option linter.unusedVariables false
set_option linter.unusedSimpArgs false

theorem heap_new (V : World) (o : Obj) : (V.alloc o).heap[V.heap.size]? = some o := by show (V.heap.push o)[V.heap.size]? = some o; simp
theorem offs_succ {bs : List PatternD} {k : Nat} (hk : k < bs.length) : (bs.take (k + 1)).map (fun x => x.offs) = (bs.take k).map (fun x => x.offs) ++ [bs[k].offs] := by
  rw [List.take_succ_eq_append_getElem hk, List.map_append]; rfl

set_option maxRecDepth 100000 in
set_option maxHeartbeats 8000000 in
theorem implBest_any (nv lv : Value) (n : NetD) (p : Int) (xs : List PatternD) (stop : Int) (w : World) (hr : NetAt w nv n) (hw : PatternsAt w lv xs) (hf : NetFits n) (hs : NetSmall n) :
    Calls Try.prog 29 #[nv, .int .i64 p, lv, .int .i64 stop] w fun e w' => (∃ v', e = .returned (.tuple #[v', .int .i64 (boF n p xs stop).2, .bool (boB n p xs stop)]) ∧ w'.ownsRow w.heap.size 3 1 v' (boF n p xs stop).1.length (ints (boF n p xs stop).1)) ∧ Below w.heap.size w w' := by
  have HR := Lib.hid (fun W (hW : Below w.heap.size w W) => servedRests_any nv lv n p xs stop W (hr.below rfl hW) (hw.below rfl hW) hf hs)
  have HPt := Lib.hid hw
  have HPc := Lib.hid (fun g go d (h : lv = .slice (some ⟨g, go, none⟩) xs.length d) => pats_cells (w := w) (xs := xs) (g := g) (go := go) (d := d) (by rw [← h]; exact hw))
  have HNt := Lib.hid hr
  obtain ⟨a, c, a', c', rfl, -, -⟩ := net_open hr
  obtain ⟨b, d, rfl⟩ := PatternS_open hw
  obtain ⟨_, _, he, hlc, hlm, -⟩ := pats_open hw
  simp at he
  obtain ⟨rfl, rfl⟩ := he
  clear hr hw hf hs
  cases hs : servB n p xs stop with
  | false =>
    have hb : boB n p xs stop = false := by unfold boB; rw [hs]; rfl
    rw [hs] at HR
    rw [boF_no hb, hb]
    clear hb hs HPt HPc HNt
    go_enter Try.func29, Try.ntmps29
    go_wp2_with fail
    obtain ⟨wa, hwa⟩ : ∃ wa : World, wa = (((w.alloc (.cells #[.slice a n.stops.length c, .slice a' n.lines.length c'] 27)).alloc (.cells #[.int .i64 p] 3)).alloc (.cells #[.slice b xs.length d] 28)).alloc (.cells #[.int .i64 stop] 3) := ⟨_, rfl⟩
    have hba : Below w.heap.size w wa := by rw [hwa]; exact ((((Below.refl _ _).alloc (Nat.le_refl _) _).alloc (by simp) _).alloc (by simp; omega) _).alloc (by simp; omega) _
    have hza : wa.heap.size = w.heap.size + 4 := by rw [hwa]; simp
    have n0 : wa.cell? ⟨w.heap.size, 0, none⟩ = some (.slice a n.stops.length c) := by rw [hwa]; go_simp
    have n1 : wa.cell? ⟨w.heap.size, 1, none⟩ = some (.slice a' n.lines.length c') := by rw [hwa]; go_simp
    have pe : wa.cell? ⟨w.heap.size + 1, 0, none⟩ = some (.int .i64 p) := by rw [hwa]; go_simp
    have li : wa.cell? ⟨w.heap.size + 1 + 1, 0, none⟩ = some (.slice b xs.length d) := by rw [hwa]; go_simp
    have sp : wa.cell? ⟨w.heap.size + 1 + 1 + 1, 0, none⟩ = some (.int .i64 stop) := by rw [hwa]; go_simp
    rw [← hwa]
    clear hwa
    go_at_call 63
    refine (HR.out _ hba).mono ?_
    rintro e w1 ⟨⟨v2, rfl, ho2⟩, hb1⟩
    have n0 := bkeep hb1 n0
    have n1 := bkeep hb1 n1
    have pe := bkeep hb1 pe
    have li := bkeep hb1 li
    have sp := bkeep hb1 sp
    have HB1 : Hid (Below w.heap.size w w1 ∧ w.heap.size + 4 ≤ w1.heap.size) := ⟨hba.trans (hb1.mono hba.size), by have := hb1.size; omega⟩
    obtain ⟨_, _, rfl⟩ := own_shape ho2
    clear hb1 hba hza ho2 HR
    go_wp2_with fail
    go_ret3
    exact ⟨⟨_, rfl, row_new _ _ HB1.out.1.size⟩, HB1.out.1.alloc HB1.out.1.size _⟩
  | true =>
    rw [hs] at HR
    by_cases hp : p ≤ 20
    · have hb : boB n p xs stop = true := by unfold boB; rw [hs]; simp [hp]
      have hd : decide ((20 : Int) < p) = false := decide_eq_false (by omega)
      obtain ⟨hgood, -, h0⟩ := boB_iff hb
      have hp1 := hgood.2.1.1
      have hL := hgood.2.2.1
      have hmany := manyN_in (p := p) ⟨hp1, hp⟩ hL
      obtain ⟨q, hq⟩ := Int.eq_ofNat_of_zero_le (show 0 ≤ p by omega)
      have hM : manyN p xs.length = q ^ (xs.length - 1) := by unfold manyN; rw [hq]; rfl
      have hbin := bestA_in (n := n) (xs := xs) (stop := stop) hp1 h0 (q ^ (xs.length - 1))
      rw [hM] at hmany
      rw [boF_yes hb, hb, hM]
      obtain ⟨g, go, rfl, hgb, -, -⟩ := pat_at HPt.out 0 (by omega)
      have HEm := Lib.hid (fun W G bs sml hE hW hA => eachMove_any n a a' c c' g go d q p stop xs w W G bs sml HNt.out hgood hlc h0 hq (HPc.out g go d rfl) hE hW hA)
      obtain ⟨R1, hR1⟩ : ∃ R, (bestA n p xs stop (q ^ (xs.length - 1))).1 = R := ⟨_, rfl⟩
      obtain ⟨R2, hR2⟩ : ∃ R, (bestA n p xs stop (q ^ (xs.length - 1))).2 = R := ⟨_, rfl⟩
      rw [hR1, hR2]
      rw [hR2] at hbin
      have HRR := Lib.hid (And.intro hR1 (And.intro hR2 hmany.1))
      obtain ⟨i0, hi0, hz0, hz1, hz2⟩ := info_parts infoInt
      have hpw : IntKind.i64.wrap (p + 1) = p + 1 := IntWalk.i64_in _ (by omega)
      have hL3 : (xs.length : Int) ≤ 3 := by omega
      have hL0 : (0 : Int) ≤ (xs.length : Int) := by omega
      clear hb hs HPt HPc HNt hM hgood hmany hq h0 hR1 hR2
      go_enter Try.func29, Try.ntmps29
      go_wp2_with fail
      obtain ⟨wa, hwa⟩ : ∃ wa : World, wa = (((w.alloc (.cells #[.slice a n.stops.length c, .slice a' n.lines.length c'] 27)).alloc (.cells #[.int .i64 p] 3)).alloc (.cells #[.slice (some ⟨g, go, none⟩) xs.length d] 28)).alloc (.cells #[.int .i64 stop] 3) := ⟨_, rfl⟩
      have hba : Below w.heap.size w wa := by rw [hwa]; exact ((((Below.refl _ _).alloc (Nat.le_refl _) _).alloc (by simp) _).alloc (by simp; omega) _).alloc (by simp; omega) _
      have hza : wa.heap.size = w.heap.size + 4 := by rw [hwa]; simp
      have n0 : wa.cell? ⟨w.heap.size, 0, none⟩ = some (.slice a n.stops.length c) := by rw [hwa]; go_simp
      have n1 : wa.cell? ⟨w.heap.size, 1, none⟩ = some (.slice a' n.lines.length c') := by rw [hwa]; go_simp
      have pe : wa.cell? ⟨w.heap.size + 1, 0, none⟩ = some (.int .i64 p) := by rw [hwa]; go_simp
      have li : wa.cell? ⟨w.heap.size + 1 + 1, 0, none⟩ = some (.slice (some ⟨g, go, none⟩) xs.length d) := by rw [hwa]; go_simp
      have sp : wa.cell? ⟨w.heap.size + 1 + 1 + 1, 0, none⟩ = some (.int .i64 stop) := by rw [hwa]; go_simp
      rw [← hwa]
      clear hwa
      go_at_call 63
      refine (HR.out _ hba).mono ?_
      rintro e w1 ⟨⟨v2, rfl, ho2⟩, hb1⟩
      have n0 := bkeep hb1 n0
      have n1 := bkeep hb1 n1
      have pe := bkeep hb1 pe
      have li := bkeep hb1 li
      have sp := bkeep hb1 sp
      have HB1 : Hid (Below w.heap.size w w1 ∧ w.heap.size + 4 ≤ w1.heap.size) := ⟨hba.trans (hb1.mono hba.size), by have := hb1.size; omega⟩
      obtain ⟨_, _, rfl⟩ := own_shape ho2
      clear hb1 hba hza ho2 HR
      have hE0 : EB w (.slice a n.stops.length c) (.slice a' n.lines.length c') (.slice (some ⟨g, go, none⟩) xs.length d) p stop w1.heap.size [zP, zP, zP] (p + 1) ((w1.alloc (.cells #[.int .i64 0, .int .i64 0, .int .i64 0, .int .i64 0, .int .i64 0, .int .i64 0] 89)).alloc (.cells #[.int .i64 (p + 1)] 3)) := by
        have h4 := HB1.out.2
        refine ⟨(HB1.out.1.alloc HB1.out.1.size _).alloc (by simp; omega) _, h4, by simp, acell (acell n0 _) _, acell (acell n1 _) _, acell (acell pe _) _, acell (acell li _) _, acell (acell sp _) _, ?_, ?_⟩
        · refine World.ownsRow.alloc ?_ _
          exact own_block_mkB (by omega) (heap_new _ _) (by decide) rfl
        · refine own_block_mkB (by omega) ?_ (by decide) rfl
          have h := heap_new (w1.alloc (.cells #[.int .i64 0, .int .i64 0, .int .i64 0, .int .i64 0, .int .i64 0, .int .i64 0] 89)) (.cells #[.int .i64 (p + 1)] 3)
          rw [World.size_alloc] at h
          exact h
      have HC := Lib.hid (HEm.out _ w1.heap.size [zP, zP, zP] (p + 1) hE0 (by simp) ⟨rfl, rfl, fun h => by omega⟩)
      unfold seeV at HC
      have pe1 := acell pe (.cells #[.int .i64 0, .int .i64 0, .int .i64 0, .int .i64 0, .int .i64 0, .int .i64 0] 89)
      have li1 := acell li (.cells #[.int .i64 0, .int .i64 0, .int .i64 0, .int .i64 0, .int .i64 0, .int .i64 0] 89)
      have pe2 := acell pe1 (.cells #[.int .i64 (p + 1)] 3)
      have li2 := acell li1 (.cells #[.int .i64 (p + 1)] 3)
      clear hE0 HEm
      go_wp2_with fail
      go_at_call 72
      refine HC.out.mono ?_
      rintro e w3 ⟨rfl, bs, sml, hE, hA⟩
      have hbl := hA.1
      have hsm : sml = R2 := hA.2.1.trans HRR.out.2.1
      have hof : Hid ((bs.take xs.length).map (fun x => x.offs) = R1) := (hA.2.2 HRR.out.2.2).trans HRR.out.1
      subst hsm
      have li : w3.cell? ⟨w.heap.size + 1 + 1, 0, none⟩ = some (.slice (some ⟨g, go, none⟩) xs.length d) := hE.li
      have li3 := acell li (.cells #[] 3)
      have hG := hE.hG
      have hbel := hE.bel
      have ce := hE.sm.cellAt 0 (by omega)
      simp only [List.getElem?_cons_zero] at ce
      have HBe := Lib.hid hE.be
      have HB3 : Hid (Below w.heap.size w w3) := hbel
      have HRow := Lib.hid (row_new w3 w3.heap.size (Nat.le_refl _))
      have hle3 := hbel.size
      clear hE hA HC hbel n0 n1 pe sp HRR pe1 li1 pe2 li2
      go_wp2_with fail
      go_loopw [15, 44] (fun o q0 wr => ∃ k : Nat, k ≤ xs.length ∧ q0 = .int .i64 (k : Int) ∧ Hid (o.ownBlock ≠ none ∧ wr.ownsRow w3.heap.size 3 1 o k (ints ((bs.take k).map (fun x => x.offs)))) ∧ Hid (Below w3.heap.size w3 wr))
        (fun _ q0 _ => xs.length - (RowKit.intOf q0).toNat)
      case atStart => exact ⟨0, Nat.zero_le _, rfl, ⟨by simp [Value.ownBlock], HRow.out⟩, (Below.refl _ _).alloc (Nat.le_refl _) _⟩
      case round =>
        clear HRow
        obtain ⟨k, hk, rfl, HOwn, HB⟩ := hrel
        obtain ⟨og, oc, rfl, hoc, hom, hogl, hogb, -⟩ := own_open HOwn.out.2 HOwn.out.1
        have hz := HB.out.size
        by_cases hlt : k < xs.length
        · have hkb : k < bs.length := by omega
          have hk1 : (k : Int) < (xs.length : Int) := by omega
          have y0 : wr.cell? ⟨w1.heap.size, k * 2, none⟩ = some (.int .i64 bs[k].line) := by
            have h := HBe.out.cellAt (k * 2) (by omega)
            rw [patC_get0 bs k hkb] at h; exact bkeep HB.out h
          have y1 : wr.cell? ⟨w1.heap.size, k * 2 + 1, none⟩ = some (.int .i64 bs[k].offs) := by
            have h := HBe.out.cellAt (k * 2 + 1) (by omega)
            rw [patC_get1 bs k hkb] at h; exact bkeep HB.out h
          have HSucc := Lib.hid (offs_succ hkb)
          generalize bs[k].line = xl at *
          generalize bs[k].offs = xo at *
          go_wp2_with (at_builtin; refine wpList_append_own _ rfl _ _ 31 rfl w3.heap.size 3 i0 (.int .i64 0) 1 8 Try.underlying31 hi0 hz0 hz1 hz2 rfl (by decide) _ _ _ rfl ((HOwn.out.2.alloc _).alloc _) ⟨wr.heap.size + 1, 0, none⟩ 1 1 [.int .i64 xo] rfl rfl ?c1 ?c2 ?c3 ?c4 ?c5 ?_)
          try (case c1 => exact one_newN _ _ _ (by simp))
          case c2 => first | rfl | (intro u hu; simp at hu; subst hu; rfl)
          case c3 => first | omega | (unfold maxLen; omega)
          case c4 => omega
          case c5 => first | omega | (simp; omega)
          intro v' w5 hown' hgrow _
          have HB5 : Hid (Below w3.heap.size w3 w5) := ((HB.out.alloc hz _).alloc (by simp; omega) _).grown hgrow (by simp; omega) (fun g hg => by have := (HOwn.out.2.lt g hg).1; omega)
          have HRr : Hid (v'.ownBlock ≠ none ∧ w5.ownsRow w3.heap.size 3 1 v' (k + 1) (ints ((bs.take (k + 1)).map (fun x => x.offs)))) := by
            refine ⟨own_someE hown' (by omega), ?_⟩
            rw [HSucc.out]; simpa [ints] using hown'
          clear hown' hgrow
          go_wp2_with fail
          go_roundw
          case rel => exact ⟨k + 1, by omega, by go_num, HRr, HB5⟩
          case measure => simp [RowKit.intOf]; omega
        · obtain rfl : k = xs.length := by omega
          have hlenR : R1.length = xs.length := by rw [← hof.out, List.length_map, List.length_take]; omega
          have HX : Hid (wr.drew.ownsRow w.heap.size 3 1 (.slice (some ⟨og, 0, none⟩) xs.length oc) R1.length (ints R1)) := by
            show World.ownsRow _ _ _ _ _ _ _
            rw [hlenR, ← hof.out]; exact own_later (own_base HOwn.out.2 hle3) (Below.refl _ _).drew
          have HX2 : Hid (∀ m, (wr.drewN m).ownsRow w.heap.size 3 1 (.slice (some ⟨og, 0, none⟩) xs.length oc) R1.length (ints R1)) := fun m => by
            rw [hlenR, ← hof.out]; exact own_later (own_base HOwn.out.2 hle3) (below_drewN (Below.refl _ _) m)
          have HBf : Hid (Below w.heap.size w wr) := HB3.out.trans (HB.out.mono hle3)
          have ce := bkeep HB.out ce
          clear HOwn hlenR
          go_wp2_with fail
          go_quiet (fail)
          go_wp2_with fail
          go_ret3
          exact ⟨⟨_, rfl, HX2.out _⟩, below_drewN HBf.out _⟩
    · have hb : boB n p xs stop = false := by unfold boB; rw [hs]; simp [hp]
      have hd : decide ((20 : Int) < p) = true := decide_eq_true (by omega)
      rw [boF_no hb, hb]
      clear hb hs HPt HPc HNt
      go_enter Try.func29, Try.ntmps29
      go_wp2_with fail
      obtain ⟨wa, hwa⟩ : ∃ wa : World, wa = (((w.alloc (.cells #[.slice a n.stops.length c, .slice a' n.lines.length c'] 27)).alloc (.cells #[.int .i64 p] 3)).alloc (.cells #[.slice b xs.length d] 28)).alloc (.cells #[.int .i64 stop] 3) := ⟨_, rfl⟩
      have hba : Below w.heap.size w wa := by rw [hwa]; exact ((((Below.refl _ _).alloc (Nat.le_refl _) _).alloc (by simp) _).alloc (by simp; omega) _).alloc (by simp; omega) _
      have hza : wa.heap.size = w.heap.size + 4 := by rw [hwa]; simp
      have n0 : wa.cell? ⟨w.heap.size, 0, none⟩ = some (.slice a n.stops.length c) := by rw [hwa]; go_simp
      have n1 : wa.cell? ⟨w.heap.size, 1, none⟩ = some (.slice a' n.lines.length c') := by rw [hwa]; go_simp
      have pe : wa.cell? ⟨w.heap.size + 1, 0, none⟩ = some (.int .i64 p) := by rw [hwa]; go_simp
      have li : wa.cell? ⟨w.heap.size + 1 + 1, 0, none⟩ = some (.slice b xs.length d) := by rw [hwa]; go_simp
      have sp : wa.cell? ⟨w.heap.size + 1 + 1 + 1, 0, none⟩ = some (.int .i64 stop) := by rw [hwa]; go_simp
      rw [← hwa]
      clear hwa
      go_at_call 63
      refine (HR.out _ hba).mono ?_
      rintro e w1 ⟨⟨v2, rfl, ho2⟩, hb1⟩
      have n0 := bkeep hb1 n0
      have n1 := bkeep hb1 n1
      have pe := bkeep hb1 pe
      have li := bkeep hb1 li
      have sp := bkeep hb1 sp
      have HB1 : Hid (Below w.heap.size w w1 ∧ w.heap.size + 4 ≤ w1.heap.size) := ⟨hba.trans (hb1.mono hba.size), by have := hb1.size; omega⟩
      obtain ⟨_, _, rfl⟩ := own_shape ho2
      clear hb1 hba hza ho2 HR
      go_wp2_with fail
      go_ret3
      exact ⟨⟨_, rfl, row_new _ _ HB1.out.1.size⟩, HB1.out.1.alloc HB1.out.1.size _⟩

end Go.Proofs.Ytfgkfdkdjegaiaa
