import Derived.Test.YtfgkfdkdjegaiaaMk29
import Derived.Test.YtfgkfdkdjegaiaaMk30
import Derived.OrdersHeld
import Derived.Deep.RegionHeld
import Derived.Deep.RegionLaw
namespace Go.Proofs.Ytfgkfdkdjegaiaa
open Go.RowKit
set_option linter.unusedVariables false
set_option linter.unusedSimpArgs false

set_option maxRecDepth 100000 in
set_option maxHeartbeats 8000000 in
theorem restsAt_any (nv lv : Value) (n : NetD) (p : Int) (xs : List PatternD) (stop : Int) (w : World) (hr : NetAt w nv n) (hw : PatternsAt w lv xs) (h : PatsGood n p xs) :
    Calls Try.prog 62 #[nv, .int .i64 p, lv, .int .i64 stop] w fun e w' => (∃ v', e = .returned v' ∧ w'.ownsRow w.heap.size 3 1 v' (restS n p xs stop).length (ints (restS n p xs stop))) ∧ Below w.heap.size w w' := by
  have HR := Lib.hid (fun k (hk : k < xs.length) W (hW : Below w.heap.size w W) => restOf_any nv n p xs[k] stop W (hr.below rfl hW) h.1 h.2.1 (h.2.2.2 k hk))
  have HMem := Lib.hid (fun k => restU_mem (n := n) (xs := xs) (stop := stop) (k := k) h.2.1.1)
  have hx3 := h.2.2.1
  have hp := h.2.1
  have HIn := Lib.hid (fun x => rest_in (n := n) hp.1 x stop)
  obtain ⟨a, c, a', c', rfl, -, -⟩ := net_open hr
  have HT := Lib.hid hw
  obtain ⟨b, d, rfl⟩ := PatternS_open hw
  clear hr hw h
  obtain ⟨i0, hi0, hz0, hz1, hz2⟩ := info_parts infoInt
  go_enter Try.func62, Try.ntmps62
  go_wp2_with fail
  go_loopw [9, 17] (fun o q wr => ∃ k : Nat, k ≤ xs.length ∧ q = .int .i64 k ∧ Hid (o.ownBlock ≠ none ∧ wr.ownsRow (w.heap.size + 1) 3 1 o (restU n p xs stop k).length (ints (restU n p xs stop k))) ∧ wr.cell? ⟨w.heap.size, 0, none⟩ = some (.slice a n.stops.length c) ∧ wr.cell? ⟨w.heap.size, 1, none⟩ = some (.slice a' n.lines.length c') ∧ Hid (Below w.heap.size w wr ∧ w.heap.size < wr.heap.size))
    (fun _ q _ => xs.length - (RowKit.intOf q).toNat)
  case atStart =>
    refine ⟨0, Nat.zero_le _, rfl, ⟨by simp [Value.ownBlock], ?_⟩, by go_simp, by go_simp, ⟨((Below.refl _ _).alloc (Nat.le_refl _) _).alloc (by simp) _, by simp <;> omega⟩⟩
    have h := row_new (w.alloc (.cells #[.slice a n.stops.length c, .slice a' n.lines.length c'] 27 (0, 0))) (w.heap.size + 1) (by simp)
    simp only [World.size_alloc] at h
    exact h
  case round =>
    obtain ⟨k, hk, rfl, HOwn, p0, p1, HB⟩ := hrel
    obtain ⟨og, oc, rfl, hoc, hom, hogl, hogb, -⟩ := own_open HOwn.out.2 HOwn.out.1
    have hz := HB.out.2
    have hll := restU_len n p xs stop k
    by_cases hlt : k < xs.length
    · obtain ⟨g, go, rfl, hgb, y0, y1⟩ := pat_at (HT.out.below rfl HB.out.1) k hlt
      have hk1 : (k : Int) < (xs.length : Int) := by omega
      have HYes := Lib.hid (restU_yes (n := n) (p := p) (stop := stop) hlt)
      have HNo := Lib.hid (restU_no (n := n) (p := p) (stop := stop) hlt)
      have HRk := Lib.hid (HR.out k hlt)
      have hri := HIn.out xs[k]
      generalize restI n p xs[k] stop = r at *
      generalize xs[k] = x at *
      obtain ⟨xl, xo⟩ := x
      unfold patV at HRk
      simp only at *
      obtain ⟨wo, hwo⟩ : ∃ wo : World, wo = wr.alloc (.cells #[.int .i64 xl, .int .i64 xo] 45) := ⟨_, rfl⟩
      have HO1 : Hid (wo.ownsRow (w.heap.size + 1) 3 1 (.slice (some ⟨og, 0, none⟩) (restU n p xs stop k).length oc) (restU n p xs stop k).length (ints (restU n p xs stop k))) := by show World.ownsRow _ _ _ _ _ _ _; rw [hwo]; exact HOwn.out.2.alloc _
      have HB1 : Hid (Below w.heap.size w wo ∧ w.heap.size < wo.heap.size) := by rw [hwo]; exact ⟨HB.out.1.alloc (by omega) _, by simp; omega⟩
      have q0 : wo.cell? ⟨w.heap.size, 0, none⟩ = some (.slice a n.stops.length c) := by rw [hwo]; exact acell p0 _
      have q1 : wo.cell? ⟨w.heap.size, 1, none⟩ = some (.slice a' n.lines.length c') := by rw [hwo]; exact acell p1 _
      go_wp2_with fail
      rw [← hwo]
      go_at_call 78
      refine (HRk.out _ HB1.out.1).mono ?_
      rintro e w2 ⟨rfl, hb2⟩
      have HO2 := Lib.hid (own_later HO1.out hb2)
      have q0 := bkeep hb2 q0
      have q1 := bkeep hb2 q1
      have HB2 : Hid (Below w.heap.size w w2 ∧ w.heap.size < w2.heap.size) := ⟨HB1.out.1.trans (hb2.mono HB1.out.1.size), by have := hb2.size; have := HB1.out.2; omega⟩
      clear hb2 HO1 HB1 HB p0 p1 hwo hogl y0 y1 HRk
      by_cases hneg : r < 0
      · rw [restT_no hneg]
        have HSucc := Lib.hid (HNo.out hneg)
        have HRr : Hid ((Value.slice (some ⟨og, 0, none⟩) (restU n p xs stop k).length oc).ownBlock ≠ none ∧ w2.ownsRow (w.heap.size + 1) 3 1 (.slice (some ⟨og, 0, none⟩) (restU n p xs stop k).length oc) (restU n p xs stop (k + 1)).length (ints (restU n p xs stop (k + 1)))) := by show _ ∧ World.ownsRow _ _ _ _ _ _ _; rw [HSucc.out]; exact ⟨HOwn.out.1, HO2.out⟩
        clear HYes HNo HOwn
        go_wp2_with fail
        go_roundw
        case rel => exact ⟨k + 1, by omega, by go_num, HRr, q0, q1, HB2⟩
        case measure => simp [RowKit.intOf]; omega
      · rw [restT_yes (by omega)]
        have HSucc := Lib.hid (HYes.out (by omega))
        have hz := HB2.out.2
        clear HYes HNo
        go_wp2_with (at_builtin; refine wpList_append_own _ rfl _ _ 31 rfl (w.heap.size + 1) 3 i0 (.int .i64 0) 1 8 Try.underlying31 hi0 hz0 hz1 hz2 rfl (by decide) _ _ _ rfl (HO2.out.alloc _) ⟨w2.heap.size, 0, none⟩ 1 1 [.int .i64 r] rfl rfl ?c1 ?c2 ?c3 ?c4 ?c5 ?_)
        try (case c1 => exact one_newN _ _ _ (by simp))
        case c2 => first | rfl | (intro u hu; simp at hu; subst hu; rfl)
        case c3 => first | omega | (unfold maxLen; omega)
        case c4 => omega
        case c5 => first | omega | (simp; omega)
        intro v' w3 hown' hgrow _
        have ho : Value.ownBlock (.slice (some ⟨og, 0, none⟩) (restU n p xs stop k).length oc) ≠ some w.heap.size := fun e => by have := (HO2.out.lt w.heap.size e).1; omega
        have HB3 : Hid (Below w.heap.size w w3 ∧ w.heap.size < w3.heap.size) := ⟨(HB2.out.1.alloc (by omega) _).grown hgrow (by simp; omega) (fun g hg => by have := (HO2.out.lt g hg).1; omega), by have := hgrow.size; simp at this; omega⟩
        have q0 : w3.cell? ⟨w.heap.size, 0, none⟩ = some (.slice a n.stops.length c) := hgrow.cell (acell q0 _) (fun e => ho e.symm)
        have q1 : w3.cell? ⟨w.heap.size, 1, none⟩ = some (.slice a' n.lines.length c') := hgrow.cell (acell q1 _) (fun e => ho e.symm)
        have HRr : Hid (v'.ownBlock ≠ none ∧ w3.ownsRow (w.heap.size + 1) 3 1 v' (restU n p xs stop (k + 1)).length (ints (restU n p xs stop (k + 1)))) := by
          refine ⟨own_someE hown' (by omega), ?_⟩
          rw [HSucc.out]; simpa [ints] using hown'
        clear hown' hgrow ho
        go_wp2_with fail
        go_roundw
        case rel => exact ⟨k + 1, by omega, by go_num, HRr, q0, q1, HB3⟩
        case measure => simp [RowKit.intOf]; omega
    · obtain rfl : k = xs.length := by omega
      have hlt1 : ¬ (xs.length : Int) < (xs.length : Int) := by omega
      have HSo := Lib.hid (sortInts_own _ _ (w.heap.size + 1) wr HOwn.out.2 HOwn.out.1 (by omega))
      rw [insAll_sort] at HSo
      have HLn : Hid ((restU n p xs stop xs.length).length = (restS n p xs stop).length) := by show _ = _; unfold restS; rw [insAll_len]
      go_wp2_with fail
      go_at_call 96
      refine HSo.out.mono ?_
      rintro e w2 ⟨rfl, hown, hb2⟩
      have HB2 : Hid (Below w.heap.size w w2) := HB.out.1.trans ((hb2 wr (Below.refl _ _)).mono (by omega))
      have hle : w.heap.size ≤ w.heap.size + 1 := by omega
      have HX := Lib.hid (own_base hown hle)
      clear hown hb2
      rw [HLn.out] at HX
      go_wp2_with fail
      go_ret
      exact ⟨⟨.slice (some ⟨og, 0, none⟩) (restU n p xs stop xs.length).length oc, rfl, by rw [HLn.out]; exact HX.out⟩, HB2.out⟩

theorem keepRs {W w w' : World} {p0 p1 p2 p3 : Addr} {x0 x1 x2 x3 : Value} (hb : Below w.heap.size w w') (h : w.cell? p0 = some x0 ∧ w.cell? p1 = some x1 ∧ w.cell? p2 = some x2 ∧ w.cell? p3 = some x3 ∧ Below W.heap.size W w) : w'.cell? p0 = some x0 ∧ w'.cell? p1 = some x1 ∧ w'.cell? p2 = some x2 ∧ w'.cell? p3 = some x3 ∧ Below W.heap.size W w' := keepX hb h

set_option maxRecDepth 100000 in
set_option maxHeartbeats 8000000 in
theorem l10Rests_any (nv lv : Value) (n : NetD) (p : Int) (xs : List PatternD) (stop : Int) (w : World) (hr : NetAt w nv n) (hw : PatternsAt w lv xs) (h : PatsGood n p xs) :
    Calls Try.prog 59 #[nv, .int .i64 p, lv, .int .i64 stop] w fun e w' => (∃ v', e = .returned v' ∧ w'.ownsRow w.heap.size 3 1 v' (restS n p xs stop).length (ints (restS n p xs stop))) ∧ Below w.heap.size w w' := by
  have HR := Lib.hid (fun k (hk : k < xs.length) W (hW : Below w.heap.size w W) => l10Rest_any nv n p xs[k] stop W (hr.below rfl hW) h.1 h.2.1 (h.2.2.2 k hk))
  have hx3 := h.2.2.1
  have hp := h.2.1
  have HIn := Lib.hid (fun x => rest_in (n := n) hp.1 x stop)
  obtain ⟨a, c, a', c', rfl, -, -⟩ := net_open hr
  have HT := Lib.hid hw
  obtain ⟨b, d, rfl⟩ := PatternS_open hw
  clear hr hw h
  obtain ⟨i0, hi0, hz0, hz1, hz2⟩ := info_parts infoInt
  go_enter Try.func59, Try.ntmps59
  go_wp2_with fail
  go_loopw [9, 10] (fun o q wr => ∃ k : Nat, k ≤ xs.length ∧ q = .int .i64 k ∧ Hid (o.ownBlock ≠ none ∧ wr.ownsRow (w.heap.size + 1) 3 1 o (insAll (restU n p xs stop k)).length (ints (insAll (restU n p xs stop k)))) ∧ wr.cell? ⟨w.heap.size, 0, none⟩ = some (.slice a n.stops.length c) ∧ wr.cell? ⟨w.heap.size, 1, none⟩ = some (.slice a' n.lines.length c') ∧ Hid (Below w.heap.size w wr ∧ w.heap.size < wr.heap.size))
    (fun _ q _ => xs.length - (RowKit.intOf q).toNat)
  case atStart =>
    refine ⟨0, Nat.zero_le _, rfl, ⟨by simp [Value.ownBlock], ?_⟩, by go_simp, by go_simp, ⟨((Below.refl _ _).alloc (Nat.le_refl _) _).alloc (by simp) _, by simp <;> omega⟩⟩
    have h := row_new (w.alloc (.cells #[.slice a n.stops.length c, .slice a' n.lines.length c'] 27 (0, 0))) (w.heap.size + 1) (by simp)
    simp only [World.size_alloc] at h
    exact h
  case round =>
    obtain ⟨k, hk, rfl, HOwn, p0, p1, HB⟩ := hrel
    have hll := restU_len n p xs stop k
    have hll2 : (insAll (restU n p xs stop k)).length ≤ xs.length := by rw [insAll_len]; exact hll
    by_cases hlt : k < xs.length
    · obtain ⟨oa0, oc0, hov⟩ := own_shape HOwn.out.2
      subst hov
      obtain ⟨g, go, rfl, hgb, y0, y1⟩ := pat_at (HT.out.below rfl HB.out.1) k hlt
      have hk1 : (k : Int) < (xs.length : Int) := by omega
      have HYes := Lib.hid (restU_yes (n := n) (p := p) (stop := stop) hlt)
      have HNo := Lib.hid (restU_no (n := n) (p := p) (stop := stop) hlt)
      have HRk := Lib.hid (HR.out k hlt)
      have hri := HIn.out xs[k]
      have HSort := Lib.hid (insAll_sorted (restU n p xs stop k))
      have HSn := Lib.hid (insAll_snoc (restU n p xs stop k))
      generalize restI n p xs[k] stop = r at *
      generalize xs[k] = x at *
      obtain ⟨xl, xo⟩ := x
      unfold patV at HRk
      simp only at *
      have HL : Hid ((insAll (restU n p xs stop k)).length ≤ 1048576) := by show _ ≤ _; omega
      go_wp2_with fail
      go_region_held3 (fun w' => w'.cell? ⟨w.heap.size, 0, none⟩ = some (.slice a n.stops.length c) ∧ w'.cell? ⟨w.heap.size, 1, none⟩ = some (.slice a' n.lines.length c') ∧ w'.cell? ⟨g, go + k * 2, none⟩ = some (.int .i64 xl) ∧ w'.cell? ⟨g, go + k * 2 + 1, none⟩ = some (.int .i64 xo) ∧ Below wr.heap.size wr w')
        (first | (exact ⟨p0, p1, y0, y1, (Below.refl _ _).drew⟩) | (exact keepRs hb (by assumption)))
        ((go_at_call 82; refine (HRk.out _ (HB.out.1.trans ((belX (by assumption)).mono HB.out.1.size))).mono ?_; rintro e w' ⟨rfl, hb⟩))
      obtain ⟨q0, q1, -, -, qb⟩ := (by assumption : _ ∧ _)
      rename World => w2
      have HOwn2 : Hid ((Value.slice oa0 (insAll (restU n p xs stop k)).length oc0).ownBlock ≠ none ∧ w2.ownsRow (w.heap.size + 1) 3 1 (Value.slice oa0 (insAll (restU n p xs stop k)).length oc0) (insAll (restU n p xs stop k)).length (ints (insAll (restU n p xs stop k)))) := ⟨HOwn.out.1, own_later HOwn.out.2 qb⟩
      have HB2 : Hid (Below w.heap.size w w2 ∧ w.heap.size < w2.heap.size) := ⟨HB.out.1.trans (qb.mono HB.out.1.size), by have := qb.size; have := HB.out.2; omega⟩
      clear HOwn HB qb p0 p1 y0 y1 HRk
      obtain ⟨og, oc, hov, hoc, hom, hogl, hogb, hcell⟩ := own_open HOwn2.out.2 HOwn2.out.1
      simp only [Value.slice.injEq, true_and] at hov
      obtain ⟨rfl, rfl⟩ := hov
      have HCell := Lib.hid hcell
      have hz := HB2.out.2
      clear hcell
      by_cases hneg : r < 0
      · have HSucc := Lib.hid (HNo.out hneg)
        have HRr : Hid ((Value.slice (some ⟨og, 0, none⟩) (insAll (restU n p xs stop k)).length oc0).ownBlock ≠ none ∧ w2.ownsRow (w.heap.size + 1) 3 1 (.slice (some ⟨og, 0, none⟩) (insAll (restU n p xs stop k)).length oc0) (insAll (restU n p xs stop (k + 1))).length (ints (insAll (restU n p xs stop (k + 1))))) := by show _ ∧ World.ownsRow _ _ _ _ _ _ _; rw [HSucc.out]; exact HOwn2.out
        clear HYes HNo HOwn2 HSn HCell
        go_wp2_with fail
        go_roundw
        case rel => exact ⟨k + 1, by omega, by go_num, HRr, q0, q1, HB2⟩
        case measure => simp [RowKit.intOf]; omega
      · have HSucc : Hid (insAll (restU n p xs stop (k + 1)) = insF r (insAll (restU n p xs stop k))) := by show _ = _; rw [HYes.out (by omega)]; exact HSn.out r
        clear HYes HNo HSn
        generalize hLd : insAll (restU n p xs stop k) = L at *
        clear hLd
        have hL := HL.out
        obtain ⟨oc, rfl⟩ : ∃ oc, oc = oc0 := ⟨_, rfl⟩
        go_wp2_with fail
        obtain ⟨wo, rfl⟩ : ∃ wo : World, wo = w2 := ⟨_, rfl⟩
        go_loop [12] (fun q => ∃ m : Nat, m ≤ L.length ∧ q = .int .i64 m ∧ Hid (∀ j (hj : j < L.length), m ≤ j → r < L[j])) (fun q => (RowKit.intOf q).toNat)
        case atStart => exact ⟨L.length, Nat.le_refl _, rfl, (fun j hj h => by omega)⟩
        case round =>
          obtain ⟨m, hm, rfl, HGt⟩ := hrel
          have hmc : (m : Int) ≤ (oc : Int) := by omega
          by_cases hpos : 0 < m
          · obtain ⟨j, rfl⟩ : ∃ j, m = j + 1 := ⟨m - 1, by omega⟩
            have hjl : j < L.length := by omega
            have hcj := HCell.out j _ (by rw [ints, List.getElem?_map, List.getElem?_eq_getElem hjl]; rfl)
            have e1 : decide ((0 : Int) < ((j + 1 : Nat) : Int)) = true := decide_eq_true (by omega)
            have e1' : decide ((0 : Int) < (j : Int) + 1) = true := decide_eq_true (by omega)
            have e2 : IntKind.i64.wrap ((j : Int) + 1 - 1) = (j : Int) := by rw [IntWalk.i64_in _ ⟨by omega, by omega⟩]; omega
            have e3 : IntKind.i64.wrap (j : Int) = (j : Int) := IntWalk.i64_in _ ⟨by omega, by omega⟩
            have e4 : (0 : Int) ≤ (j : Int) := by omega
            have e5 : (j : Int) < (L.length : Int) := by omega
            by_cases hcmp : r < L[j]
            · have HGt2 : Hid (∀ i (hi : i < L.length), j ≤ i → r < L[i]) := fun i hi h => by
                by_cases e : i = j
                · subst e; exact hcmp
                · exact HGt.out i hi (by omega)
              have e6 : decide (r < L[j]) = true := decide_eq_true hcmp
              clear HGt hcmp
              generalize L[j] = y at *
              go_wp2_with fail
              go_round
              case rel => exact ⟨j, by omega, by go_num, HGt2⟩
              case measure => simp [RowKit.intOf] <;> omega
            · have HIns : Hid (insAt r L = j + 1) := insAt_eq r L (j + 1) (by omega) (fun i hi h => by have := HSort.out i j (by omega) hjl; omega) (fun h => HGt.out (j + 1) h (Nat.le_refl _))
              have e6 : decide (r < L[j]) = false := decide_eq_false hcmp
              clear HGt hcmp
              generalize L[j] = y at *
              go_wp2_with fail
              have HN1 : Hid (∀ W, Below wo.heap.size wo W → ∀ i u, ((ints L).take (j + 1))[i]? = some u → W.cell? ((⟨og, 0, none⟩ : Addr).add i) = some u) := fun W h i u hu => by
                rw [addr_add, Nat.zero_add]
                refine bkeep h (HCell.out i u ?_)
                rw [List.getElem?_take] at hu
                split at hu
                · exact hu
                · cases hu
              have HN2' : Hid (∀ W, Below wo.heap.size wo W → ∀ i u, ((ints L).drop (j + 1))[i]? = some u → W.cell? ((⟨og, j + 1, none⟩ : Addr).add i) = some u) := fun W h i u hu => by
                rw [addr_add]
                rw [List.getElem?_drop] at hu
                exact bkeep h (HCell.out _ u hu)
              have hmo : ((j : Int) + 1 : Int) ≤ (oc : Int) := by omega
              have hml : ((j : Int) + 1 : Int) ≤ (L.length : Int) := by omega
              have hm0 : (0 : Int) ≤ ((j : Int) + 1 : Int) := by omega
              by_cases hcm : oc = j + 1
              · have HLm : Hid (L.length = j + 1) := by show _ = _; omega
                have HN2 : Hid (∀ W, Below wo.heap.size wo W → ∀ i u, ((ints L).drop (j + 1))[i]? = some u → W.cell? ((⟨og, 0, none⟩ : Addr).add i) = some u) := fun W h i u hu => by
                  rw [List.getElem?_drop, List.getElem?_eq_none (by have := HLm.out; simp [ints]; omega)] at hu; cases hu
                refine wp_region_held_drew (S := fun w' => Below wo.heap.size wo w') (by kernel_rfl) ?_ (fun hHeld => ?_)
                · first | exact Below.refl _ _ | exact (Below.refl _ _).drew | exact below_drewN (Below.refl _ _) _
                refine wpAnyH_take (i := 1) (v := ?_) (by simp only [List.getElem?_toArray, List.getElem?_cons_succ, List.getElem?_cons_zero]; rfl) (by kernel_rfl) (by kernel_rfl) (by kernel_rfl) (by exact fun _ _ _ h => h) (Or.inl ⟨by rfl, ?_⟩) (by assumption) ?_
                rotate_left
                · intro w' hSw; (try dsimp only at hSw); go_simp; try with_reducible rfl
                try simp only [Act.put, List.setIfInBounds_toArray, List.set_cons_zero, List.set_cons_succ]
                refine wpAnyH_take (i := 2) (v := ?_) (by simp only [List.getElem?_toArray, List.getElem?_cons_succ, List.getElem?_cons_zero]; rfl) (by kernel_rfl) (by kernel_rfl) (by kernel_rfl) (by exact fun _ _ _ h => h) (Or.inl ⟨by rfl, ?_⟩) (by assumption) ?_
                rotate_left
                · intro w' hSw; (try dsimp only at hSw); go_simp; try with_reducible rfl
                try simp only [Act.put, List.setIfInBounds_toArray, List.set_cons_zero, List.set_cons_succ]
                refine wpAnyH_take (i := 3) (v := ?_) (by simp only [List.getElem?_toArray, List.getElem?_cons_succ, List.getElem?_cons_zero]; rfl) (by kernel_rfl) (by kernel_rfl) (by kernel_rfl) (by exact fun _ _ _ h => h) (Or.inl ⟨by rfl, ?_⟩) (by assumption) ?_
                rotate_left
                · intro w' hSw; (try dsimp only at hSw); go_simp; try with_reducible rfl
                try simp only [Act.put, List.setIfInBounds_toArray, List.set_cons_zero, List.set_cons_succ]
                refine wpAnyH_take (i := 5) (v := ?_) (by simp only [List.getElem?_toArray, List.getElem?_cons_succ, List.getElem?_cons_zero]; rfl) (by kernel_rfl) (by kernel_rfl) (by kernel_rfl) (by exact fun _ _ _ h => h) (Or.inl ⟨by rfl, ?_⟩) (by assumption) ?_
                rotate_left
                · intro w' hSw; (try dsimp only at hSw); go_simp; try with_reducible rfl
                try simp only [Act.put, List.setIfInBounds_toArray, List.set_cons_zero, List.set_cons_succ]
                refine wpAnyH_take (i := 8) (v := ?_) (by simp only [List.getElem?_toArray, List.getElem?_cons_succ, List.getElem?_cons_zero]; rfl) (by kernel_rfl) (by kernel_rfl) (by kernel_rfl) (by exact fun _ _ _ h => h) (Or.inl ⟨by rfl, ?_⟩) (by assumption) ?_
                rotate_left
                · intro w' hSw; (try dsimp only at hSw); go_simp; try with_reducible rfl
                try simp only [Act.put, List.setIfInBounds_toArray, List.set_cons_zero, List.set_cons_succ]
                refine wpAnyH_take (i := 9) (v := ?_) (by simp only [List.getElem?_toArray, List.getElem?_cons_succ, List.getElem?_cons_zero]; rfl) (by kernel_rfl) (by kernel_rfl) (by kernel_rfl) (by exact fun _ _ _ h => h) (Or.inl ⟨by rfl, ?_⟩) (by assumption) ?_
                rotate_left
                · intro w' hSw; (try dsimp only at hSw); go_simp; try with_reducible rfl
                try simp only [Act.put, List.setIfInBounds_toArray, List.set_cons_zero, List.set_cons_succ]
                refine wpAnyH_take (i := 10) (v := ?_) (by simp only [List.getElem?_toArray, List.getElem?_cons_succ, List.getElem?_cons_zero]; rfl) (by kernel_rfl) (by kernel_rfl) (by kernel_rfl) (by exact fun _ _ _ h => h) (Or.inl ⟨by rfl, ?_⟩) (by assumption) ?_
                rotate_left
                · intro w' hSw; (try dsimp only at hSw); go_simp; try with_reducible rfl
                try simp only [Act.put, List.setIfInBounds_toArray, List.set_cons_zero, List.set_cons_succ]
                refine wpAnyH_ready (rs := [0, 6]) (by kernel_rfl) (by simp) ?_
                refine AllReadyH.cons (by simp only [List.getElem?_toArray, List.getElem?_cons_zero]; rfl) (fun K hK => ?_) (AllReadyH.cons (by simp only [List.getElem?_toArray, List.getElem?_cons_succ, List.getElem?_cons_zero]; rfl) (fun K hK => ?_) AllReadyH.nil)
                · go_simp
                  refine hK.out _ _ ?_ (fun hH0 => ?_)
                  · first | exact hHeld.alloc hHeld.size _ | exact ((Dr.refl wo).step _).below.alloc (Nat.le_refl _) _ | exact (Below.refl _ _).alloc (Nat.le_refl _) _
                  clear hK K
                  try simp only [Act.put, List.setIfInBounds_toArray, List.set_cons_zero, List.set_cons_succ]
                  refine wpAnyH_ready (rs := [4, 6]) (by kernel_rfl) (by simp) ?_
                  refine AllReadyH.cons (by simp only [List.getElem?_toArray, List.getElem?_cons_succ, List.getElem?_cons_zero]; rfl) (fun K hK => ?_) (AllReadyH.cons (by simp only [List.getElem?_toArray, List.getElem?_cons_succ, List.getElem?_cons_zero]; rfl) (fun K hK => ?_) AllReadyH.nil)
                  · rw [if_pos (by rfl)]
                    refine wp_append_own _ _ _ 31 rfl wo.heap.size 3 i0 (.int .i64 0) 1 8 Try.underlying31 hi0 hz0 hz1 hz2 rfl (by decide) _ _ _ rfl (litE0 wo.heap.size (_) _ (by simp) (by simp)) ⟨og, 0, none⟩ (j + 1) _ ((ints L).take ((j + 1))) rfl (by simp [ints] <;> omega) (HN1.out _ hH0) (fun u hu => ints_oneE L u (List.mem_of_mem_take hu)) (by unfold maxLen; omega) (by omega) hH0.size ?_
                    intro v1 w1 hown4 hg4 _
                    refine hK.out _ _ ?_ (fun hH4 => ?_)
                    · exact hH0.grown hg4 hH0.size (fun g hg => by cases hg; simp)
                    clear hK K
                    try simp only [Act.put, List.setIfInBounds_toArray, List.set_cons_zero, List.set_cons_succ]
                    refine wpAnyH_ready (rs := [6]) (by kernel_rfl) (by simp) ?_
                    refine AllReadyH.cons (by simp only [List.getElem?_toArray, List.getElem?_cons_succ, List.getElem?_cons_zero]; rfl) (fun K hK => ?_) AllReadyH.nil
                    go_simp
                    refine hK.out _ _ ?_ (fun hHc => ?_)
                    · exact hH4.alloc hH4.size _
                    clear hK K
                    try simp only [Act.put, List.setIfInBounds_toArray, List.set_cons_zero, List.set_cons_succ]
                    refine wpAnyH_ready (rs := [7]) (by kernel_rfl) (by simp) ?_
                    refine AllReadyH.cons (by simp only [List.getElem?_toArray, List.getElem?_cons_succ, List.getElem?_cons_zero]; rfl) (fun K hK => ?_) AllReadyH.nil
                    rw [if_pos (by rfl)]
                    refine wp_append_own _ _ _ 31 rfl wo.heap.size 3 i0 (.int .i64 0) 1 8 Try.underlying31 hi0 hz0 hz1 hz2 rfl (by decide) _ _ _ rfl (hown4.alloc _) ⟨w1.heap.size, 0, none⟩ 1 1 [.int .i64 r] rfl rfl (one_newN w1 _ _ rfl) (by intro u hu; simp at hu; subst hu; rfl) (by unfold maxLen; omega) (by omega) hHc.size ?_
                    intro v2 w2 hown7 hg7 _
                    refine hK.out _ _ ?_ (fun hH7 => ?_)
                    · exact hHc.grown hg7 hHc.size (fun g hg => (hown4.lt g hg).1)
                    clear hK K
                    try simp only [Act.put, List.setIfInBounds_toArray, List.set_cons_zero, List.set_cons_succ]
                    refine wpAnyH_ready (rs := [11]) (by kernel_rfl) (by simp) ?_
                    refine AllReadyH.cons (by simp only [List.getElem?_toArray, List.getElem?_cons_succ, List.getElem?_cons_zero]; rfl) (fun K hK => ?_) AllReadyH.nil
                    rw [if_pos (by rfl)]
                    refine wp_append_own _ _ _ 31 rfl wo.heap.size 3 i0 (.int .i64 0) 1 8 Try.underlying31 hi0 hz0 hz1 hz2 rfl (by decide) _ _ _ rfl hown7 ⟨og, 0, none⟩ (L.length - (j + 1)) _ ((ints L).drop ((j + 1))) rfl (by simp [ints]) (HN2.out _ hH7) (fun u hu => ints_oneE L u (List.mem_of_mem_drop hu)) (by unfold maxLen; omega) (by omega) hH7.size ?_
                    intro v3 w3 hown11 hg11 _
                    refine hK.out _ _ ?_ (fun hH11 => ?_)
                    · exact hH7.grown hg11 hH7.size (fun g hg => (hown7.lt g hg).1)
                    clear hK K
                    try simp only [Act.put, List.setIfInBounds_toArray, List.set_cons_zero, List.set_cons_succ]
                    refine wpAnyH_take (i := 12) (v := ?_) (by simp only [List.getElem?_toArray, List.getElem?_cons_succ, List.getElem?_cons_zero]; rfl) (by kernel_rfl) (by kernel_rfl) (by kernel_rfl) (by exact fun _ _ _ h => h) (Or.inl ⟨by rfl, ?_⟩) (by assumption) ?_
                    rotate_left
                    · intro w' hSw; (try dsimp only at hSw); go_simp; try with_reducible rfl
                    try simp only [Act.put, List.setIfInBounds_toArray, List.set_cons_zero, List.set_cons_succ]
                    refine wpAnyH_done (by kernel_rfl) ?_ _
                    have HR3 : Hid (w3.ownsRow (w.heap.size + 1) 3 1 v3 (insAll (restU n p xs stop (k + 1))).length (ints (insAll (restU n p xs stop (k + 1))))) := by
                      show w3.ownsRow _ _ _ _ _ _
                      have e1 := HSucc.out
                      have e2 := HIns.out
                      have e3 : insF r L = L.take (j + 1) ++ ([r] ++ L.drop (j + 1)) := by unfold insF; rw [e2]
                      rw [show (insAll (restU n p xs stop (k + 1))).length = 0 + (j + 1) + 1 + (L.length - (j + 1)) by rw [e1, e3]; simp; omega, show ints (insAll (restU n p xs stop (k + 1))) = [] ++ (ints L).take (j + 1) ++ [.int .i64 r] ++ (ints L).drop (j + 1) by rw [e1, e3]; simp [ints]]
                      exact own_base hown11 (by omega)
                    have HV3 := Lib.hid (own_someE hown11 (by omega))
                    have HH := Lib.hid hH11
                    clear hown11 hg11 hown7 hg7
                    have HB3 : Hid (Below w.heap.size w w3 ∧ w.heap.size < w3.heap.size) := ⟨HB2.out.1.trans (HH.out.mono (by omega)), by have := HH.out.size; omega⟩
                    have z0 := bkeep HH.out q0
                    have z1 := bkeep HH.out q1
                    clear HB2 q0 q1
                    go_wp2_with fail
                    exact ⟨⟨k + 1, by omega, by go_num, ⟨HV3.out, HR3.out⟩, z0, z1, HB3⟩, by simp [RowKit.intOf]; omega⟩
                  · go_simp
                    refine hK.out _ _ ?_ (fun hH6 => ?_)
                    · exact hH0.alloc hH0.size _
                    clear hK K
                    try simp only [Act.put, List.setIfInBounds_toArray, List.set_cons_zero, List.set_cons_succ]
                    refine wpAnyH_ready (rs := [4]) (by kernel_rfl) (by simp) ?_
                    refine AllReadyH.cons (by simp only [List.getElem?_toArray, List.getElem?_cons_succ, List.getElem?_cons_zero]; rfl) (fun K hK => ?_) AllReadyH.nil
                    rw [if_pos (by rfl)]
                    refine wp_append_own _ _ _ 31 rfl wo.heap.size 3 i0 (.int .i64 0) 1 8 Try.underlying31 hi0 hz0 hz1 hz2 rfl (by decide) _ _ _ rfl (((litE0 wo.heap.size (_) _ (by simp) (by simp))).alloc _) ⟨og, 0, none⟩ (j + 1) _ ((ints L).take ((j + 1))) rfl (by simp [ints] <;> omega) (HN1.out _ hH6) (fun u hu => ints_oneE L u (List.mem_of_mem_take hu)) (by unfold maxLen; omega) (by omega) hH6.size ?_
                    intro v1 w1 hown4 hg4 _
                    refine hK.out _ _ ?_ (fun hH4 => ?_)
                    · exact hH6.grown hg4 hH6.size (fun g hg => by cases hg; simp)
                    clear hK K
                    try simp only [Act.put, List.setIfInBounds_toArray, List.set_cons_zero, List.set_cons_succ]
                    have hHc := hH4
                    refine wpAnyH_ready (rs := [7]) (by kernel_rfl) (by simp) ?_
                    refine AllReadyH.cons (by simp only [List.getElem?_toArray, List.getElem?_cons_succ, List.getElem?_cons_zero]; rfl) (fun K hK => ?_) AllReadyH.nil
                    rw [if_pos (by rfl)]
                    refine wp_append_own _ _ _ 31 rfl wo.heap.size 3 i0 (.int .i64 0) 1 8 Try.underlying31 hi0 hz0 hz1 hz2 rfl (by decide) _ _ _ rfl hown4 ⟨wo.heap.size + 1, 0, none⟩ 1 1 [.int .i64 r] rfl rfl (one_keptE hg4 (one_newN _ _ (wo.heap.size + 1) (by simp)) (show Value.ownBlock (.slice (some ⟨wo.heap.size, 0, none⟩) 0 0) ≠ some (wo.heap.size + 1) by simp [Value.ownBlock])) (by intro u hu; simp at hu; subst hu; rfl) (by unfold maxLen; omega) (by omega) hHc.size ?_
                    intro v2 w2 hown7 hg7 _
                    refine hK.out _ _ ?_ (fun hH7 => ?_)
                    · exact hHc.grown hg7 hHc.size (fun g hg => (hown4.lt g hg).1)
                    clear hK K
                    try simp only [Act.put, List.setIfInBounds_toArray, List.set_cons_zero, List.set_cons_succ]
                    refine wpAnyH_ready (rs := [11]) (by kernel_rfl) (by simp) ?_
                    refine AllReadyH.cons (by simp only [List.getElem?_toArray, List.getElem?_cons_succ, List.getElem?_cons_zero]; rfl) (fun K hK => ?_) AllReadyH.nil
                    rw [if_pos (by rfl)]
                    refine wp_append_own _ _ _ 31 rfl wo.heap.size 3 i0 (.int .i64 0) 1 8 Try.underlying31 hi0 hz0 hz1 hz2 rfl (by decide) _ _ _ rfl hown7 ⟨og, 0, none⟩ (L.length - (j + 1)) _ ((ints L).drop ((j + 1))) rfl (by simp [ints]) (HN2.out _ hH7) (fun u hu => ints_oneE L u (List.mem_of_mem_drop hu)) (by unfold maxLen; omega) (by omega) hH7.size ?_
                    intro v3 w3 hown11 hg11 _
                    refine hK.out _ _ ?_ (fun hH11 => ?_)
                    · exact hH7.grown hg11 hH7.size (fun g hg => (hown7.lt g hg).1)
                    clear hK K
                    try simp only [Act.put, List.setIfInBounds_toArray, List.set_cons_zero, List.set_cons_succ]
                    refine wpAnyH_take (i := 12) (v := ?_) (by simp only [List.getElem?_toArray, List.getElem?_cons_succ, List.getElem?_cons_zero]; rfl) (by kernel_rfl) (by kernel_rfl) (by kernel_rfl) (by exact fun _ _ _ h => h) (Or.inl ⟨by rfl, ?_⟩) (by assumption) ?_
                    rotate_left
                    · intro w' hSw; (try dsimp only at hSw); go_simp; try with_reducible rfl
                    try simp only [Act.put, List.setIfInBounds_toArray, List.set_cons_zero, List.set_cons_succ]
                    refine wpAnyH_done (by kernel_rfl) ?_ _
                    have HR3 : Hid (w3.ownsRow (w.heap.size + 1) 3 1 v3 (insAll (restU n p xs stop (k + 1))).length (ints (insAll (restU n p xs stop (k + 1))))) := by
                      show w3.ownsRow _ _ _ _ _ _
                      have e1 := HSucc.out
                      have e2 := HIns.out
                      have e3 : insF r L = L.take (j + 1) ++ ([r] ++ L.drop (j + 1)) := by unfold insF; rw [e2]
                      rw [show (insAll (restU n p xs stop (k + 1))).length = 0 + (j + 1) + 1 + (L.length - (j + 1)) by rw [e1, e3]; simp; omega, show ints (insAll (restU n p xs stop (k + 1))) = [] ++ (ints L).take (j + 1) ++ [.int .i64 r] ++ (ints L).drop (j + 1) by rw [e1, e3]; simp [ints]]
                      exact own_base hown11 (by omega)
                    have HV3 := Lib.hid (own_someE hown11 (by omega))
                    have HH := Lib.hid hH11
                    clear hown11 hg11 hown7 hg7
                    have HB3 : Hid (Below w.heap.size w w3 ∧ w.heap.size < w3.heap.size) := ⟨HB2.out.1.trans (HH.out.mono (by omega)), by have := HH.out.size; omega⟩
                    have z0 := bkeep HH.out q0
                    have z1 := bkeep HH.out q1
                    clear HB2 q0 q1
                    go_wp2_with fail
                    exact ⟨⟨k + 1, by omega, by go_num, ⟨HV3.out, HR3.out⟩, z0, z1, HB3⟩, by simp [RowKit.intOf]; omega⟩
                · go_simp
                  refine hK.out _ _ ?_ (fun hH6 => ?_)
                  · first | exact hHeld.alloc hHeld.size _ | exact ((Dr.refl wo).step _).below.alloc (Nat.le_refl _) _ | exact (Below.refl _ _).alloc (Nat.le_refl _) _
                  clear hK K
                  try simp only [Act.put, List.setIfInBounds_toArray, List.set_cons_zero, List.set_cons_succ]
                  refine wpAnyH_ready (rs := [0]) (by kernel_rfl) (by simp) ?_
                  refine AllReadyH.cons (by simp only [List.getElem?_toArray, List.getElem?_cons_zero]; rfl) (fun K hK => ?_) AllReadyH.nil
                  go_simp
                  refine hK.out _ _ ?_ (fun hH0 => ?_)
                  · exact hH6.alloc hH6.size _
                  clear hK K
                  try simp only [Act.put, List.setIfInBounds_toArray, List.set_cons_zero, List.set_cons_succ]
                  refine wpAnyH_ready (rs := [4]) (by kernel_rfl) (by simp) ?_
                  refine AllReadyH.cons (by simp only [List.getElem?_toArray, List.getElem?_cons_succ, List.getElem?_cons_zero]; rfl) (fun K hK => ?_) AllReadyH.nil
                  rw [if_pos (by rfl)]
                  refine wp_append_own _ _ _ 31 rfl wo.heap.size 3 i0 (.int .i64 0) 1 8 Try.underlying31 hi0 hz0 hz1 hz2 rfl (by decide) _ _ _ rfl (litE0 wo.heap.size (_) _ (by simp) (by simp)) ⟨og, 0, none⟩ (j + 1) _ ((ints L).take ((j + 1))) rfl (by simp [ints] <;> omega) (HN1.out _ hH0) (fun u hu => ints_oneE L u (List.mem_of_mem_take hu)) (by unfold maxLen; omega) (by omega) hH0.size ?_
                  intro v1 w1 hown4 hg4 _
                  refine hK.out _ _ ?_ (fun hH4 => ?_)
                  · exact hH0.grown hg4 hH0.size (fun g hg => by cases hg; simp)
                  clear hK K
                  try simp only [Act.put, List.setIfInBounds_toArray, List.set_cons_zero, List.set_cons_succ]
                  have hHc := hH4
                  refine wpAnyH_ready (rs := [7]) (by kernel_rfl) (by simp) ?_
                  refine AllReadyH.cons (by simp only [List.getElem?_toArray, List.getElem?_cons_succ, List.getElem?_cons_zero]; rfl) (fun K hK => ?_) AllReadyH.nil
                  rw [if_pos (by rfl)]
                  refine wp_append_own _ _ _ 31 rfl wo.heap.size 3 i0 (.int .i64 0) 1 8 Try.underlying31 hi0 hz0 hz1 hz2 rfl (by decide) _ _ _ rfl hown4 ⟨wo.heap.size, 0, none⟩ 1 1 [.int .i64 r] rfl rfl (one_keptE hg4 (fun j u hu => acell (one_newN _ _ (wo.heap.size) rfl j u hu) (.cells #[] 3)) (show Value.ownBlock (.slice (some ⟨wo.heap.size + 1, 0, none⟩) 0 0) ≠ some wo.heap.size by simp [Value.ownBlock])) (by intro u hu; simp at hu; subst hu; rfl) (by unfold maxLen; omega) (by omega) hHc.size ?_
                  intro v2 w2 hown7 hg7 _
                  refine hK.out _ _ ?_ (fun hH7 => ?_)
                  · exact hHc.grown hg7 hHc.size (fun g hg => (hown4.lt g hg).1)
                  clear hK K
                  try simp only [Act.put, List.setIfInBounds_toArray, List.set_cons_zero, List.set_cons_succ]
                  refine wpAnyH_ready (rs := [11]) (by kernel_rfl) (by simp) ?_
                  refine AllReadyH.cons (by simp only [List.getElem?_toArray, List.getElem?_cons_succ, List.getElem?_cons_zero]; rfl) (fun K hK => ?_) AllReadyH.nil
                  rw [if_pos (by rfl)]
                  refine wp_append_own _ _ _ 31 rfl wo.heap.size 3 i0 (.int .i64 0) 1 8 Try.underlying31 hi0 hz0 hz1 hz2 rfl (by decide) _ _ _ rfl hown7 ⟨og, 0, none⟩ (L.length - (j + 1)) _ ((ints L).drop ((j + 1))) rfl (by simp [ints]) (HN2.out _ hH7) (fun u hu => ints_oneE L u (List.mem_of_mem_drop hu)) (by unfold maxLen; omega) (by omega) hH7.size ?_
                  intro v3 w3 hown11 hg11 _
                  refine hK.out _ _ ?_ (fun hH11 => ?_)
                  · exact hH7.grown hg11 hH7.size (fun g hg => (hown7.lt g hg).1)
                  clear hK K
                  try simp only [Act.put, List.setIfInBounds_toArray, List.set_cons_zero, List.set_cons_succ]
                  refine wpAnyH_take (i := 12) (v := ?_) (by simp only [List.getElem?_toArray, List.getElem?_cons_succ, List.getElem?_cons_zero]; rfl) (by kernel_rfl) (by kernel_rfl) (by kernel_rfl) (by exact fun _ _ _ h => h) (Or.inl ⟨by rfl, ?_⟩) (by assumption) ?_
                  rotate_left
                  · intro w' hSw; (try dsimp only at hSw); go_simp; try with_reducible rfl
                  try simp only [Act.put, List.setIfInBounds_toArray, List.set_cons_zero, List.set_cons_succ]
                  refine wpAnyH_done (by kernel_rfl) ?_ _
                  have HR3 : Hid (w3.ownsRow (w.heap.size + 1) 3 1 v3 (insAll (restU n p xs stop (k + 1))).length (ints (insAll (restU n p xs stop (k + 1))))) := by
                    show w3.ownsRow _ _ _ _ _ _
                    have e1 := HSucc.out
                    have e2 := HIns.out
                    have e3 : insF r L = L.take (j + 1) ++ ([r] ++ L.drop (j + 1)) := by unfold insF; rw [e2]
                    rw [show (insAll (restU n p xs stop (k + 1))).length = 0 + (j + 1) + 1 + (L.length - (j + 1)) by rw [e1, e3]; simp; omega, show ints (insAll (restU n p xs stop (k + 1))) = [] ++ (ints L).take (j + 1) ++ [.int .i64 r] ++ (ints L).drop (j + 1) by rw [e1, e3]; simp [ints]]
                    exact own_base hown11 (by omega)
                  have HV3 := Lib.hid (own_someE hown11 (by omega))
                  have HH := Lib.hid hH11
                  clear hown11 hg11 hown7 hg7
                  have HB3 : Hid (Below w.heap.size w w3 ∧ w.heap.size < w3.heap.size) := ⟨HB2.out.1.trans (HH.out.mono (by omega)), by have := HH.out.size; omega⟩
                  have z0 := bkeep HH.out q0
                  have z1 := bkeep HH.out q1
                  clear HB2 q0 q1
                  go_wp2_with fail
                  exact ⟨⟨k + 1, by omega, by go_num, ⟨HV3.out, HR3.out⟩, z0, z1, HB3⟩, by simp [RowKit.intOf]; omega⟩
              · have hcm2 : ¬ ((oc : Int) = ((j : Int) + 1 : Int)) := by omega
                have HN2 := HN2'
                refine wp_region_held_drew (S := fun w' => Below wo.heap.size wo w') (by kernel_rfl) ?_ (fun hHeld => ?_)
                · first | exact Below.refl _ _ | exact (Below.refl _ _).drew | exact below_drewN (Below.refl _ _) _
                refine wpAnyH_take (i := 1) (v := ?_) (by simp only [List.getElem?_toArray, List.getElem?_cons_succ, List.getElem?_cons_zero]; rfl) (by kernel_rfl) (by kernel_rfl) (by kernel_rfl) (by exact fun _ _ _ h => h) (Or.inl ⟨by rfl, ?_⟩) (by assumption) ?_
                rotate_left
                · intro w' hSw; (try dsimp only at hSw); go_simp; try with_reducible rfl
                try simp only [Act.put, List.setIfInBounds_toArray, List.set_cons_zero, List.set_cons_succ]
                refine wpAnyH_take (i := 2) (v := ?_) (by simp only [List.getElem?_toArray, List.getElem?_cons_succ, List.getElem?_cons_zero]; rfl) (by kernel_rfl) (by kernel_rfl) (by kernel_rfl) (by exact fun _ _ _ h => h) (Or.inl ⟨by rfl, ?_⟩) (by assumption) ?_
                rotate_left
                · intro w' hSw; (try dsimp only at hSw); go_simp; try with_reducible rfl
                try simp only [Act.put, List.setIfInBounds_toArray, List.set_cons_zero, List.set_cons_succ]
                refine wpAnyH_take (i := 3) (v := ?_) (by simp only [List.getElem?_toArray, List.getElem?_cons_succ, List.getElem?_cons_zero]; rfl) (by kernel_rfl) (by kernel_rfl) (by kernel_rfl) (by exact fun _ _ _ h => h) (Or.inl ⟨by rfl, ?_⟩) (by assumption) ?_
                rotate_left
                · intro w' hSw; (try dsimp only at hSw); go_simp; try with_reducible rfl
                try simp only [Act.put, List.setIfInBounds_toArray, List.set_cons_zero, List.set_cons_succ]
                refine wpAnyH_take (i := 5) (v := ?_) (by simp only [List.getElem?_toArray, List.getElem?_cons_succ, List.getElem?_cons_zero]; rfl) (by kernel_rfl) (by kernel_rfl) (by kernel_rfl) (by exact fun _ _ _ h => h) (Or.inl ⟨by rfl, ?_⟩) (by assumption) ?_
                rotate_left
                · intro w' hSw; (try dsimp only at hSw); go_simp; try with_reducible rfl
                try simp only [Act.put, List.setIfInBounds_toArray, List.set_cons_zero, List.set_cons_succ]
                refine wpAnyH_take (i := 8) (v := ?_) (by simp only [List.getElem?_toArray, List.getElem?_cons_succ, List.getElem?_cons_zero]; rfl) (by kernel_rfl) (by kernel_rfl) (by kernel_rfl) (by exact fun _ _ _ h => h) (Or.inl ⟨by rfl, ?_⟩) (by assumption) ?_
                rotate_left
                · intro w' hSw; (try dsimp only at hSw); go_simp; try with_reducible rfl
                try simp only [Act.put, List.setIfInBounds_toArray, List.set_cons_zero, List.set_cons_succ]
                refine wpAnyH_take (i := 9) (v := ?_) (by simp only [List.getElem?_toArray, List.getElem?_cons_succ, List.getElem?_cons_zero]; rfl) (by kernel_rfl) (by kernel_rfl) (by kernel_rfl) (by exact fun _ _ _ h => h) (Or.inl ⟨by rfl, ?_⟩) (by assumption) ?_
                rotate_left
                · intro w' hSw; (try dsimp only at hSw); go_simp; try with_reducible rfl
                try simp only [Act.put, List.setIfInBounds_toArray, List.set_cons_zero, List.set_cons_succ]
                refine wpAnyH_take (i := 10) (v := ?_) (by simp only [List.getElem?_toArray, List.getElem?_cons_succ, List.getElem?_cons_zero]; rfl) (by kernel_rfl) (by kernel_rfl) (by kernel_rfl) (by exact fun _ _ _ h => h) (Or.inl ⟨by rfl, ?_⟩) (by assumption) ?_
                rotate_left
                · intro w' hSw; (try dsimp only at hSw); go_simp; try with_reducible rfl
                try simp only [Act.put, List.setIfInBounds_toArray, List.set_cons_zero, List.set_cons_succ]
                refine wpAnyH_ready (rs := [0, 6]) (by kernel_rfl) (by simp) ?_
                refine AllReadyH.cons (by simp only [List.getElem?_toArray, List.getElem?_cons_zero]; rfl) (fun K hK => ?_) (AllReadyH.cons (by simp only [List.getElem?_toArray, List.getElem?_cons_succ, List.getElem?_cons_zero]; rfl) (fun K hK => ?_) AllReadyH.nil)
                · go_simp
                  refine hK.out _ _ ?_ (fun hH0 => ?_)
                  · first | exact hHeld.alloc hHeld.size _ | exact ((Dr.refl wo).step _).below.alloc (Nat.le_refl _) _ | exact (Below.refl _ _).alloc (Nat.le_refl _) _
                  clear hK K
                  try simp only [Act.put, List.setIfInBounds_toArray, List.set_cons_zero, List.set_cons_succ]
                  refine wpAnyH_ready (rs := [4, 6]) (by kernel_rfl) (by simp) ?_
                  refine AllReadyH.cons (by simp only [List.getElem?_toArray, List.getElem?_cons_succ, List.getElem?_cons_zero]; rfl) (fun K hK => ?_) (AllReadyH.cons (by simp only [List.getElem?_toArray, List.getElem?_cons_succ, List.getElem?_cons_zero]; rfl) (fun K hK => ?_) AllReadyH.nil)
                  · rw [if_pos (by rfl)]
                    refine wp_append_own _ _ _ 31 rfl wo.heap.size 3 i0 (.int .i64 0) 1 8 Try.underlying31 hi0 hz0 hz1 hz2 rfl (by decide) _ _ _ rfl (litE0 wo.heap.size (_) _ (by simp) (by simp)) ⟨og, 0, none⟩ (j + 1) _ ((ints L).take ((j + 1))) rfl (by simp [ints] <;> omega) (HN1.out _ hH0) (fun u hu => ints_oneE L u (List.mem_of_mem_take hu)) (by unfold maxLen; omega) (by omega) hH0.size ?_
                    intro v1 w1 hown4 hg4 _
                    refine hK.out _ _ ?_ (fun hH4 => ?_)
                    · exact hH0.grown hg4 hH0.size (fun g hg => by cases hg; simp)
                    clear hK K
                    try simp only [Act.put, List.setIfInBounds_toArray, List.set_cons_zero, List.set_cons_succ]
                    refine wpAnyH_ready (rs := [6]) (by kernel_rfl) (by simp) ?_
                    refine AllReadyH.cons (by simp only [List.getElem?_toArray, List.getElem?_cons_succ, List.getElem?_cons_zero]; rfl) (fun K hK => ?_) AllReadyH.nil
                    go_simp
                    refine hK.out _ _ ?_ (fun hHc => ?_)
                    · exact hH4.alloc hH4.size _
                    clear hK K
                    try simp only [Act.put, List.setIfInBounds_toArray, List.set_cons_zero, List.set_cons_succ]
                    refine wpAnyH_ready (rs := [7]) (by kernel_rfl) (by simp) ?_
                    refine AllReadyH.cons (by simp only [List.getElem?_toArray, List.getElem?_cons_succ, List.getElem?_cons_zero]; rfl) (fun K hK => ?_) AllReadyH.nil
                    rw [if_pos (by rfl)]
                    refine wp_append_own _ _ _ 31 rfl wo.heap.size 3 i0 (.int .i64 0) 1 8 Try.underlying31 hi0 hz0 hz1 hz2 rfl (by decide) _ _ _ rfl (hown4.alloc _) ⟨w1.heap.size, 0, none⟩ 1 1 [.int .i64 r] rfl rfl (one_newN w1 _ _ rfl) (by intro u hu; simp at hu; subst hu; rfl) (by unfold maxLen; omega) (by omega) hHc.size ?_
                    intro v2 w2 hown7 hg7 _
                    refine hK.out _ _ ?_ (fun hH7 => ?_)
                    · exact hHc.grown hg7 hHc.size (fun g hg => (hown4.lt g hg).1)
                    clear hK K
                    try simp only [Act.put, List.setIfInBounds_toArray, List.set_cons_zero, List.set_cons_succ]
                    refine wpAnyH_ready (rs := [11]) (by kernel_rfl) (by simp) ?_
                    refine AllReadyH.cons (by simp only [List.getElem?_toArray, List.getElem?_cons_succ, List.getElem?_cons_zero]; rfl) (fun K hK => ?_) AllReadyH.nil
                    rw [if_pos (by rfl)]
                    refine wp_append_own _ _ _ 31 rfl wo.heap.size 3 i0 (.int .i64 0) 1 8 Try.underlying31 hi0 hz0 hz1 hz2 rfl (by decide) _ _ _ rfl hown7 ⟨og, j + 1, none⟩ (L.length - (j + 1)) _ ((ints L).drop ((j + 1))) rfl (by simp [ints]) (HN2.out _ hH7) (fun u hu => ints_oneE L u (List.mem_of_mem_drop hu)) (by unfold maxLen; omega) (by omega) hH7.size ?_
                    intro v3 w3 hown11 hg11 _
                    refine hK.out _ _ ?_ (fun hH11 => ?_)
                    · exact hH7.grown hg11 hH7.size (fun g hg => (hown7.lt g hg).1)
                    clear hK K
                    try simp only [Act.put, List.setIfInBounds_toArray, List.set_cons_zero, List.set_cons_succ]
                    refine wpAnyH_take (i := 12) (v := ?_) (by simp only [List.getElem?_toArray, List.getElem?_cons_succ, List.getElem?_cons_zero]; rfl) (by kernel_rfl) (by kernel_rfl) (by kernel_rfl) (by exact fun _ _ _ h => h) (Or.inl ⟨by rfl, ?_⟩) (by assumption) ?_
                    rotate_left
                    · intro w' hSw; (try dsimp only at hSw); go_simp; try with_reducible rfl
                    try simp only [Act.put, List.setIfInBounds_toArray, List.set_cons_zero, List.set_cons_succ]
                    refine wpAnyH_done (by kernel_rfl) ?_ _
                    have HR3 : Hid (w3.ownsRow (w.heap.size + 1) 3 1 v3 (insAll (restU n p xs stop (k + 1))).length (ints (insAll (restU n p xs stop (k + 1))))) := by
                      show w3.ownsRow _ _ _ _ _ _
                      have e1 := HSucc.out
                      have e2 := HIns.out
                      have e3 : insF r L = L.take (j + 1) ++ ([r] ++ L.drop (j + 1)) := by unfold insF; rw [e2]
                      rw [show (insAll (restU n p xs stop (k + 1))).length = 0 + (j + 1) + 1 + (L.length - (j + 1)) by rw [e1, e3]; simp; omega, show ints (insAll (restU n p xs stop (k + 1))) = [] ++ (ints L).take (j + 1) ++ [.int .i64 r] ++ (ints L).drop (j + 1) by rw [e1, e3]; simp [ints]]
                      exact own_base hown11 (by omega)
                    have HV3 := Lib.hid (own_someE hown11 (by omega))
                    have HH := Lib.hid hH11
                    clear hown11 hg11 hown7 hg7
                    have HB3 : Hid (Below w.heap.size w w3 ∧ w.heap.size < w3.heap.size) := ⟨HB2.out.1.trans (HH.out.mono (by omega)), by have := HH.out.size; omega⟩
                    have z0 := bkeep HH.out q0
                    have z1 := bkeep HH.out q1
                    clear HB2 q0 q1
                    go_wp2_with fail
                    exact ⟨⟨k + 1, by omega, by go_num, ⟨HV3.out, HR3.out⟩, z0, z1, HB3⟩, by simp [RowKit.intOf]; omega⟩
                  · go_simp
                    refine hK.out _ _ ?_ (fun hH6 => ?_)
                    · exact hH0.alloc hH0.size _
                    clear hK K
                    try simp only [Act.put, List.setIfInBounds_toArray, List.set_cons_zero, List.set_cons_succ]
                    refine wpAnyH_ready (rs := [4]) (by kernel_rfl) (by simp) ?_
                    refine AllReadyH.cons (by simp only [List.getElem?_toArray, List.getElem?_cons_succ, List.getElem?_cons_zero]; rfl) (fun K hK => ?_) AllReadyH.nil
                    rw [if_pos (by rfl)]
                    refine wp_append_own _ _ _ 31 rfl wo.heap.size 3 i0 (.int .i64 0) 1 8 Try.underlying31 hi0 hz0 hz1 hz2 rfl (by decide) _ _ _ rfl (((litE0 wo.heap.size (_) _ (by simp) (by simp))).alloc _) ⟨og, 0, none⟩ (j + 1) _ ((ints L).take ((j + 1))) rfl (by simp [ints] <;> omega) (HN1.out _ hH6) (fun u hu => ints_oneE L u (List.mem_of_mem_take hu)) (by unfold maxLen; omega) (by omega) hH6.size ?_
                    intro v1 w1 hown4 hg4 _
                    refine hK.out _ _ ?_ (fun hH4 => ?_)
                    · exact hH6.grown hg4 hH6.size (fun g hg => by cases hg; simp)
                    clear hK K
                    try simp only [Act.put, List.setIfInBounds_toArray, List.set_cons_zero, List.set_cons_succ]
                    have hHc := hH4
                    refine wpAnyH_ready (rs := [7]) (by kernel_rfl) (by simp) ?_
                    refine AllReadyH.cons (by simp only [List.getElem?_toArray, List.getElem?_cons_succ, List.getElem?_cons_zero]; rfl) (fun K hK => ?_) AllReadyH.nil
                    rw [if_pos (by rfl)]
                    refine wp_append_own _ _ _ 31 rfl wo.heap.size 3 i0 (.int .i64 0) 1 8 Try.underlying31 hi0 hz0 hz1 hz2 rfl (by decide) _ _ _ rfl hown4 ⟨wo.heap.size + 1, 0, none⟩ 1 1 [.int .i64 r] rfl rfl (one_keptE hg4 (one_newN _ _ (wo.heap.size + 1) (by simp)) (show Value.ownBlock (.slice (some ⟨wo.heap.size, 0, none⟩) 0 0) ≠ some (wo.heap.size + 1) by simp [Value.ownBlock])) (by intro u hu; simp at hu; subst hu; rfl) (by unfold maxLen; omega) (by omega) hHc.size ?_
                    intro v2 w2 hown7 hg7 _
                    refine hK.out _ _ ?_ (fun hH7 => ?_)
                    · exact hHc.grown hg7 hHc.size (fun g hg => (hown4.lt g hg).1)
                    clear hK K
                    try simp only [Act.put, List.setIfInBounds_toArray, List.set_cons_zero, List.set_cons_succ]
                    refine wpAnyH_ready (rs := [11]) (by kernel_rfl) (by simp) ?_
                    refine AllReadyH.cons (by simp only [List.getElem?_toArray, List.getElem?_cons_succ, List.getElem?_cons_zero]; rfl) (fun K hK => ?_) AllReadyH.nil
                    rw [if_pos (by rfl)]
                    refine wp_append_own _ _ _ 31 rfl wo.heap.size 3 i0 (.int .i64 0) 1 8 Try.underlying31 hi0 hz0 hz1 hz2 rfl (by decide) _ _ _ rfl hown7 ⟨og, j + 1, none⟩ (L.length - (j + 1)) _ ((ints L).drop ((j + 1))) rfl (by simp [ints]) (HN2.out _ hH7) (fun u hu => ints_oneE L u (List.mem_of_mem_drop hu)) (by unfold maxLen; omega) (by omega) hH7.size ?_
                    intro v3 w3 hown11 hg11 _
                    refine hK.out _ _ ?_ (fun hH11 => ?_)
                    · exact hH7.grown hg11 hH7.size (fun g hg => (hown7.lt g hg).1)
                    clear hK K
                    try simp only [Act.put, List.setIfInBounds_toArray, List.set_cons_zero, List.set_cons_succ]
                    refine wpAnyH_take (i := 12) (v := ?_) (by simp only [List.getElem?_toArray, List.getElem?_cons_succ, List.getElem?_cons_zero]; rfl) (by kernel_rfl) (by kernel_rfl) (by kernel_rfl) (by exact fun _ _ _ h => h) (Or.inl ⟨by rfl, ?_⟩) (by assumption) ?_
                    rotate_left
                    · intro w' hSw; (try dsimp only at hSw); go_simp; try with_reducible rfl
                    try simp only [Act.put, List.setIfInBounds_toArray, List.set_cons_zero, List.set_cons_succ]
                    refine wpAnyH_done (by kernel_rfl) ?_ _
                    have HR3 : Hid (w3.ownsRow (w.heap.size + 1) 3 1 v3 (insAll (restU n p xs stop (k + 1))).length (ints (insAll (restU n p xs stop (k + 1))))) := by
                      show w3.ownsRow _ _ _ _ _ _
                      have e1 := HSucc.out
                      have e2 := HIns.out
                      have e3 : insF r L = L.take (j + 1) ++ ([r] ++ L.drop (j + 1)) := by unfold insF; rw [e2]
                      rw [show (insAll (restU n p xs stop (k + 1))).length = 0 + (j + 1) + 1 + (L.length - (j + 1)) by rw [e1, e3]; simp; omega, show ints (insAll (restU n p xs stop (k + 1))) = [] ++ (ints L).take (j + 1) ++ [.int .i64 r] ++ (ints L).drop (j + 1) by rw [e1, e3]; simp [ints]]
                      exact own_base hown11 (by omega)
                    have HV3 := Lib.hid (own_someE hown11 (by omega))
                    have HH := Lib.hid hH11
                    clear hown11 hg11 hown7 hg7
                    have HB3 : Hid (Below w.heap.size w w3 ∧ w.heap.size < w3.heap.size) := ⟨HB2.out.1.trans (HH.out.mono (by omega)), by have := HH.out.size; omega⟩
                    have z0 := bkeep HH.out q0
                    have z1 := bkeep HH.out q1
                    clear HB2 q0 q1
                    go_wp2_with fail
                    exact ⟨⟨k + 1, by omega, by go_num, ⟨HV3.out, HR3.out⟩, z0, z1, HB3⟩, by simp [RowKit.intOf]; omega⟩
                · go_simp
                  refine hK.out _ _ ?_ (fun hH6 => ?_)
                  · first | exact hHeld.alloc hHeld.size _ | exact ((Dr.refl wo).step _).below.alloc (Nat.le_refl _) _ | exact (Below.refl _ _).alloc (Nat.le_refl _) _
                  clear hK K
                  try simp only [Act.put, List.setIfInBounds_toArray, List.set_cons_zero, List.set_cons_succ]
                  refine wpAnyH_ready (rs := [0]) (by kernel_rfl) (by simp) ?_
                  refine AllReadyH.cons (by simp only [List.getElem?_toArray, List.getElem?_cons_zero]; rfl) (fun K hK => ?_) AllReadyH.nil
                  go_simp
                  refine hK.out _ _ ?_ (fun hH0 => ?_)
                  · exact hH6.alloc hH6.size _
                  clear hK K
                  try simp only [Act.put, List.setIfInBounds_toArray, List.set_cons_zero, List.set_cons_succ]
                  refine wpAnyH_ready (rs := [4]) (by kernel_rfl) (by simp) ?_
                  refine AllReadyH.cons (by simp only [List.getElem?_toArray, List.getElem?_cons_succ, List.getElem?_cons_zero]; rfl) (fun K hK => ?_) AllReadyH.nil
                  rw [if_pos (by rfl)]
                  refine wp_append_own _ _ _ 31 rfl wo.heap.size 3 i0 (.int .i64 0) 1 8 Try.underlying31 hi0 hz0 hz1 hz2 rfl (by decide) _ _ _ rfl (litE0 wo.heap.size (_) _ (by simp) (by simp)) ⟨og, 0, none⟩ (j + 1) _ ((ints L).take ((j + 1))) rfl (by simp [ints] <;> omega) (HN1.out _ hH0) (fun u hu => ints_oneE L u (List.mem_of_mem_take hu)) (by unfold maxLen; omega) (by omega) hH0.size ?_
                  intro v1 w1 hown4 hg4 _
                  refine hK.out _ _ ?_ (fun hH4 => ?_)
                  · exact hH0.grown hg4 hH0.size (fun g hg => by cases hg; simp)
                  clear hK K
                  try simp only [Act.put, List.setIfInBounds_toArray, List.set_cons_zero, List.set_cons_succ]
                  have hHc := hH4
                  refine wpAnyH_ready (rs := [7]) (by kernel_rfl) (by simp) ?_
                  refine AllReadyH.cons (by simp only [List.getElem?_toArray, List.getElem?_cons_succ, List.getElem?_cons_zero]; rfl) (fun K hK => ?_) AllReadyH.nil
                  rw [if_pos (by rfl)]
                  refine wp_append_own _ _ _ 31 rfl wo.heap.size 3 i0 (.int .i64 0) 1 8 Try.underlying31 hi0 hz0 hz1 hz2 rfl (by decide) _ _ _ rfl hown4 ⟨wo.heap.size, 0, none⟩ 1 1 [.int .i64 r] rfl rfl (one_keptE hg4 (fun j u hu => acell (one_newN _ _ (wo.heap.size) rfl j u hu) (.cells #[] 3)) (show Value.ownBlock (.slice (some ⟨wo.heap.size + 1, 0, none⟩) 0 0) ≠ some wo.heap.size by simp [Value.ownBlock])) (by intro u hu; simp at hu; subst hu; rfl) (by unfold maxLen; omega) (by omega) hHc.size ?_
                  intro v2 w2 hown7 hg7 _
                  refine hK.out _ _ ?_ (fun hH7 => ?_)
                  · exact hHc.grown hg7 hHc.size (fun g hg => (hown4.lt g hg).1)
                  clear hK K
                  try simp only [Act.put, List.setIfInBounds_toArray, List.set_cons_zero, List.set_cons_succ]
                  refine wpAnyH_ready (rs := [11]) (by kernel_rfl) (by simp) ?_
                  refine AllReadyH.cons (by simp only [List.getElem?_toArray, List.getElem?_cons_succ, List.getElem?_cons_zero]; rfl) (fun K hK => ?_) AllReadyH.nil
                  rw [if_pos (by rfl)]
                  refine wp_append_own _ _ _ 31 rfl wo.heap.size 3 i0 (.int .i64 0) 1 8 Try.underlying31 hi0 hz0 hz1 hz2 rfl (by decide) _ _ _ rfl hown7 ⟨og, j + 1, none⟩ (L.length - (j + 1)) _ ((ints L).drop ((j + 1))) rfl (by simp [ints]) (HN2.out _ hH7) (fun u hu => ints_oneE L u (List.mem_of_mem_drop hu)) (by unfold maxLen; omega) (by omega) hH7.size ?_
                  intro v3 w3 hown11 hg11 _
                  refine hK.out _ _ ?_ (fun hH11 => ?_)
                  · exact hH7.grown hg11 hH7.size (fun g hg => (hown7.lt g hg).1)
                  clear hK K
                  try simp only [Act.put, List.setIfInBounds_toArray, List.set_cons_zero, List.set_cons_succ]
                  refine wpAnyH_take (i := 12) (v := ?_) (by simp only [List.getElem?_toArray, List.getElem?_cons_succ, List.getElem?_cons_zero]; rfl) (by kernel_rfl) (by kernel_rfl) (by kernel_rfl) (by exact fun _ _ _ h => h) (Or.inl ⟨by rfl, ?_⟩) (by assumption) ?_
                  rotate_left
                  · intro w' hSw; (try dsimp only at hSw); go_simp; try with_reducible rfl
                  try simp only [Act.put, List.setIfInBounds_toArray, List.set_cons_zero, List.set_cons_succ]
                  refine wpAnyH_done (by kernel_rfl) ?_ _
                  have HR3 : Hid (w3.ownsRow (w.heap.size + 1) 3 1 v3 (insAll (restU n p xs stop (k + 1))).length (ints (insAll (restU n p xs stop (k + 1))))) := by
                    show w3.ownsRow _ _ _ _ _ _
                    have e1 := HSucc.out
                    have e2 := HIns.out
                    have e3 : insF r L = L.take (j + 1) ++ ([r] ++ L.drop (j + 1)) := by unfold insF; rw [e2]
                    rw [show (insAll (restU n p xs stop (k + 1))).length = 0 + (j + 1) + 1 + (L.length - (j + 1)) by rw [e1, e3]; simp; omega, show ints (insAll (restU n p xs stop (k + 1))) = [] ++ (ints L).take (j + 1) ++ [.int .i64 r] ++ (ints L).drop (j + 1) by rw [e1, e3]; simp [ints]]
                    exact own_base hown11 (by omega)
                  have HV3 := Lib.hid (own_someE hown11 (by omega))
                  have HH := Lib.hid hH11
                  clear hown11 hg11 hown7 hg7
                  have HB3 : Hid (Below w.heap.size w w3 ∧ w.heap.size < w3.heap.size) := ⟨HB2.out.1.trans (HH.out.mono (by omega)), by have := HH.out.size; omega⟩
                  have z0 := bkeep HH.out q0
                  have z1 := bkeep HH.out q1
                  clear HB2 q0 q1
                  go_wp2_with fail
                  exact ⟨⟨k + 1, by omega, by go_num, ⟨HV3.out, HR3.out⟩, z0, z1, HB3⟩, by simp [RowKit.intOf]; omega⟩
          · obtain rfl : m = 0 := by omega
            have HIns : Hid (insAt r L = 0) := insAt_eq r L 0 (by omega) (fun i hi h => by omega) (fun h => HGt.out 0 h (Nat.le_refl _))
            have e1 : decide ((0 : Int) < ((0 : Nat) : Int)) = false := by simp
            clear HGt
            go_wp2_with fail
            have HN1 : Hid (∀ W, Below wo.heap.size wo W → ∀ i u, ((ints L).take (0))[i]? = some u → W.cell? ((⟨og, 0, none⟩ : Addr).add i) = some u) := fun W h i u hu => by
              rw [addr_add, Nat.zero_add]
              refine bkeep h (HCell.out i u ?_)
              rw [List.getElem?_take] at hu
              split at hu
              · exact hu
              · cases hu
            have HN2' : Hid (∀ W, Below wo.heap.size wo W → ∀ i u, ((ints L).drop (0))[i]? = some u → W.cell? ((⟨og, 0, none⟩ : Addr).add i) = some u) := fun W h i u hu => by
              rw [addr_add]
              rw [List.getElem?_drop] at hu
              exact bkeep h (HCell.out _ u hu)
            have hmo : (((0 : Nat) : Int) : Int) ≤ (oc : Int) := by omega
            have hml : (((0 : Nat) : Int) : Int) ≤ (L.length : Int) := by omega
            have hm0 : (0 : Int) ≤ (((0 : Nat) : Int) : Int) := by omega
            by_cases hcm : oc = 0
            · have HLm : Hid (L.length = 0) := by show _ = _; omega
              have HN2 : Hid (∀ W, Below wo.heap.size wo W → ∀ i u, ((ints L).drop (0))[i]? = some u → W.cell? ((⟨og, 0, none⟩ : Addr).add i) = some u) := fun W h i u hu => by
                rw [List.getElem?_drop, List.getElem?_eq_none (by have := HLm.out; simp [ints]; omega)] at hu; cases hu
              refine wp_region_held_drew (S := fun w' => Below wo.heap.size wo w') (by kernel_rfl) ?_ (fun hHeld => ?_)
              · first | exact Below.refl _ _ | exact (Below.refl _ _).drew | exact below_drewN (Below.refl _ _) _
              refine wpAnyH_take (i := 1) (v := ?_) (by simp only [List.getElem?_toArray, List.getElem?_cons_succ, List.getElem?_cons_zero]; rfl) (by kernel_rfl) (by kernel_rfl) (by kernel_rfl) (by exact fun _ _ _ h => h) (Or.inl ⟨by rfl, ?_⟩) (by assumption) ?_
              rotate_left
              · intro w' hSw; (try dsimp only at hSw); go_simp; try with_reducible rfl
              try simp only [Act.put, List.setIfInBounds_toArray, List.set_cons_zero, List.set_cons_succ]
              refine wpAnyH_take (i := 2) (v := ?_) (by simp only [List.getElem?_toArray, List.getElem?_cons_succ, List.getElem?_cons_zero]; rfl) (by kernel_rfl) (by kernel_rfl) (by kernel_rfl) (by exact fun _ _ _ h => h) (Or.inl ⟨by rfl, ?_⟩) (by assumption) ?_
              rotate_left
              · intro w' hSw; (try dsimp only at hSw); go_simp; try with_reducible rfl
              try simp only [Act.put, List.setIfInBounds_toArray, List.set_cons_zero, List.set_cons_succ]
              refine wpAnyH_take (i := 3) (v := ?_) (by simp only [List.getElem?_toArray, List.getElem?_cons_succ, List.getElem?_cons_zero]; rfl) (by kernel_rfl) (by kernel_rfl) (by kernel_rfl) (by exact fun _ _ _ h => h) (Or.inl ⟨by rfl, ?_⟩) (by assumption) ?_
              rotate_left
              · intro w' hSw; (try dsimp only at hSw); go_simp; try with_reducible rfl
              try simp only [Act.put, List.setIfInBounds_toArray, List.set_cons_zero, List.set_cons_succ]
              refine wpAnyH_take (i := 5) (v := ?_) (by simp only [List.getElem?_toArray, List.getElem?_cons_succ, List.getElem?_cons_zero]; rfl) (by kernel_rfl) (by kernel_rfl) (by kernel_rfl) (by exact fun _ _ _ h => h) (Or.inl ⟨by rfl, ?_⟩) (by assumption) ?_
              rotate_left
              · intro w' hSw; (try dsimp only at hSw); go_simp; try with_reducible rfl
              try simp only [Act.put, List.setIfInBounds_toArray, List.set_cons_zero, List.set_cons_succ]
              refine wpAnyH_take (i := 8) (v := ?_) (by simp only [List.getElem?_toArray, List.getElem?_cons_succ, List.getElem?_cons_zero]; rfl) (by kernel_rfl) (by kernel_rfl) (by kernel_rfl) (by exact fun _ _ _ h => h) (Or.inl ⟨by rfl, ?_⟩) (by assumption) ?_
              rotate_left
              · intro w' hSw; (try dsimp only at hSw); go_simp; try with_reducible rfl
              try simp only [Act.put, List.setIfInBounds_toArray, List.set_cons_zero, List.set_cons_succ]
              refine wpAnyH_take (i := 9) (v := ?_) (by simp only [List.getElem?_toArray, List.getElem?_cons_succ, List.getElem?_cons_zero]; rfl) (by kernel_rfl) (by kernel_rfl) (by kernel_rfl) (by exact fun _ _ _ h => h) (Or.inl ⟨by rfl, ?_⟩) (by assumption) ?_
              rotate_left
              · intro w' hSw; (try dsimp only at hSw); go_simp; try with_reducible rfl
              try simp only [Act.put, List.setIfInBounds_toArray, List.set_cons_zero, List.set_cons_succ]
              refine wpAnyH_take (i := 10) (v := ?_) (by simp only [List.getElem?_toArray, List.getElem?_cons_succ, List.getElem?_cons_zero]; rfl) (by kernel_rfl) (by kernel_rfl) (by kernel_rfl) (by exact fun _ _ _ h => h) (Or.inl ⟨by rfl, ?_⟩) (by assumption) ?_
              rotate_left
              · intro w' hSw; (try dsimp only at hSw); go_simp; try with_reducible rfl
              try simp only [Act.put, List.setIfInBounds_toArray, List.set_cons_zero, List.set_cons_succ]
              refine wpAnyH_ready (rs := [0, 6]) (by kernel_rfl) (by simp) ?_
              refine AllReadyH.cons (by simp only [List.getElem?_toArray, List.getElem?_cons_zero]; rfl) (fun K hK => ?_) (AllReadyH.cons (by simp only [List.getElem?_toArray, List.getElem?_cons_succ, List.getElem?_cons_zero]; rfl) (fun K hK => ?_) AllReadyH.nil)
              · go_simp
                refine hK.out _ _ ?_ (fun hH0 => ?_)
                · first | exact hHeld.alloc hHeld.size _ | exact ((Dr.refl wo).step _).below.alloc (Nat.le_refl _) _ | exact (Below.refl _ _).alloc (Nat.le_refl _) _
                clear hK K
                try simp only [Act.put, List.setIfInBounds_toArray, List.set_cons_zero, List.set_cons_succ]
                refine wpAnyH_ready (rs := [4, 6]) (by kernel_rfl) (by simp) ?_
                refine AllReadyH.cons (by simp only [List.getElem?_toArray, List.getElem?_cons_succ, List.getElem?_cons_zero]; rfl) (fun K hK => ?_) (AllReadyH.cons (by simp only [List.getElem?_toArray, List.getElem?_cons_succ, List.getElem?_cons_zero]; rfl) (fun K hK => ?_) AllReadyH.nil)
                · rw [if_pos (by rfl)]
                  refine wp_append_own _ _ _ 31 rfl wo.heap.size 3 i0 (.int .i64 0) 1 8 Try.underlying31 hi0 hz0 hz1 hz2 rfl (by decide) _ _ _ rfl (litE0 wo.heap.size (_) _ (by simp) (by simp)) ⟨og, 0, none⟩ 0 _ ((ints L).take (0)) rfl (by simp [ints] <;> omega) (HN1.out _ hH0) (fun u hu => ints_oneE L u (List.mem_of_mem_take hu)) (by unfold maxLen; omega) (by omega) hH0.size ?_
                  intro v1 w1 hown4 hg4 _
                  refine hK.out _ _ ?_ (fun hH4 => ?_)
                  · exact hH0.grown hg4 hH0.size (fun g hg => by cases hg; simp)
                  clear hK K
                  try simp only [Act.put, List.setIfInBounds_toArray, List.set_cons_zero, List.set_cons_succ]
                  refine wpAnyH_ready (rs := [6]) (by kernel_rfl) (by simp) ?_
                  refine AllReadyH.cons (by simp only [List.getElem?_toArray, List.getElem?_cons_succ, List.getElem?_cons_zero]; rfl) (fun K hK => ?_) AllReadyH.nil
                  go_simp
                  refine hK.out _ _ ?_ (fun hHc => ?_)
                  · exact hH4.alloc hH4.size _
                  clear hK K
                  try simp only [Act.put, List.setIfInBounds_toArray, List.set_cons_zero, List.set_cons_succ]
                  refine wpAnyH_ready (rs := [7]) (by kernel_rfl) (by simp) ?_
                  refine AllReadyH.cons (by simp only [List.getElem?_toArray, List.getElem?_cons_succ, List.getElem?_cons_zero]; rfl) (fun K hK => ?_) AllReadyH.nil
                  rw [if_pos (by rfl)]
                  refine wp_append_own _ _ _ 31 rfl wo.heap.size 3 i0 (.int .i64 0) 1 8 Try.underlying31 hi0 hz0 hz1 hz2 rfl (by decide) _ _ _ rfl (hown4.alloc _) ⟨w1.heap.size, 0, none⟩ 1 1 [.int .i64 r] rfl rfl (one_newN w1 _ _ rfl) (by intro u hu; simp at hu; subst hu; rfl) (by unfold maxLen; omega) (by omega) hHc.size ?_
                  intro v2 w2 hown7 hg7 _
                  refine hK.out _ _ ?_ (fun hH7 => ?_)
                  · exact hHc.grown hg7 hHc.size (fun g hg => (hown4.lt g hg).1)
                  clear hK K
                  try simp only [Act.put, List.setIfInBounds_toArray, List.set_cons_zero, List.set_cons_succ]
                  refine wpAnyH_ready (rs := [11]) (by kernel_rfl) (by simp) ?_
                  refine AllReadyH.cons (by simp only [List.getElem?_toArray, List.getElem?_cons_succ, List.getElem?_cons_zero]; rfl) (fun K hK => ?_) AllReadyH.nil
                  rw [if_pos (by rfl)]
                  refine wp_append_own _ _ _ 31 rfl wo.heap.size 3 i0 (.int .i64 0) 1 8 Try.underlying31 hi0 hz0 hz1 hz2 rfl (by decide) _ _ _ rfl hown7 ⟨og, 0, none⟩ (L.length - 0) _ ((ints L).drop (0)) rfl (by simp [ints]) (HN2.out _ hH7) (fun u hu => ints_oneE L u (List.mem_of_mem_drop hu)) (by unfold maxLen; omega) (by omega) hH7.size ?_
                  intro v3 w3 hown11 hg11 _
                  refine hK.out _ _ ?_ (fun hH11 => ?_)
                  · exact hH7.grown hg11 hH7.size (fun g hg => (hown7.lt g hg).1)
                  clear hK K
                  try simp only [Act.put, List.setIfInBounds_toArray, List.set_cons_zero, List.set_cons_succ]
                  refine wpAnyH_take (i := 12) (v := ?_) (by simp only [List.getElem?_toArray, List.getElem?_cons_succ, List.getElem?_cons_zero]; rfl) (by kernel_rfl) (by kernel_rfl) (by kernel_rfl) (by exact fun _ _ _ h => h) (Or.inl ⟨by rfl, ?_⟩) (by assumption) ?_
                  rotate_left
                  · intro w' hSw; (try dsimp only at hSw); go_simp; try with_reducible rfl
                  try simp only [Act.put, List.setIfInBounds_toArray, List.set_cons_zero, List.set_cons_succ]
                  refine wpAnyH_done (by kernel_rfl) ?_ _
                  have HR3 : Hid (w3.ownsRow (w.heap.size + 1) 3 1 v3 (insAll (restU n p xs stop (k + 1))).length (ints (insAll (restU n p xs stop (k + 1))))) := by
                    show w3.ownsRow _ _ _ _ _ _
                    have e1 := HSucc.out
                    have e2 := HIns.out
                    have e3 : insF r L = L.take (0) ++ ([r] ++ L.drop (0)) := by unfold insF; rw [e2]
                    rw [show (insAll (restU n p xs stop (k + 1))).length = 0 + (0) + 1 + (L.length - (0)) by rw [e1, e3]; simp; omega, show ints (insAll (restU n p xs stop (k + 1))) = [] ++ (ints L).take (0) ++ [.int .i64 r] ++ (ints L).drop (0) by rw [e1, e3]; simp [ints]]
                    exact own_base hown11 (by omega)
                  have HV3 := Lib.hid (own_someE hown11 (by omega))
                  have HH := Lib.hid hH11
                  clear hown11 hg11 hown7 hg7
                  have HB3 : Hid (Below w.heap.size w w3 ∧ w.heap.size < w3.heap.size) := ⟨HB2.out.1.trans (HH.out.mono (by omega)), by have := HH.out.size; omega⟩
                  have z0 := bkeep HH.out q0
                  have z1 := bkeep HH.out q1
                  clear HB2 q0 q1
                  go_wp2_with fail
                  exact ⟨⟨k + 1, by omega, by go_num, ⟨HV3.out, HR3.out⟩, z0, z1, HB3⟩, by simp [RowKit.intOf]; omega⟩
                · go_simp
                  refine hK.out _ _ ?_ (fun hH6 => ?_)
                  · exact hH0.alloc hH0.size _
                  clear hK K
                  try simp only [Act.put, List.setIfInBounds_toArray, List.set_cons_zero, List.set_cons_succ]
                  refine wpAnyH_ready (rs := [4]) (by kernel_rfl) (by simp) ?_
                  refine AllReadyH.cons (by simp only [List.getElem?_toArray, List.getElem?_cons_succ, List.getElem?_cons_zero]; rfl) (fun K hK => ?_) AllReadyH.nil
                  rw [if_pos (by rfl)]
                  refine wp_append_own _ _ _ 31 rfl wo.heap.size 3 i0 (.int .i64 0) 1 8 Try.underlying31 hi0 hz0 hz1 hz2 rfl (by decide) _ _ _ rfl (((litE0 wo.heap.size (_) _ (by simp) (by simp))).alloc _) ⟨og, 0, none⟩ 0 _ ((ints L).take (0)) rfl (by simp [ints] <;> omega) (HN1.out _ hH6) (fun u hu => ints_oneE L u (List.mem_of_mem_take hu)) (by unfold maxLen; omega) (by omega) hH6.size ?_
                  intro v1 w1 hown4 hg4 _
                  refine hK.out _ _ ?_ (fun hH4 => ?_)
                  · exact hH6.grown hg4 hH6.size (fun g hg => by cases hg; simp)
                  clear hK K
                  try simp only [Act.put, List.setIfInBounds_toArray, List.set_cons_zero, List.set_cons_succ]
                  have hHc := hH4
                  refine wpAnyH_ready (rs := [7]) (by kernel_rfl) (by simp) ?_
                  refine AllReadyH.cons (by simp only [List.getElem?_toArray, List.getElem?_cons_succ, List.getElem?_cons_zero]; rfl) (fun K hK => ?_) AllReadyH.nil
                  rw [if_pos (by rfl)]
                  refine wp_append_own _ _ _ 31 rfl wo.heap.size 3 i0 (.int .i64 0) 1 8 Try.underlying31 hi0 hz0 hz1 hz2 rfl (by decide) _ _ _ rfl hown4 ⟨wo.heap.size + 1, 0, none⟩ 1 1 [.int .i64 r] rfl rfl (one_keptE hg4 (one_newN _ _ (wo.heap.size + 1) (by simp)) (show Value.ownBlock (.slice (some ⟨wo.heap.size, 0, none⟩) 0 0) ≠ some (wo.heap.size + 1) by simp [Value.ownBlock])) (by intro u hu; simp at hu; subst hu; rfl) (by unfold maxLen; omega) (by omega) hHc.size ?_
                  intro v2 w2 hown7 hg7 _
                  refine hK.out _ _ ?_ (fun hH7 => ?_)
                  · exact hHc.grown hg7 hHc.size (fun g hg => (hown4.lt g hg).1)
                  clear hK K
                  try simp only [Act.put, List.setIfInBounds_toArray, List.set_cons_zero, List.set_cons_succ]
                  refine wpAnyH_ready (rs := [11]) (by kernel_rfl) (by simp) ?_
                  refine AllReadyH.cons (by simp only [List.getElem?_toArray, List.getElem?_cons_succ, List.getElem?_cons_zero]; rfl) (fun K hK => ?_) AllReadyH.nil
                  rw [if_pos (by rfl)]
                  refine wp_append_own _ _ _ 31 rfl wo.heap.size 3 i0 (.int .i64 0) 1 8 Try.underlying31 hi0 hz0 hz1 hz2 rfl (by decide) _ _ _ rfl hown7 ⟨og, 0, none⟩ (L.length - 0) _ ((ints L).drop (0)) rfl (by simp [ints]) (HN2.out _ hH7) (fun u hu => ints_oneE L u (List.mem_of_mem_drop hu)) (by unfold maxLen; omega) (by omega) hH7.size ?_
                  intro v3 w3 hown11 hg11 _
                  refine hK.out _ _ ?_ (fun hH11 => ?_)
                  · exact hH7.grown hg11 hH7.size (fun g hg => (hown7.lt g hg).1)
                  clear hK K
                  try simp only [Act.put, List.setIfInBounds_toArray, List.set_cons_zero, List.set_cons_succ]
                  refine wpAnyH_take (i := 12) (v := ?_) (by simp only [List.getElem?_toArray, List.getElem?_cons_succ, List.getElem?_cons_zero]; rfl) (by kernel_rfl) (by kernel_rfl) (by kernel_rfl) (by exact fun _ _ _ h => h) (Or.inl ⟨by rfl, ?_⟩) (by assumption) ?_
                  rotate_left
                  · intro w' hSw; (try dsimp only at hSw); go_simp; try with_reducible rfl
                  try simp only [Act.put, List.setIfInBounds_toArray, List.set_cons_zero, List.set_cons_succ]
                  refine wpAnyH_done (by kernel_rfl) ?_ _
                  have HR3 : Hid (w3.ownsRow (w.heap.size + 1) 3 1 v3 (insAll (restU n p xs stop (k + 1))).length (ints (insAll (restU n p xs stop (k + 1))))) := by
                    show w3.ownsRow _ _ _ _ _ _
                    have e1 := HSucc.out
                    have e2 := HIns.out
                    have e3 : insF r L = L.take (0) ++ ([r] ++ L.drop (0)) := by unfold insF; rw [e2]
                    rw [show (insAll (restU n p xs stop (k + 1))).length = 0 + (0) + 1 + (L.length - (0)) by rw [e1, e3]; simp; omega, show ints (insAll (restU n p xs stop (k + 1))) = [] ++ (ints L).take (0) ++ [.int .i64 r] ++ (ints L).drop (0) by rw [e1, e3]; simp [ints]]
                    exact own_base hown11 (by omega)
                  have HV3 := Lib.hid (own_someE hown11 (by omega))
                  have HH := Lib.hid hH11
                  clear hown11 hg11 hown7 hg7
                  have HB3 : Hid (Below w.heap.size w w3 ∧ w.heap.size < w3.heap.size) := ⟨HB2.out.1.trans (HH.out.mono (by omega)), by have := HH.out.size; omega⟩
                  have z0 := bkeep HH.out q0
                  have z1 := bkeep HH.out q1
                  clear HB2 q0 q1
                  go_wp2_with fail
                  exact ⟨⟨k + 1, by omega, by go_num, ⟨HV3.out, HR3.out⟩, z0, z1, HB3⟩, by simp [RowKit.intOf]; omega⟩
              · go_simp
                refine hK.out _ _ ?_ (fun hH6 => ?_)
                · first | exact hHeld.alloc hHeld.size _ | exact ((Dr.refl wo).step _).below.alloc (Nat.le_refl _) _ | exact (Below.refl _ _).alloc (Nat.le_refl _) _
                clear hK K
                try simp only [Act.put, List.setIfInBounds_toArray, List.set_cons_zero, List.set_cons_succ]
                refine wpAnyH_ready (rs := [0]) (by kernel_rfl) (by simp) ?_
                refine AllReadyH.cons (by simp only [List.getElem?_toArray, List.getElem?_cons_zero]; rfl) (fun K hK => ?_) AllReadyH.nil
                go_simp
                refine hK.out _ _ ?_ (fun hH0 => ?_)
                · exact hH6.alloc hH6.size _
                clear hK K
                try simp only [Act.put, List.setIfInBounds_toArray, List.set_cons_zero, List.set_cons_succ]
                refine wpAnyH_ready (rs := [4]) (by kernel_rfl) (by simp) ?_
                refine AllReadyH.cons (by simp only [List.getElem?_toArray, List.getElem?_cons_succ, List.getElem?_cons_zero]; rfl) (fun K hK => ?_) AllReadyH.nil
                rw [if_pos (by rfl)]
                refine wp_append_own _ _ _ 31 rfl wo.heap.size 3 i0 (.int .i64 0) 1 8 Try.underlying31 hi0 hz0 hz1 hz2 rfl (by decide) _ _ _ rfl (litE0 wo.heap.size (_) _ (by simp) (by simp)) ⟨og, 0, none⟩ 0 _ ((ints L).take (0)) rfl (by simp [ints] <;> omega) (HN1.out _ hH0) (fun u hu => ints_oneE L u (List.mem_of_mem_take hu)) (by unfold maxLen; omega) (by omega) hH0.size ?_
                intro v1 w1 hown4 hg4 _
                refine hK.out _ _ ?_ (fun hH4 => ?_)
                · exact hH0.grown hg4 hH0.size (fun g hg => by cases hg; simp)
                clear hK K
                try simp only [Act.put, List.setIfInBounds_toArray, List.set_cons_zero, List.set_cons_succ]
                have hHc := hH4
                refine wpAnyH_ready (rs := [7]) (by kernel_rfl) (by simp) ?_
                refine AllReadyH.cons (by simp only [List.getElem?_toArray, List.getElem?_cons_succ, List.getElem?_cons_zero]; rfl) (fun K hK => ?_) AllReadyH.nil
                rw [if_pos (by rfl)]
                refine wp_append_own _ _ _ 31 rfl wo.heap.size 3 i0 (.int .i64 0) 1 8 Try.underlying31 hi0 hz0 hz1 hz2 rfl (by decide) _ _ _ rfl hown4 ⟨wo.heap.size, 0, none⟩ 1 1 [.int .i64 r] rfl rfl (one_keptE hg4 (fun j u hu => acell (one_newN _ _ (wo.heap.size) rfl j u hu) (.cells #[] 3)) (show Value.ownBlock (.slice (some ⟨wo.heap.size + 1, 0, none⟩) 0 0) ≠ some wo.heap.size by simp [Value.ownBlock])) (by intro u hu; simp at hu; subst hu; rfl) (by unfold maxLen; omega) (by omega) hHc.size ?_
                intro v2 w2 hown7 hg7 _
                refine hK.out _ _ ?_ (fun hH7 => ?_)
                · exact hHc.grown hg7 hHc.size (fun g hg => (hown4.lt g hg).1)
                clear hK K
                try simp only [Act.put, List.setIfInBounds_toArray, List.set_cons_zero, List.set_cons_succ]
                refine wpAnyH_ready (rs := [11]) (by kernel_rfl) (by simp) ?_
                refine AllReadyH.cons (by simp only [List.getElem?_toArray, List.getElem?_cons_succ, List.getElem?_cons_zero]; rfl) (fun K hK => ?_) AllReadyH.nil
                rw [if_pos (by rfl)]
                refine wp_append_own _ _ _ 31 rfl wo.heap.size 3 i0 (.int .i64 0) 1 8 Try.underlying31 hi0 hz0 hz1 hz2 rfl (by decide) _ _ _ rfl hown7 ⟨og, 0, none⟩ (L.length - 0) _ ((ints L).drop (0)) rfl (by simp [ints]) (HN2.out _ hH7) (fun u hu => ints_oneE L u (List.mem_of_mem_drop hu)) (by unfold maxLen; omega) (by omega) hH7.size ?_
                intro v3 w3 hown11 hg11 _
                refine hK.out _ _ ?_ (fun hH11 => ?_)
                · exact hH7.grown hg11 hH7.size (fun g hg => (hown7.lt g hg).1)
                clear hK K
                try simp only [Act.put, List.setIfInBounds_toArray, List.set_cons_zero, List.set_cons_succ]
                refine wpAnyH_take (i := 12) (v := ?_) (by simp only [List.getElem?_toArray, List.getElem?_cons_succ, List.getElem?_cons_zero]; rfl) (by kernel_rfl) (by kernel_rfl) (by kernel_rfl) (by exact fun _ _ _ h => h) (Or.inl ⟨by rfl, ?_⟩) (by assumption) ?_
                rotate_left
                · intro w' hSw; (try dsimp only at hSw); go_simp; try with_reducible rfl
                try simp only [Act.put, List.setIfInBounds_toArray, List.set_cons_zero, List.set_cons_succ]
                refine wpAnyH_done (by kernel_rfl) ?_ _
                have HR3 : Hid (w3.ownsRow (w.heap.size + 1) 3 1 v3 (insAll (restU n p xs stop (k + 1))).length (ints (insAll (restU n p xs stop (k + 1))))) := by
                  show w3.ownsRow _ _ _ _ _ _
                  have e1 := HSucc.out
                  have e2 := HIns.out
                  have e3 : insF r L = L.take (0) ++ ([r] ++ L.drop (0)) := by unfold insF; rw [e2]
                  rw [show (insAll (restU n p xs stop (k + 1))).length = 0 + (0) + 1 + (L.length - (0)) by rw [e1, e3]; simp; omega, show ints (insAll (restU n p xs stop (k + 1))) = [] ++ (ints L).take (0) ++ [.int .i64 r] ++ (ints L).drop (0) by rw [e1, e3]; simp [ints]]
                  exact own_base hown11 (by omega)
                have HV3 := Lib.hid (own_someE hown11 (by omega))
                have HH := Lib.hid hH11
                clear hown11 hg11 hown7 hg7
                have HB3 : Hid (Below w.heap.size w w3 ∧ w.heap.size < w3.heap.size) := ⟨HB2.out.1.trans (HH.out.mono (by omega)), by have := HH.out.size; omega⟩
                have z0 := bkeep HH.out q0
                have z1 := bkeep HH.out q1
                clear HB2 q0 q1
                go_wp2_with fail
                exact ⟨⟨k + 1, by omega, by go_num, ⟨HV3.out, HR3.out⟩, z0, z1, HB3⟩, by simp [RowKit.intOf]; omega⟩
            · have hcm2 : ¬ ((oc : Int) = (((0 : Nat) : Int) : Int)) := by omega
              have HN2 := HN2'
              refine wp_region_held_drew (S := fun w' => Below wo.heap.size wo w') (by kernel_rfl) ?_ (fun hHeld => ?_)
              · first | exact Below.refl _ _ | exact (Below.refl _ _).drew | exact below_drewN (Below.refl _ _) _
              refine wpAnyH_take (i := 1) (v := ?_) (by simp only [List.getElem?_toArray, List.getElem?_cons_succ, List.getElem?_cons_zero]; rfl) (by kernel_rfl) (by kernel_rfl) (by kernel_rfl) (by exact fun _ _ _ h => h) (Or.inl ⟨by rfl, ?_⟩) (by assumption) ?_
              rotate_left
              · intro w' hSw; (try dsimp only at hSw); go_simp; try with_reducible rfl
              try simp only [Act.put, List.setIfInBounds_toArray, List.set_cons_zero, List.set_cons_succ]
              refine wpAnyH_take (i := 2) (v := ?_) (by simp only [List.getElem?_toArray, List.getElem?_cons_succ, List.getElem?_cons_zero]; rfl) (by kernel_rfl) (by kernel_rfl) (by kernel_rfl) (by exact fun _ _ _ h => h) (Or.inl ⟨by rfl, ?_⟩) (by assumption) ?_
              rotate_left
              · intro w' hSw; (try dsimp only at hSw); go_simp; try with_reducible rfl
              try simp only [Act.put, List.setIfInBounds_toArray, List.set_cons_zero, List.set_cons_succ]
              refine wpAnyH_take (i := 3) (v := ?_) (by simp only [List.getElem?_toArray, List.getElem?_cons_succ, List.getElem?_cons_zero]; rfl) (by kernel_rfl) (by kernel_rfl) (by kernel_rfl) (by exact fun _ _ _ h => h) (Or.inl ⟨by rfl, ?_⟩) (by assumption) ?_
              rotate_left
              · intro w' hSw; (try dsimp only at hSw); go_simp; try with_reducible rfl
              try simp only [Act.put, List.setIfInBounds_toArray, List.set_cons_zero, List.set_cons_succ]
              refine wpAnyH_take (i := 5) (v := ?_) (by simp only [List.getElem?_toArray, List.getElem?_cons_succ, List.getElem?_cons_zero]; rfl) (by kernel_rfl) (by kernel_rfl) (by kernel_rfl) (by exact fun _ _ _ h => h) (Or.inl ⟨by rfl, ?_⟩) (by assumption) ?_
              rotate_left
              · intro w' hSw; (try dsimp only at hSw); go_simp; try with_reducible rfl
              try simp only [Act.put, List.setIfInBounds_toArray, List.set_cons_zero, List.set_cons_succ]
              refine wpAnyH_take (i := 8) (v := ?_) (by simp only [List.getElem?_toArray, List.getElem?_cons_succ, List.getElem?_cons_zero]; rfl) (by kernel_rfl) (by kernel_rfl) (by kernel_rfl) (by exact fun _ _ _ h => h) (Or.inl ⟨by rfl, ?_⟩) (by assumption) ?_
              rotate_left
              · intro w' hSw; (try dsimp only at hSw); go_simp; try with_reducible rfl
              try simp only [Act.put, List.setIfInBounds_toArray, List.set_cons_zero, List.set_cons_succ]
              refine wpAnyH_take (i := 9) (v := ?_) (by simp only [List.getElem?_toArray, List.getElem?_cons_succ, List.getElem?_cons_zero]; rfl) (by kernel_rfl) (by kernel_rfl) (by kernel_rfl) (by exact fun _ _ _ h => h) (Or.inl ⟨by rfl, ?_⟩) (by assumption) ?_
              rotate_left
              · intro w' hSw; (try dsimp only at hSw); go_simp; try with_reducible rfl
              try simp only [Act.put, List.setIfInBounds_toArray, List.set_cons_zero, List.set_cons_succ]
              refine wpAnyH_take (i := 10) (v := ?_) (by simp only [List.getElem?_toArray, List.getElem?_cons_succ, List.getElem?_cons_zero]; rfl) (by kernel_rfl) (by kernel_rfl) (by kernel_rfl) (by exact fun _ _ _ h => h) (Or.inl ⟨by rfl, ?_⟩) (by assumption) ?_
              rotate_left
              · intro w' hSw; (try dsimp only at hSw); go_simp; try with_reducible rfl
              try simp only [Act.put, List.setIfInBounds_toArray, List.set_cons_zero, List.set_cons_succ]
              refine wpAnyH_ready (rs := [0, 6]) (by kernel_rfl) (by simp) ?_
              refine AllReadyH.cons (by simp only [List.getElem?_toArray, List.getElem?_cons_zero]; rfl) (fun K hK => ?_) (AllReadyH.cons (by simp only [List.getElem?_toArray, List.getElem?_cons_succ, List.getElem?_cons_zero]; rfl) (fun K hK => ?_) AllReadyH.nil)
              · go_simp
                refine hK.out _ _ ?_ (fun hH0 => ?_)
                · first | exact hHeld.alloc hHeld.size _ | exact ((Dr.refl wo).step _).below.alloc (Nat.le_refl _) _ | exact (Below.refl _ _).alloc (Nat.le_refl _) _
                clear hK K
                try simp only [Act.put, List.setIfInBounds_toArray, List.set_cons_zero, List.set_cons_succ]
                refine wpAnyH_ready (rs := [4, 6]) (by kernel_rfl) (by simp) ?_
                refine AllReadyH.cons (by simp only [List.getElem?_toArray, List.getElem?_cons_succ, List.getElem?_cons_zero]; rfl) (fun K hK => ?_) (AllReadyH.cons (by simp only [List.getElem?_toArray, List.getElem?_cons_succ, List.getElem?_cons_zero]; rfl) (fun K hK => ?_) AllReadyH.nil)
                · rw [if_pos (by rfl)]
                  refine wp_append_own _ _ _ 31 rfl wo.heap.size 3 i0 (.int .i64 0) 1 8 Try.underlying31 hi0 hz0 hz1 hz2 rfl (by decide) _ _ _ rfl (litE0 wo.heap.size (_) _ (by simp) (by simp)) ⟨og, 0, none⟩ 0 _ ((ints L).take (0)) rfl (by simp [ints] <;> omega) (HN1.out _ hH0) (fun u hu => ints_oneE L u (List.mem_of_mem_take hu)) (by unfold maxLen; omega) (by omega) hH0.size ?_
                  intro v1 w1 hown4 hg4 _
                  refine hK.out _ _ ?_ (fun hH4 => ?_)
                  · exact hH0.grown hg4 hH0.size (fun g hg => by cases hg; simp)
                  clear hK K
                  try simp only [Act.put, List.setIfInBounds_toArray, List.set_cons_zero, List.set_cons_succ]
                  refine wpAnyH_ready (rs := [6]) (by kernel_rfl) (by simp) ?_
                  refine AllReadyH.cons (by simp only [List.getElem?_toArray, List.getElem?_cons_succ, List.getElem?_cons_zero]; rfl) (fun K hK => ?_) AllReadyH.nil
                  go_simp
                  refine hK.out _ _ ?_ (fun hHc => ?_)
                  · exact hH4.alloc hH4.size _
                  clear hK K
                  try simp only [Act.put, List.setIfInBounds_toArray, List.set_cons_zero, List.set_cons_succ]
                  refine wpAnyH_ready (rs := [7]) (by kernel_rfl) (by simp) ?_
                  refine AllReadyH.cons (by simp only [List.getElem?_toArray, List.getElem?_cons_succ, List.getElem?_cons_zero]; rfl) (fun K hK => ?_) AllReadyH.nil
                  rw [if_pos (by rfl)]
                  refine wp_append_own _ _ _ 31 rfl wo.heap.size 3 i0 (.int .i64 0) 1 8 Try.underlying31 hi0 hz0 hz1 hz2 rfl (by decide) _ _ _ rfl (hown4.alloc _) ⟨w1.heap.size, 0, none⟩ 1 1 [.int .i64 r] rfl rfl (one_newN w1 _ _ rfl) (by intro u hu; simp at hu; subst hu; rfl) (by unfold maxLen; omega) (by omega) hHc.size ?_
                  intro v2 w2 hown7 hg7 _
                  refine hK.out _ _ ?_ (fun hH7 => ?_)
                  · exact hHc.grown hg7 hHc.size (fun g hg => (hown4.lt g hg).1)
                  clear hK K
                  try simp only [Act.put, List.setIfInBounds_toArray, List.set_cons_zero, List.set_cons_succ]
                  refine wpAnyH_ready (rs := [11]) (by kernel_rfl) (by simp) ?_
                  refine AllReadyH.cons (by simp only [List.getElem?_toArray, List.getElem?_cons_succ, List.getElem?_cons_zero]; rfl) (fun K hK => ?_) AllReadyH.nil
                  rw [if_pos (by rfl)]
                  refine wp_append_own _ _ _ 31 rfl wo.heap.size 3 i0 (.int .i64 0) 1 8 Try.underlying31 hi0 hz0 hz1 hz2 rfl (by decide) _ _ _ rfl hown7 ⟨og, 0, none⟩ (L.length - 0) _ ((ints L).drop (0)) rfl (by simp [ints]) (HN2.out _ hH7) (fun u hu => ints_oneE L u (List.mem_of_mem_drop hu)) (by unfold maxLen; omega) (by omega) hH7.size ?_
                  intro v3 w3 hown11 hg11 _
                  refine hK.out _ _ ?_ (fun hH11 => ?_)
                  · exact hH7.grown hg11 hH7.size (fun g hg => (hown7.lt g hg).1)
                  clear hK K
                  try simp only [Act.put, List.setIfInBounds_toArray, List.set_cons_zero, List.set_cons_succ]
                  refine wpAnyH_take (i := 12) (v := ?_) (by simp only [List.getElem?_toArray, List.getElem?_cons_succ, List.getElem?_cons_zero]; rfl) (by kernel_rfl) (by kernel_rfl) (by kernel_rfl) (by exact fun _ _ _ h => h) (Or.inl ⟨by rfl, ?_⟩) (by assumption) ?_
                  rotate_left
                  · intro w' hSw; (try dsimp only at hSw); go_simp; try with_reducible rfl
                  try simp only [Act.put, List.setIfInBounds_toArray, List.set_cons_zero, List.set_cons_succ]
                  refine wpAnyH_done (by kernel_rfl) ?_ _
                  have HR3 : Hid (w3.ownsRow (w.heap.size + 1) 3 1 v3 (insAll (restU n p xs stop (k + 1))).length (ints (insAll (restU n p xs stop (k + 1))))) := by
                    show w3.ownsRow _ _ _ _ _ _
                    have e1 := HSucc.out
                    have e2 := HIns.out
                    have e3 : insF r L = L.take (0) ++ ([r] ++ L.drop (0)) := by unfold insF; rw [e2]
                    rw [show (insAll (restU n p xs stop (k + 1))).length = 0 + (0) + 1 + (L.length - (0)) by rw [e1, e3]; simp; omega, show ints (insAll (restU n p xs stop (k + 1))) = [] ++ (ints L).take (0) ++ [.int .i64 r] ++ (ints L).drop (0) by rw [e1, e3]; simp [ints]]
                    exact own_base hown11 (by omega)
                  have HV3 := Lib.hid (own_someE hown11 (by omega))
                  have HH := Lib.hid hH11
                  clear hown11 hg11 hown7 hg7
                  have HB3 : Hid (Below w.heap.size w w3 ∧ w.heap.size < w3.heap.size) := ⟨HB2.out.1.trans (HH.out.mono (by omega)), by have := HH.out.size; omega⟩
                  have z0 := bkeep HH.out q0
                  have z1 := bkeep HH.out q1
                  clear HB2 q0 q1
                  go_wp2_with fail
                  exact ⟨⟨k + 1, by omega, by go_num, ⟨HV3.out, HR3.out⟩, z0, z1, HB3⟩, by simp [RowKit.intOf]; omega⟩
                · go_simp
                  refine hK.out _ _ ?_ (fun hH6 => ?_)
                  · exact hH0.alloc hH0.size _
                  clear hK K
                  try simp only [Act.put, List.setIfInBounds_toArray, List.set_cons_zero, List.set_cons_succ]
                  refine wpAnyH_ready (rs := [4]) (by kernel_rfl) (by simp) ?_
                  refine AllReadyH.cons (by simp only [List.getElem?_toArray, List.getElem?_cons_succ, List.getElem?_cons_zero]; rfl) (fun K hK => ?_) AllReadyH.nil
                  rw [if_pos (by rfl)]
                  refine wp_append_own _ _ _ 31 rfl wo.heap.size 3 i0 (.int .i64 0) 1 8 Try.underlying31 hi0 hz0 hz1 hz2 rfl (by decide) _ _ _ rfl (((litE0 wo.heap.size (_) _ (by simp) (by simp))).alloc _) ⟨og, 0, none⟩ 0 _ ((ints L).take (0)) rfl (by simp [ints] <;> omega) (HN1.out _ hH6) (fun u hu => ints_oneE L u (List.mem_of_mem_take hu)) (by unfold maxLen; omega) (by omega) hH6.size ?_
                  intro v1 w1 hown4 hg4 _
                  refine hK.out _ _ ?_ (fun hH4 => ?_)
                  · exact hH6.grown hg4 hH6.size (fun g hg => by cases hg; simp)
                  clear hK K
                  try simp only [Act.put, List.setIfInBounds_toArray, List.set_cons_zero, List.set_cons_succ]
                  have hHc := hH4
                  refine wpAnyH_ready (rs := [7]) (by kernel_rfl) (by simp) ?_
                  refine AllReadyH.cons (by simp only [List.getElem?_toArray, List.getElem?_cons_succ, List.getElem?_cons_zero]; rfl) (fun K hK => ?_) AllReadyH.nil
                  rw [if_pos (by rfl)]
                  refine wp_append_own _ _ _ 31 rfl wo.heap.size 3 i0 (.int .i64 0) 1 8 Try.underlying31 hi0 hz0 hz1 hz2 rfl (by decide) _ _ _ rfl hown4 ⟨wo.heap.size + 1, 0, none⟩ 1 1 [.int .i64 r] rfl rfl (one_keptE hg4 (one_newN _ _ (wo.heap.size + 1) (by simp)) (show Value.ownBlock (.slice (some ⟨wo.heap.size, 0, none⟩) 0 0) ≠ some (wo.heap.size + 1) by simp [Value.ownBlock])) (by intro u hu; simp at hu; subst hu; rfl) (by unfold maxLen; omega) (by omega) hHc.size ?_
                  intro v2 w2 hown7 hg7 _
                  refine hK.out _ _ ?_ (fun hH7 => ?_)
                  · exact hHc.grown hg7 hHc.size (fun g hg => (hown4.lt g hg).1)
                  clear hK K
                  try simp only [Act.put, List.setIfInBounds_toArray, List.set_cons_zero, List.set_cons_succ]
                  refine wpAnyH_ready (rs := [11]) (by kernel_rfl) (by simp) ?_
                  refine AllReadyH.cons (by simp only [List.getElem?_toArray, List.getElem?_cons_succ, List.getElem?_cons_zero]; rfl) (fun K hK => ?_) AllReadyH.nil
                  rw [if_pos (by rfl)]
                  refine wp_append_own _ _ _ 31 rfl wo.heap.size 3 i0 (.int .i64 0) 1 8 Try.underlying31 hi0 hz0 hz1 hz2 rfl (by decide) _ _ _ rfl hown7 ⟨og, 0, none⟩ (L.length - 0) _ ((ints L).drop (0)) rfl (by simp [ints]) (HN2.out _ hH7) (fun u hu => ints_oneE L u (List.mem_of_mem_drop hu)) (by unfold maxLen; omega) (by omega) hH7.size ?_
                  intro v3 w3 hown11 hg11 _
                  refine hK.out _ _ ?_ (fun hH11 => ?_)
                  · exact hH7.grown hg11 hH7.size (fun g hg => (hown7.lt g hg).1)
                  clear hK K
                  try simp only [Act.put, List.setIfInBounds_toArray, List.set_cons_zero, List.set_cons_succ]
                  refine wpAnyH_take (i := 12) (v := ?_) (by simp only [List.getElem?_toArray, List.getElem?_cons_succ, List.getElem?_cons_zero]; rfl) (by kernel_rfl) (by kernel_rfl) (by kernel_rfl) (by exact fun _ _ _ h => h) (Or.inl ⟨by rfl, ?_⟩) (by assumption) ?_
                  rotate_left
                  · intro w' hSw; (try dsimp only at hSw); go_simp; try with_reducible rfl
                  try simp only [Act.put, List.setIfInBounds_toArray, List.set_cons_zero, List.set_cons_succ]
                  refine wpAnyH_done (by kernel_rfl) ?_ _
                  have HR3 : Hid (w3.ownsRow (w.heap.size + 1) 3 1 v3 (insAll (restU n p xs stop (k + 1))).length (ints (insAll (restU n p xs stop (k + 1))))) := by
                    show w3.ownsRow _ _ _ _ _ _
                    have e1 := HSucc.out
                    have e2 := HIns.out
                    have e3 : insF r L = L.take (0) ++ ([r] ++ L.drop (0)) := by unfold insF; rw [e2]
                    rw [show (insAll (restU n p xs stop (k + 1))).length = 0 + (0) + 1 + (L.length - (0)) by rw [e1, e3]; simp; omega, show ints (insAll (restU n p xs stop (k + 1))) = [] ++ (ints L).take (0) ++ [.int .i64 r] ++ (ints L).drop (0) by rw [e1, e3]; simp [ints]]
                    exact own_base hown11 (by omega)
                  have HV3 := Lib.hid (own_someE hown11 (by omega))
                  have HH := Lib.hid hH11
                  clear hown11 hg11 hown7 hg7
                  have HB3 : Hid (Below w.heap.size w w3 ∧ w.heap.size < w3.heap.size) := ⟨HB2.out.1.trans (HH.out.mono (by omega)), by have := HH.out.size; omega⟩
                  have z0 := bkeep HH.out q0
                  have z1 := bkeep HH.out q1
                  clear HB2 q0 q1
                  go_wp2_with fail
                  exact ⟨⟨k + 1, by omega, by go_num, ⟨HV3.out, HR3.out⟩, z0, z1, HB3⟩, by simp [RowKit.intOf]; omega⟩
              · go_simp
                refine hK.out _ _ ?_ (fun hH6 => ?_)
                · first | exact hHeld.alloc hHeld.size _ | exact ((Dr.refl wo).step _).below.alloc (Nat.le_refl _) _ | exact (Below.refl _ _).alloc (Nat.le_refl _) _
                clear hK K
                try simp only [Act.put, List.setIfInBounds_toArray, List.set_cons_zero, List.set_cons_succ]
                refine wpAnyH_ready (rs := [0]) (by kernel_rfl) (by simp) ?_
                refine AllReadyH.cons (by simp only [List.getElem?_toArray, List.getElem?_cons_zero]; rfl) (fun K hK => ?_) AllReadyH.nil
                go_simp
                refine hK.out _ _ ?_ (fun hH0 => ?_)
                · exact hH6.alloc hH6.size _
                clear hK K
                try simp only [Act.put, List.setIfInBounds_toArray, List.set_cons_zero, List.set_cons_succ]
                refine wpAnyH_ready (rs := [4]) (by kernel_rfl) (by simp) ?_
                refine AllReadyH.cons (by simp only [List.getElem?_toArray, List.getElem?_cons_succ, List.getElem?_cons_zero]; rfl) (fun K hK => ?_) AllReadyH.nil
                rw [if_pos (by rfl)]
                refine wp_append_own _ _ _ 31 rfl wo.heap.size 3 i0 (.int .i64 0) 1 8 Try.underlying31 hi0 hz0 hz1 hz2 rfl (by decide) _ _ _ rfl (litE0 wo.heap.size (_) _ (by simp) (by simp)) ⟨og, 0, none⟩ 0 _ ((ints L).take (0)) rfl (by simp [ints] <;> omega) (HN1.out _ hH0) (fun u hu => ints_oneE L u (List.mem_of_mem_take hu)) (by unfold maxLen; omega) (by omega) hH0.size ?_
                intro v1 w1 hown4 hg4 _
                refine hK.out _ _ ?_ (fun hH4 => ?_)
                · exact hH0.grown hg4 hH0.size (fun g hg => by cases hg; simp)
                clear hK K
                try simp only [Act.put, List.setIfInBounds_toArray, List.set_cons_zero, List.set_cons_succ]
                have hHc := hH4
                refine wpAnyH_ready (rs := [7]) (by kernel_rfl) (by simp) ?_
                refine AllReadyH.cons (by simp only [List.getElem?_toArray, List.getElem?_cons_succ, List.getElem?_cons_zero]; rfl) (fun K hK => ?_) AllReadyH.nil
                rw [if_pos (by rfl)]
                refine wp_append_own _ _ _ 31 rfl wo.heap.size 3 i0 (.int .i64 0) 1 8 Try.underlying31 hi0 hz0 hz1 hz2 rfl (by decide) _ _ _ rfl hown4 ⟨wo.heap.size, 0, none⟩ 1 1 [.int .i64 r] rfl rfl (one_keptE hg4 (fun j u hu => acell (one_newN _ _ (wo.heap.size) rfl j u hu) (.cells #[] 3)) (show Value.ownBlock (.slice (some ⟨wo.heap.size + 1, 0, none⟩) 0 0) ≠ some wo.heap.size by simp [Value.ownBlock])) (by intro u hu; simp at hu; subst hu; rfl) (by unfold maxLen; omega) (by omega) hHc.size ?_
                intro v2 w2 hown7 hg7 _
                refine hK.out _ _ ?_ (fun hH7 => ?_)
                · exact hHc.grown hg7 hHc.size (fun g hg => (hown4.lt g hg).1)
                clear hK K
                try simp only [Act.put, List.setIfInBounds_toArray, List.set_cons_zero, List.set_cons_succ]
                refine wpAnyH_ready (rs := [11]) (by kernel_rfl) (by simp) ?_
                refine AllReadyH.cons (by simp only [List.getElem?_toArray, List.getElem?_cons_succ, List.getElem?_cons_zero]; rfl) (fun K hK => ?_) AllReadyH.nil
                rw [if_pos (by rfl)]
                refine wp_append_own _ _ _ 31 rfl wo.heap.size 3 i0 (.int .i64 0) 1 8 Try.underlying31 hi0 hz0 hz1 hz2 rfl (by decide) _ _ _ rfl hown7 ⟨og, 0, none⟩ (L.length - 0) _ ((ints L).drop (0)) rfl (by simp [ints]) (HN2.out _ hH7) (fun u hu => ints_oneE L u (List.mem_of_mem_drop hu)) (by unfold maxLen; omega) (by omega) hH7.size ?_
                intro v3 w3 hown11 hg11 _
                refine hK.out _ _ ?_ (fun hH11 => ?_)
                · exact hH7.grown hg11 hH7.size (fun g hg => (hown7.lt g hg).1)
                clear hK K
                try simp only [Act.put, List.setIfInBounds_toArray, List.set_cons_zero, List.set_cons_succ]
                refine wpAnyH_take (i := 12) (v := ?_) (by simp only [List.getElem?_toArray, List.getElem?_cons_succ, List.getElem?_cons_zero]; rfl) (by kernel_rfl) (by kernel_rfl) (by kernel_rfl) (by exact fun _ _ _ h => h) (Or.inl ⟨by rfl, ?_⟩) (by assumption) ?_
                rotate_left
                · intro w' hSw; (try dsimp only at hSw); go_simp; try with_reducible rfl
                try simp only [Act.put, List.setIfInBounds_toArray, List.set_cons_zero, List.set_cons_succ]
                refine wpAnyH_done (by kernel_rfl) ?_ _
                have HR3 : Hid (w3.ownsRow (w.heap.size + 1) 3 1 v3 (insAll (restU n p xs stop (k + 1))).length (ints (insAll (restU n p xs stop (k + 1))))) := by
                  show w3.ownsRow _ _ _ _ _ _
                  have e1 := HSucc.out
                  have e2 := HIns.out
                  have e3 : insF r L = L.take (0) ++ ([r] ++ L.drop (0)) := by unfold insF; rw [e2]
                  rw [show (insAll (restU n p xs stop (k + 1))).length = 0 + (0) + 1 + (L.length - (0)) by rw [e1, e3]; simp; omega, show ints (insAll (restU n p xs stop (k + 1))) = [] ++ (ints L).take (0) ++ [.int .i64 r] ++ (ints L).drop (0) by rw [e1, e3]; simp [ints]]
                  exact own_base hown11 (by omega)
                have HV3 := Lib.hid (own_someE hown11 (by omega))
                have HH := Lib.hid hH11
                clear hown11 hg11 hown7 hg7
                have HB3 : Hid (Below w.heap.size w w3 ∧ w.heap.size < w3.heap.size) := ⟨HB2.out.1.trans (HH.out.mono (by omega)), by have := HH.out.size; omega⟩
                have z0 := bkeep HH.out q0
                have z1 := bkeep HH.out q1
                clear HB2 q0 q1
                go_wp2_with fail
                exact ⟨⟨k + 1, by omega, by go_num, ⟨HV3.out, HR3.out⟩, z0, z1, HB3⟩, by simp [RowKit.intOf]; omega⟩
    · obtain rfl : k = xs.length := by omega
      have hlt1 : ¬ (xs.length : Int) < (xs.length : Int) := by omega
      have hX := HOwn.out.2
      have hle : w.heap.size ≤ w.heap.size + 1 := by omega
      have HX := Lib.hid (own_base hX hle)
      clear hX
      go_wp2_with fail
      go_ret
      exact ⟨⟨_, rfl, HX.out⟩, HB.out.1⟩
end Go.Proofs.Ytfgkfdkdjegaiaa
