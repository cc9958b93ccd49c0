/-
  CONTRACT of impl.LatestDeparture.
-/
import Derived.Test.YtniankcjgcackaaPair
namespace Go.Proofs.Ytniankcjgcackaa
open Go.RowKit Go.Maps Jrn
set_option linter.unusedVariables false
set_option linter.unusedSimpArgs false

noncomputable def gLd (L : List LegD) (ch too by_ frm d : Int) : Bool := goodO by_ (Jrn.bestF L ch too 4 frm d)
noncomputable def ldF (t : TTD) (ch frm too by_ : Int) : Int × Bool := if pairB t ch frm too by_ then lateF (gLd (allLegs (rides t)) ch too by_ frm) (legsAt (allLegs (rides t)) frm) else (0, false)
theorem late_yes {g : Int → Bool} {xs : List LegD} {l : LegD} (h : g l.dep = true) : lateF g (xs ++ [l]) = ((if (lateF g xs).1 < l.dep then l.dep else (lateF g xs).1), true) := by rw [lateF_snoc, h]; rfl
theorem late_no {g : Int → Bool} {xs : List LegD} {l : LegD} (h : g l.dep = false) : lateF g (xs ++ [l]) = lateF g xs := by rw [lateF_snoc, h]; rfl

set_option maxRecDepth 100000 in
set_option maxHeartbeats 4000000 in
theorem implLD_any (v : Value) (t : TTD) (ch frm too by_ : Int) (w : World) (hr : TTAt w v t) (hf : TTFits t) (hs : TTSmall t) :
    Calls Try.prog 34 #[v, .int .i64 ch, .int .i64 frm, .int .i64 too, .int .i64 by_] w fun e w' => e = .returned (.tuple #[.int .i64 (ldF t ch frm too by_).1, .bool (ldF t ch frm too by_).2]) ∧ Below w.heap.size w w' := by
  have HF := Lib.hid (fun W (hW : Below w.heap.size w W) => canTravelBetween_any v t ch frm too by_ W (hr.below rfl hW) hf hs)
  have HLB := Lib.hid (fun (hg : TTGood t) W (hW : Below w.heap.size w W) => legsByStop_any v t W (hr.below rfl hW) hg)
  obtain ⟨a, c, a', c', b, d, rfl, -, -⟩ := tt_open hr
  clear hr hf hs
  cases hp : pairB t ch frm too by_ with
  | false =>
    rw [hp] at HF
    have HR : Hid (ldF t ch frm too by_ = (0, false)) := by show _ = _; unfold ldF; rw [hp]; rfl
    rw [HR.out]
    clear hp HLB
    go_enter Try.func34, Try.ntmps34
    go_wp2_with fail
    go_at_call 99
    refine (HF.out _ ((Below.refl _ _).alloc (Nat.le_refl _) _)).mono ?_
    rintro e w1 ⟨rfl, hb⟩
    have HB1 : Hid (Below w.heap.size w w1) := ((Below.refl _ _).alloc (Nat.le_refl _) _).trans (hb.mono (by simp))
    have z0 : w1.cell? ⟨w.heap.size, 0, none⟩ = some (.slice a t.net.stops.length c) := bkeep hb (by go_simp)
    have z1 : w1.cell? ⟨w.heap.size, 1, none⟩ = some (.slice a' t.net.lines.length c') := bkeep hb (by go_simp)
    have z2 : w1.cell? ⟨w.heap.size, 2, none⟩ = some (.slice b t.trips.length d) := bkeep hb (by go_simp)
    clear hb
    clear z0 z1 z2
    go_wp2_with fail
    go_ret2
    exact ⟨rfl, HB1.out⟩
  | true =>
    rw [hp] at HF
    obtain ⟨⟨hg, hch, hst, hat⟩, hto, hne⟩ := pairB_iff hp
    have HR : Hid (ldF t ch frm too by_ = lateF (gLd (allLegs (rides t)) ch too by_ frm) (legsAt (allLegs (rides t)) frm)) := by show _ = _; unfold ldF; rw [hp]; rfl
    rw [HR.out]
    have HL := Lib.hid (HLB.out hg)
    have HOk := Lib.hid (legsOk_of hg hch.1 hch.2 too)
    have h8 := hg.1.1.2.1
    have HWf := Lib.hid (wfI (a := frm) hst.1 (by omega))
    have HJT := Lib.hid (fun W (lo bL : Nat) (No : Nat → Prop) (h : LegMap lo bL No W (allLegs (rides t))) => journeysTo_any (ch := ch) (too := too) W h)
    clear hp HLB hg hch hst hat hto hne HR
    generalize allLegs (rides t) = L at *
    have HFind := Lib.hid (fun (b bL : Nat) W (s u : Int) (n : Nat) (hE : JEnv b bL L ch too n W) h1 h2 h3 => find_any HOk.out 4 (Nat.le_refl _) W s u n hE h1 h2 h3)
    have hnen := neNil
    obtain ⟨ls, HLs⟩ : ∃ ls, Hid (legsAt L frm = ls) := ⟨_, rfl⟩
    obtain ⟨gd, Hgd⟩ : ∃ gd, Hid (gLd L ch too by_ frm = gd) := ⟨_, rfl⟩
    rw [Hgd.out, HLs.out]
    unfold fnFind at HJT
    unfold fnFind bV at HFind
    go_enter Try.func34, Try.ntmps34
    go_wp2_with fail
    go_at_call 99
    refine (HF.out _ ((Below.refl _ _).alloc (Nat.le_refl _) _)).mono ?_
    rintro e w1 ⟨rfl, hb⟩
    have HB1 : Hid (Below w.heap.size w w1) := ((Below.refl _ _).alloc (Nat.le_refl _) _).trans (hb.mono (by simp))
    have z0 : w1.cell? ⟨w.heap.size, 0, none⟩ = some (.slice a t.net.stops.length c) := bkeep hb (by go_simp)
    have z1 : w1.cell? ⟨w.heap.size, 1, none⟩ = some (.slice a' t.net.lines.length c') := bkeep hb (by go_simp)
    have z2 : w1.cell? ⟨w.heap.size, 2, none⟩ = some (.slice b t.trips.length d) := bkeep hb (by go_simp)
    clear hb
    go_wp2_with fail
    go_at_call 86
    refine (HL.out _ HB1.out).mono ?_
    rintro e w2 ⟨⟨rfl, hlm⟩, hb⟩
    have HB2 : Hid (Below w.heap.size w w2) := HB1.out.trans (hb.mono HB1.out.size)
    have HJ2 := Lib.hid (HJT.out _ _ _ _ hlm)
    obtain ⟨bL, HbL⟩ : ∃ bL, Hid (w1.heap.size + 1 = bL) := ⟨_, rfl⟩
    rw [HbL.out] at HJ2 ⊢
    clear hb hlm z0 z1 z2
    go_wp2_with fail
    go_at_call 100
    refine HJ2.out.mono ?_
    rintro e w3 ⟨rfl, hE3, hb⟩
    have HB3 : Hid (Below w.heap.size w w3) := HB2.out.trans (hb.mono HB2.out.size)
    have hz2 := HB2.out.size
    obtain ⟨b3, Hb3⟩ : ∃ b3, Hid (w2.heap.size = b3) := ⟨_, rfl⟩
    rw [Hb3.out] at hE3 ⊢ hz2
    have HE3 := Lib.hid hE3
    obtain ⟨hbl, lo, hlm⟩ := hE3.map
    obtain ⟨vL, hlkL, hown, hno⟩ := hlm.look2 frm HWf.out
    have hmem : ∀ l ∈ legsAt L frm, l ∈ L := fun l hl => (List.mem_filter.1 hl).1
    have HMem := Lib.hid hmem
    have hll : (legsAt L frm).length ≤ 432 := Nat.le_trans (legsAt_len L frm) HOk.out.len
    have HVb : Hid (vL.ownBlock ≠ some (b3 + 3)) := fun e => hno _ e (by show b3 ≤ b3 + 3; omega)
    have HOwn := Lib.hid hown
    obtain ⟨la, lc, rfl⟩ := own_shape hown
    rw [HLs.out] at hll HOwn HVb HMem hlkL
    have HBd : Hid (∀ l ∈ L, (Lit.int .i64 l.dep).wf = true) := fun l hl => by
      obtain ⟨-, -, -, h4, h5, -⟩ := HOk.out.leg l hl
      exact wfI (by omega) (by omega)
    clear hb hE3 hbl hlm hown hno hmem
    go_wp2_with fail
    go_loopw [12, 13, 38] (fun x ob q wr => ∃ m : Nat, m ≤ ls.length ∧ q = .int .i64 m ∧ x = .int .i64 (lateF gd (ls.take m)).1 ∧ ob = .bool (lateF gd (ls.take m)).2 ∧ Hid (JEnv b3 bL L ch too (0 + m * cst 4) wr) ∧ Hid (w3.grownBy wr (some (b3 + 3))) ∧ Hid (wr.ownsRow lo 62 5 (.slice la ls.length lc) ls.length (legC ls))) (fun _ _ q _ => ls.length - (RowKit.intOf q).toNat)
    case atStart => exact ⟨0, Nat.zero_le _, rfl, rfl, rfl, HE3.out.mono (by omega), World.grownBy.refl _ _, HOwn.out⟩
    case round =>
      clear HOwn HE3
      obtain ⟨wo, rfl⟩ : ∃ wo : World, wo = wr := ⟨_, rfl⟩
      obtain ⟨m, hm, rfl, rfl, rfl, HE, HG, HOwn⟩ := hrel
      by_cases hlt : m < ls.length
      · have hat := legsAt_own HOwn.out
        obtain ⟨g, go, rfl, hgb, y0, y1, y2, y3, y4⟩ := leg_at hat m hlt
        have hm1 : (m : Int) < (ls.length : Int) := by omega
        have hlL := HMem.out _ (List.getElem_mem hlt)
        have HTk : Hid (ls.take (m + 1) = ls.take m ++ [ls[m]]) := List.take_succ_eq_append_getElem hlt
        have HMul : Hid (m * cst 4 + cst 4 = (m + 1) * cst 4 ∧ (m + 1) * cst 4 ≤ 432 * cst 4) := ⟨(Nat.succ_mul _ _).symm, Nat.mul_le_mul_right _ (by omega)⟩
        generalize ls[m] = l at *
        obtain ⟨x0, ob0, HX⟩ : ∃ x0 ob0, Hid (lateF gd (ls.take m) = (x0, ob0)) := ⟨_, _, rfl⟩
        rw [HX.out]
        simp only
        have hbl : Below wo.heap.size wo (wo.alloc (.cells #[.int .i64 l.trip, .int .i64 l.frm, .int .i64 l.dst, .int .i64 l.dep, .int .i64 l.arr] 62)) := (Below.refl _ _).alloc (Nat.le_refl _) _
        have HBl := Lib.hid hbl
        have HEl := Lib.hid (HE.out.later hbl)
        have HFd := Lib.hid (HFind.out b3 bL _ frm l.dep (0 + m * cst 4) HEl.out HWf.out (HBd.out l hlL) (by have h1 := HMul.out; have h2 : 432 * cst 4 ≤ 100000000000 := (by decide); omega))
        have HOl := Lib.hid (own_later HOwn.out hbl)
        have hsz := HE.out.size
        have hcF := HEl.out.cF
        clear hat hbl
        go_wp2_with fail
        go_at_call 180
        refine HFd.out.mono ?_
        rintro e w5 ⟨vJ, rfl, hj, hE5, hg5⟩
        have HE5 : Hid (JEnv b3 bL L ch too (0 + (m + 1) * cst 4) w5) := hE5.mono (by have := HMul.out.1; omega)
        have HG5 := Lib.hid (gr_trans (gr_trans HG.out (gr_below HBl.out _)) hg5)
        have HO5 := Lib.hid (gr_own hg5 HOl.out HVb.out)
        have e3 := gr_cell hg5 (show (wo.alloc (.cells #[.int .i64 l.trip, .int .i64 l.frm, .int .i64 l.dst, .int .i64 l.dep, .int .i64 l.arr] 62)).cell? ⟨wo.heap.size, 3, none⟩ = some (.int .i64 l.dep) by go_simp) (by show wo.heap.size ≠ b3 + 3; omega)
        clear hE5 hg5 y0 y1 y2 y3 y4 hcF HOwn HOl HE HEl HG HFd
        cases ho : Jrn.bestF L ch too 4 frm l.dep with
        | none =>
          rw [ho] at hj
          have hv : vJ = .slice none 0 0 := hj
          subst hv
          have HLt : Hid (lateF gd (ls.take (m + 1)) = (x0, ob0)) := by
            show _ = _
            rw [HTk.out, late_no (by rw [← Hgd.out]; unfold gLd; rw [ho]; rfl), HX.out]
          clear hj ho
          go_wp2_with fail
          go_roundw
          case rel => exact ⟨m + 1, by omega, by go_num, by rw [HLt.out], by rw [HLt.out], HE5, HG5, HO5⟩
          case measure => simp [RowKit.intOf]; omega
        | some cj =>
          rw [ho] at hj
          have hat := hj.at
          obtain ⟨⟨gj, capj, rfl⟩, how⟩ := hj
          obtain ⟨hcne, -, hcl, -⟩ := best_sound ch too 4 frm l.dep cj ho
          have HEnd := Lib.hid (journeyEnd_any _ cj w5 hat (by cases cj with | nil => exact absurd rfl hcne | cons x c => simp) (by omega))
          have HGo : Hid (gd l.dep = decide ((lastL cj).arr ≤ by_)) := by
            show _ = _
            rw [← Hgd.out]; unfold gLd; rw [ho, lastL_end hcne]; rfl
          generalize (lastL cj).arr = ar at *
          clear how hat ho hcne
          by_cases hle : ar ≤ by_
          · by_cases hmx : x0 < l.dep
            · have HLt : Hid (lateF gd (ls.take (m + 1)) = (l.dep, true)) := by
                show _ = _
                rw [HTk.out, late_yes (by rw [HGo.out]; exact decide_eq_true hle), HX.out]
                simp only [hmx, if_true]
              go_wp2_with fail
              go_at_call 102
              refine HEnd.out.mono ?_
              rintro e w6 ⟨rfl, rfl⟩
              go_wp2_with fail
              go_roundw
              case rel => exact ⟨m + 1, by omega, by go_num, by rw [HLt.out], by rw [HLt.out], HE5, HG5, HO5⟩
              case measure => simp [RowKit.intOf]; omega
            · have HLt : Hid (lateF gd (ls.take (m + 1)) = (x0, true)) := by
                show _ = _
                rw [HTk.out, late_yes (by rw [HGo.out]; exact decide_eq_true hle), HX.out]
                simp only [hmx, if_false]
              go_wp2_with fail
              go_at_call 102
              refine HEnd.out.mono ?_
              rintro e w6 ⟨rfl, rfl⟩
              go_wp2_with fail
              go_roundw
              case rel => exact ⟨m + 1, by omega, by go_num, by rw [HLt.out], by rw [HLt.out], HE5, HG5, HO5⟩
              case measure => simp [RowKit.intOf]; omega
          · have HLt : Hid (lateF gd (ls.take (m + 1)) = (x0, ob0)) := by
              show _ = _
              rw [HTk.out, late_no (by rw [HGo.out]; exact decide_eq_false hle), HX.out]
            go_wp2_with fail
            go_at_call 102
            refine HEnd.out.mono ?_
            rintro e w6 ⟨rfl, rfl⟩
            go_wp2_with fail
            go_roundw
            case rel => exact ⟨m + 1, by omega, by go_num, by rw [HLt.out], by rw [HLt.out], HE5, HG5, HO5⟩
            case measure => simp [RowKit.intOf]; omega
      · obtain rfl : m = ls.length := by omega
        have hm1 : ¬ (ls.length : Int) < (ls.length : Int) := by omega
        have HBr : Hid (Below w.heap.size w wo) := HB3.out.trans (below_gr HG.out (by omega) HB3.out.size)
        rw [List.take_length]
        go_wp2_with fail
        go_ret2
        exact ⟨rfl, HBr.out⟩
end Go.Proofs.Ytniankcjgcackaa
