/-
  CONTRACTS of impl.earliestArrival, impl.canTravel and impl.EarliestArrivals.
-/
import Derived.Test.YtmcpafflnccfaaaJrnMake
import Derived.Test.YtmcpafflnccfaaaIsValidJourney
import Derived.Test.YtmcpafflnccfaaaStopTimes
namespace Go.Proofs.Ytmcpafflnccfaaa
open Go.RowKit Go.Maps Jrn
set_option linter.unusedVariables false
set_option linter.unusedSimpArgs false

theorem LegMap.gr2 {lo b m : Nat} {No : Nat → Prop} {w w' : World} {L : List LegD} (h : LegMap lo b No w L) (hg : w.grownBy w' (some m)) (hm : m < lo) (hb : b ≠ m) : LegMap lo b No w' L := by
  obtain ⟨h1, n, f, p, hn, hmp, hr, hap, hno⟩ := h
  refine ⟨h1, n, f, p, hn, hmp.kept hg (by simpa using hb), fun s => (hr s).kept hg ?_, hap, hno⟩
  cases hv : (f (iLit s)).ownBlock with
  | none => exact .inl rfl
  | some g => exact .inr fun e => by have := ((hr s).lt g hv).1; simp at e; omega

set_option maxRecDepth 100000 in
set_option maxHeartbeats 4000000 in
theorem earliestArrival_any {lo bL : Nat} {No : Nat → Prop} {rs : List RideD} {ch frm too at_ : Int} (w : World) (h : LegMap lo bL No w (allLegs rs)) (hok : LegsOk (allLegs rs) ch too) (hf : (Lit.int .i64 frm).wf = true) (ht : (Lit.int .i64 at_).wf = true) :
    Calls Try.prog 89 #[.map (some bL), .int .i64 ch, .int .i64 frm, .int .i64 too, .int .i64 at_] w fun e w' => e = .returned (.int .i64 (Jrn.arrF rs ch frm at_ too)) ∧ Below w.heap.size w w' := by
  by_cases he : frm = too
  · have HA : Hid (Jrn.arrF rs ch frm at_ too = at_) := if_pos he
    have hd : (frm == too) = true := by simp [he]
    clear he h hok hf ht
    go_enter Try.func89, Try.ntmps89
    go_wp2_with fail
    go_ret
    exact ⟨ret_int HA.out.symm, Below.refl _ _⟩
  · have HA : Hid (Jrn.arrF rs ch frm at_ too = endO (Jrn.bestF (allLegs rs) ch too 4 frm at_)) := if_neg he
    have hd : (frm == too) = false := by simp [he]
    have HM := Lib.hid (journeysTo_any (ch := ch) (too := too) w h)
    have HFind := Lib.hid (fun W (hE : JEnv w.heap.size bL (allLegs rs) ch too 0 W) => find_any hok 4 (Nat.le_refl _) W frm at_ 0 hE hf ht (by decide))
    have hnil := eqNil
    clear he h hok hf ht
    unfold fnFind at HM
    unfold fnFind bV at HFind
    go_enter Try.func89, Try.ntmps89
    go_wp2_with fail
    go_at_call 56
    refine HM.out.mono ?_
    rintro e w1 ⟨rfl, hE1, hb1⟩
    have HFd := Lib.hid (HFind.out w1 hE1)
    have HB1 := Lib.hid hb1
    clear hE1 hb1
    go_wp2_with fail
    go_at_call 100
    refine HFd.out.mono ?_
    rintro e w2 ⟨v, rfl, hj, hE2, hg2⟩
    have HB2 : Hid (Below w.heap.size w w2) := HB1.out.trans (below_gr hg2 (by omega) HB1.out.size)
    clear hg2 hE2
    cases ho : Jrn.bestF (allLegs rs) ch too 4 frm at_ with
    | none =>
      rw [ho] at hj
      have hv : v = .slice none 0 0 := hj
      subst hv
      have HR : Hid (Jrn.arrF rs ch frm at_ too = -1) := by show _ = _; rw [HA.out, ho]; rfl
      clear hj ho
      go_wp2_with fail
      go_ret
      exact ⟨ret_int HR.out.symm, HB2.out⟩
    | some c =>
      rw [ho] at hj
      have hat := hj.at
      obtain ⟨⟨g, cap, rfl⟩, how⟩ := hj
      obtain ⟨hcne, -, hcl, -⟩ := best_sound ch too 4 frm at_ c ho
      have HR : Hid (Jrn.arrF rs ch frm at_ too = (lastL c).arr) := by show _ = _; rw [HA.out, ho, lastL_end hcne]; rfl
      have HEnd := Lib.hid (journeyEnd_any _ c w2 hat (by cases c with | nil => exact absurd rfl hcne | cons x c => simp) (by omega))
      rw [← HR.out] at HEnd
      clear how hat ho hcne hcl
      go_wp2_with fail
      go_at_call 79
      refine HEnd.out.mono ?_
      rintro e w3 ⟨rfl, rfl⟩
      go_wp2_with fail
      go_ret
      exact ⟨rfl, HB2.out⟩

/-- what is asked of a question -/
def EOk (t : TTD) (ch stop at_ : Int) : Prop := TTGood t ∧ (0 ≤ ch ∧ ch ≤ 30) ∧ (0 ≤ stop ∧ stop < (t.net.stops.length : Int)) ∧ TimeOk at_
noncomputable def eokB (t : TTD) (ch stop at_ : Int) : Bool := @decide (EOk t ch stop at_) (Classical.propDecidable _)
theorem eokB_yes {t : TTD} {ch stop at_ : Int} (h : EOk t ch stop at_) : eokB t ch stop at_ = true := by unfold eokB; exact @decide_eq_true _ (Classical.propDecidable _) h
theorem eokB_no {t : TTD} {ch stop at_ : Int} (h : ¬ EOk t ch stop at_) : eokB t ch stop at_ = false := by unfold eokB; exact @decide_eq_false _ (Classical.propDecidable _) h
theorem eokB_iff {t : TTD} {ch stop at_ : Int} (h : eokB t ch stop at_ = true) : EOk t ch stop at_ := by unfold eokB at h; exact @of_decide_eq_true _ (Classical.propDecidable _) h

set_option maxHeartbeats 2000000 in
theorem canTravel_any (v : Value) (t : TTD) (ch stop at_ : Int) (w : World) (hr : TTAt w v t) (hf : TTFits t) :
    Calls Try.prog 88 #[v, .int .i64 ch, .int .i64 stop, .int .i64 at_] w fun e w' => e = .returned (.bool (eokB t ch stop at_)) ∧ Below w.heap.size w w' := by
  have HG := Lib.hid (fun W (hW : Below w.heap.size w W) => implTT_any v t W (hr.below rfl hW) hf)
  obtain ⟨a, c, a', c', b, d, rfl, hn, -⟩ := tt_open hr
  have HS := Lib.hid (fun W (hW : Below w.heap.size w W) => isStopOf_any _ t.net stop W (hn.below rfl hW) hf.1)
  have HC := Lib.hid (fun W => isChange_any ch W)
  have HT := Lib.hid (fun W => implValidTime_any at_ W)
  clear hr hf hn
  by_cases hg : TTGood t
  · rw [ttB_yes hg] at HG
    by_cases hs : 0 ≤ stop ∧ stop < (t.net.stops.length : Int)
    · have hst : StopIn t.net stop := ⟨hg.1, hs.1, hs.2⟩
      have HSt : Hid (∀ W, Below w.heap.size w W → Calls Try.prog 98 #[.agg #[.slice a t.net.stops.length c, .slice a' t.net.lines.length c'], .int .i64 stop] W fun e w' => e = .returned (.bool true) ∧ Below W.heap.size W w') := fun W hW => (HS.out W hW).mono fun e w' ⟨h, hb⟩ => ⟨by rcases h with ⟨_, h⟩ | ⟨h, _⟩; exact h; exact absurd hst h, hb⟩
      have HE : Hid (eokB t ch stop at_ = (decide (0 ≤ ch ∧ ch ≤ 30) && timeB at_)) := by
        show _ = _
        by_cases h1 : 0 ≤ ch ∧ ch ≤ 30
        · by_cases h2 : TimeOk at_
          · rw [eokB_yes ⟨hg, h1, hs, h2⟩, decide_eq_true h1, timeB_yes h2]; rfl
          · rw [eokB_no (fun h => h2 h.2.2.2), timeB_no h2]; simp
        · rw [eokB_no (fun h => h1 h.2.1), decide_eq_false h1]; rfl
      rw [HE.out]
      clear hg hs hst HS HE
      generalize decide (0 ≤ ch ∧ ch ≤ 30) = cb at *
      cases cb <;>
      · go_enter Try.func88, Try.ntmps88
        go_wp2_with fail
        go_at_call 80
        refine (HG.out _ ((Below.refl _ _).alloc (Nat.le_refl _) _)).mono ?_
        rintro e w1 ⟨rfl, hb⟩
        have HB1 : Hid (Below w.heap.size w w1) := ((Below.refl _ _).alloc (Nat.le_refl _) _).trans (hb.mono (by simp))
        have z0 : w1.cell? ⟨w.heap.size, 0, none⟩ = some (.slice a t.net.stops.length c) := bkeep hb (by go_simp)
        have z1 : w1.cell? ⟨w.heap.size, 1, none⟩ = some (.slice a' t.net.lines.length c') := bkeep hb (by go_simp)
        have z2 : w1.cell? ⟨w.heap.size, 2, none⟩ = some (.slice b t.trips.length d) := bkeep hb (by go_simp)
        clear hb
        go_wp2_with fail
        go_at_call 98
        refine (HSt.out _ HB1.out).mono ?_
        rintro e w2 ⟨rfl, hb⟩
        have HB2 : Hid (Below w.heap.size w w2) := HB1.out.trans (hb.mono HB1.out.size)
        clear hb z0 z1 z2
        go_wp2_with fail
        go_at_call 81
        refine (HC.out _).mono ?_
        rintro e w3 ⟨rfl, rfl⟩
        go_wp2_with (go_at_call 91; refine (HT.out _).mono ?_; rintro e w4 ⟨rfl, rfl⟩)
        go_ret
        exact ⟨by first | rfl | simp, HB2.out⟩
    · have hst : ¬ StopIn t.net stop := fun h => hs ⟨h.2.1, h.2.2⟩
      have HSt : Hid (∀ W, Below w.heap.size w W → Calls Try.prog 98 #[.agg #[.slice a t.net.stops.length c, .slice a' t.net.lines.length c'], .int .i64 stop] W fun e w' => e = .returned (.bool false) ∧ Below W.heap.size W w') := fun W hW => (HS.out W hW).mono fun e w' ⟨h, hb⟩ => ⟨by rcases h with ⟨h, _⟩ | ⟨_, h⟩; exact absurd h hst; exact h, hb⟩
      rw [eokB_no (fun h => hs h.2.2.1)]
      clear hg hs hst HS
      go_enter Try.func88, Try.ntmps88
      go_wp2_with fail
      go_at_call 80
      refine (HG.out _ ((Below.refl _ _).alloc (Nat.le_refl _) _)).mono ?_
      rintro e w1 ⟨rfl, hb⟩
      have HB1 : Hid (Below w.heap.size w w1) := ((Below.refl _ _).alloc (Nat.le_refl _) _).trans (hb.mono (by simp))
      have z0 : w1.cell? ⟨w.heap.size, 0, none⟩ = some (.slice a t.net.stops.length c) := bkeep hb (by go_simp)
      have z1 : w1.cell? ⟨w.heap.size, 1, none⟩ = some (.slice a' t.net.lines.length c') := bkeep hb (by go_simp)
      clear hb
      go_wp2_with fail
      go_at_call 98
      refine (HSt.out _ HB1.out).mono ?_
      rintro e w2 ⟨rfl, hb⟩
      have HB2 : Hid (Below w.heap.size w w2) := HB1.out.trans (hb.mono HB1.out.size)
      clear hb z0 z1
      go_wp2_with fail
      go_ret
      exact ⟨rfl, HB2.out⟩
  · rw [ttB_no hg] at HG
    rw [eokB_no (fun h => hg h.1)]
    clear hg
    go_enter Try.func88, Try.ntmps88
    go_wp2_with fail
    go_at_call 80
    refine (HG.out _ ((Below.refl _ _).alloc (Nat.le_refl _) _)).mono ?_
    rintro e w1 ⟨rfl, hb⟩
    have HB1 : Hid (Below w.heap.size w w1) := ((Below.refl _ _).alloc (Nat.le_refl _) _).trans (hb.mono (by simp))
    clear hb
    go_wp2_with fail
    go_ret
    exact ⟨rfl, HB1.out⟩

/-- all earliest arrivals -/
noncomputable def eaL (t : TTD) (ch frm at_ : Int) (n : Nat) : List Int := (List.range n).map (fun s : Nat => Jrn.arrF (rides t) ch frm at_ (s : Int))
theorem eaL_succ (t : TTD) (ch frm at_ : Int) (n : Nat) : eaL t ch frm at_ (n + 1) = eaL t ch frm at_ n ++ [Jrn.arrF (rides t) ch frm at_ (n : Int)] := by simp [eaL, List.range_succ]
theorem eaL_len (t : TTD) (ch frm at_ : Int) (n : Nat) : (eaL t ch frm at_ n).length = n := by simp [eaL]
noncomputable def eaF (t : TTD) (ch frm at_ : Int) : List Int := if eokB t ch frm at_ then eaL t ch frm at_ t.net.stops.length else []

set_option maxRecDepth 100000 in
set_option maxHeartbeats 4000000 in
theorem implEA_any (v : Value) (t : TTD) (ch frm at_ : Int) (w : World) (hr : TTAt w v t) (hf : TTFits t) (hs : TTSmall t) :
    Calls Try.prog 43 #[v, .int .i64 ch, .int .i64 frm, .int .i64 at_] w fun e w' => StAns w.heap.size (eaF t ch frm at_) (eokB t ch frm at_) e w' ∧ Below w.heap.size w w' := by
  have HG := Lib.hid (fun W (hW : Below w.heap.size w W) => canTravel_any v t ch frm at_ W (hr.below rfl hW) hf)
  have HLB := Lib.hid (fun (hg : TTGood t) W (hW : Below w.heap.size w W) => legsByStop_any v t W (hr.below rfl hW) hg)
  obtain ⟨a, c, a', c', b, d, rfl, -, -⟩ := tt_open hr
  clear hr hf hs
  obtain ⟨i0, hi0, hz0, hz1, hz2⟩ := info_parts infoInt
  obtain ⟨wa, hwa⟩ : ∃ wa : World, wa = (w.alloc (.cells #[.slice a t.net.stops.length c, .slice a' t.net.lines.length c', .slice b t.trips.length d] 38)).alloc (.cells #[] 3) := ⟨_, rfl⟩
  have p0 : wa.cell? ⟨w.heap.size, 0, none⟩ = some (.slice a t.net.stops.length c) := by rw [hwa]; go_simp
  have p1 : wa.cell? ⟨w.heap.size, 1, none⟩ = some (.slice a' t.net.lines.length c') := by rw [hwa]; go_simp
  have p2 : wa.cell? ⟨w.heap.size, 2, none⟩ = some (.slice b t.trips.length d) := by rw [hwa]; go_simp
  have hba : Below w.heap.size w wa := by rw [hwa]; exact ((Below.refl _ _).alloc (Nat.le_refl _) _).alloc (by simp) _
  have hO : wa.ownsRow (w.heap.size + 1) 3 1 (.slice (some ⟨w.heap.size + 1, 0, none⟩) 0 0) 0 (ints []) := by
    have h := row_new (w.alloc (.cells #[.slice a t.net.stops.length c, .slice a' t.net.lines.length c', .slice b t.trips.length d] 38)) (w.heap.size + 1) (by simp)
    simp only [World.size_alloc] at h
    rw [hwa]; exact h
  have hza : w.heap.size + 2 ≤ wa.heap.size := by rw [hwa]; simp
  have HWA := Lib.hid hwa
  clear hwa
  cases he : eokB t ch frm at_ with
  | false =>
    rw [he] at HG
    have HR : Hid (eaF t ch frm at_ = []) := by show _ = _; unfold eaF; rw [he]; rfl
    rw [HR.out]
    have HO := Lib.hid hO
    clear he hO HLB
    go_enter Try.func43, Try.ntmps43
    go_wp2_with fail
    rw [← HWA.out]
    go_at_call 88
    refine (HG.out _ hba).mono ?_
    rintro e w1 ⟨rfl, hb⟩
    have HB1 : Hid (Below w.heap.size w w1) := hba.trans (hb.mono hba.size)
    have HO1 := Lib.hid (own_later HO.out hb)
    clear hb hba p0 p1 p2 hza HWA HO
    go_wp2_with fail
    go_ret2
    exact ⟨⟨_, rfl, own_base HO1.out (Nat.le_succ _)⟩, HB1.out⟩
  | true =>
    rw [he] at HG
    obtain ⟨hg, hch, hst, hat⟩ := eokB_iff he
    have HR : Hid (eaF t ch frm at_ = eaL t ch frm at_ t.net.stops.length) := by show _ = _; unfold eaF; rw [he]; rfl
    rw [HR.out]
    have HL := Lib.hid (HLB.out hg)
    have h8 : t.net.stops.length ≤ 8 := hg.1.1.2.1
    have HOk := Lib.hid (fun too => legsOk_of hg hch.1 hch.2 too)
    have HWf := Lib.hid (wfI (a := frm) hst.1 (by omega))
    have HWt := Lib.hid (wfI (a := at_) hat.1 (by have := hat.2; omega))
    have HO := Lib.hid hO
    clear he hO HLB hg hch hst hat HR
    go_enter Try.func43, Try.ntmps43
    go_wp2_with fail
    rw [← HWA.out]
    go_at_call 88
    refine (HG.out _ hba).mono ?_
    rintro e w1 ⟨rfl, hb⟩
    have HB1 : Hid (Below w.heap.size w w1) := hba.trans (hb.mono hba.size)
    have HO1 := Lib.hid (own_later HO.out hb)
    have z0 := bkeep hb p0
    have z1 := bkeep hb p1
    have z2 := bkeep hb p2
    have hz1' : w.heap.size + 2 ≤ w1.heap.size := Nat.le_trans hza hb.size
    clear hb hba p0 p1 p2 hza HWA HO
    go_wp2_with fail
    go_at_call 57
    refine (HL.out _ HB1.out).mono ?_
    rintro e w2 ⟨⟨rfl, hlm⟩, hb⟩
    have HB2 : Hid (Below w.heap.size w w2) := HB1.out.trans (hb.mono HB1.out.size)
    have HO2 := Lib.hid (own_later HO1.out hb)
    have q0 := bkeep hb z0
    have hz2' : w1.heap.size ≤ w2.heap.size := hb.size
    have HLM := Lib.hid hlm
    clear hb hlm z0 z1 z2 HO1
    go_wp2_with fail
    go_loopw [10, 27] (fun o q wr => ∃ n : Nat, n ≤ t.net.stops.length ∧ q = .int .i64 n ∧ Hid (wr.ownsRow (w.heap.size + 1) 3 1 o n (ints (eaL t ch frm at_ n))) ∧ Hid (∀ g, o.ownBlock = some g → g = w.heap.size + 1 ∨ w2.heap.size ≤ g) ∧ Hid (w2.grownBy wr (some (w.heap.size + 1)))) (fun _ q _ => t.net.stops.length - (RowKit.intOf q).toNat)
    case atStart => exact ⟨0, Nat.zero_le _, rfl, HO2.out, fun g hg => .inl (by simpa [Value.ownBlock] using hg.symm), World.grownBy.refl _ _⟩
    case round =>
      obtain ⟨n, hn, rfl, HOwn, HLoc, HG2⟩ := hrel
      obtain ⟨oa, oc, rfl⟩ := own_shape HOwn.out
      by_cases hlt : n < t.net.stops.length
      · have hn1 : (n : Int) < (t.net.stops.length : Int) := by omega
        have HE := Lib.hid (earliestArrival_any (too := (n : Int)) wr (HLM.out.gr2 HG2.out (by omega) (by omega)) (HOk.out n) HWf.out HWt.out)
        have HSucc := Lib.hid (eaL_succ t ch frm at_ n)
        generalize Jrn.arrF (rides t) ch frm at_ (n : Int) = ar at *
        have hgz := HG2.out.size
        go_wp2_with fail
        go_at_call 89
        refine HE.out.mono ?_
        rintro e w3 ⟨rfl, hb⟩
        have HO3 := Lib.hid (own_later HOwn.out hb)
        have HG3 := Lib.hid (gr_trans HG2.out (gr_below hb (some (w.heap.size + 1))))
        have hz3 := hb.size
        clear hb
        go_wp2_with (at_builtin; refine wpList_append_own_at _ rfl _ _ 51 rfl (w.heap.size + 1) 3 i0 (.int .i64 0) 1 8 Try.underlying51 hi0 hz0 hz1 hz2 rfl (by decide) _ n _ rfl (HO3.out.alloc _) ⟨w3.heap.size, 0, none⟩ 1 1 [.int .i64 ar] rfl rfl ?c1 ?c2 ?c3 ?c4 ?c5 ?_)
        case c1 => exact one_new _ _
        case c2 => intro u hu; simp at hu; subst hu; rfl
        case c3 => unfold maxLen; omega
        case c4 => omega
        case c5 => simp; omega
        intro v' w4 hown' hgrow _ hloc
        have HO4 : Hid (w4.ownsRow (w.heap.size + 1) 3 1 v' (n + 1) (ints (eaL t ch frm at_ (n + 1)))) := by
          show w4.ownsRow _ _ _ _ _ _
          rw [HSucc.out]; simpa [ints] using hown'
        have HLoc4 : Hid (∀ g, v'.ownBlock = some g → g = w.heap.size + 1 ∨ w2.heap.size ≤ g) := fun g hg => by
          rcases hloc with e | e
          · exact HLoc.out g (by rw [← e]; exact hg)
          · rw [e] at hg; simp at hg; exact .inr (by omega)
        have HG4 : Hid (w2.grownBy w4 (some (w.heap.size + 1))) := by
          have h3 : w3.grownBy w4 (some (w.heap.size + 1)) ∨ True := .inr trivial
          refine ⟨hgrow.os.trans HG3.out.os, hgrow.tape.trans HG3.out.tape, hgrow.output.trans HG3.out.output, by have := hgrow.size; simp at this; have := HG3.out.size; omega, fun q hq hne => ?_⟩
          have hq3 : q < w3.heap.size := by have := HG3.out.size; omega
          rw [hgrow.block q (by simp; omega) (fun e => ?_), ← HG3.out.block q hq hne]
          · exact ((Below.refl w3.heap.size w3).alloc (Nat.le_refl _) _).block q hq3
          · rcases HLoc.out q e.symm with h | h
            · exact hne (by rw [h])
            · omega
        clear hown' hgrow hloc
        go_wp2_with fail
        go_roundw
        case rel => exact ⟨n + 1, by omega, by go_num, HO4, HLoc4, HG4⟩
        case measure => simp [RowKit.intOf]; omega
      · obtain rfl : n = t.net.stops.length := by omega
        have hn1 : ¬ (t.net.stops.length : Int) < (t.net.stops.length : Int) := by omega
        have HBr : Hid (Below w.heap.size w wr) := HB2.out.trans (below_gr HG2.out (by omega) HB2.out.size)
        go_wp2_with fail
        go_ret2
        exact ⟨⟨_, rfl, by rw [eaL_len]; exact own_base HOwn.out (Nat.le_succ _)⟩, HBr.out⟩
end Go.Proofs.Ytmcpafflnccfaaa
