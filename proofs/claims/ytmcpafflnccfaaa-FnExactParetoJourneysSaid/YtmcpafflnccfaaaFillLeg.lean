/-
  CONTRACTS of spec.FillLeg and impl.FillLeg; both sides.
-/
import Derived.Test.YtmcpafflnccfaaaFillS
import Derived.Test.YtmcpafflnccfaaaLegsBy
import Derived.Test.YtmcpafflnccfaaaL5Good
import Derived.Test.YtmcpafflnccfaaaMa
import Derived.Test.YtmcpafflnccfaaaIsValidTimetable
import Derived.Test.YtmcpafflnccfaaaMb
namespace Go.Proofs.Ytmcpafflnccfaaa
open Go.RowKit Jrn Go.Maps
set_option linter.unusedVariables false
set_option linter.unusedSimpArgs false

noncomputable def fillA (t : TTD) (trip frm dst : Int) : Option LegD := if TTGood t then fillF (allLegs (rides t)) trip frm dst else none
theorem fillA_out {t : TTD} (hg : TTGood t) {trip frm dst : Int} (h : ¬ (0 ≤ frm ∧ frm ≤ (t.net.stops.length : Int) - 1) ∨ ¬ (0 ≤ dst ∧ dst ≤ (t.net.stops.length : Int) - 1)) : fillA t trip frm dst = none := by
  unfold fillA
  rw [if_pos hg]
  cases hf : fillF (allLegs (rides t)) trip frm dst with
  | none => rfl
  | some l =>
    exfalso
    obtain ⟨h1, h2, h3, h4⟩ := fillF_some hf
    have := legs_bound hg l h1
    omega

theorem find_at {α : Type} {p : α → Bool} {xs : List α} {k : Nat} (hk : k < xs.length) (hp : p xs[k] = true) (hno : ∀ j (hj : j < xs.length), j < k → p xs[j] = false) : xs.find? p = some xs[k] := by
  rw [List.find?_eq_some_iff_getElem]
  exact ⟨hp, k, hk, rfl, fun j hj => by simp [hno j (by omega) hj]⟩
theorem find_end {α : Type} {p : α → Bool} {xs : List α} (hno : ∀ j (hj : j < xs.length), p xs[j] = false) : xs.find? p = none := by
  rw [List.find?_eq_none]
  intro x hx
  obtain ⟨j, hj, rfl⟩ := List.getElem_of_mem hx
  simp [hno j hj]

set_option maxRecDepth 100000 in
set_option maxHeartbeats 4000000 in
theorem implFillLeg_any (v : Value) (t : TTD) (trip frm dst : Int) (hwf : (Lit.int .i64 frm).wf = true) (w : World) (hr : TTAt w v t) (hf : TTFits t) (hs : TTSmall t) :
    Calls Try.prog 35 #[v, .int .i64 trip, .int .i64 frm, .int .i64 dst] w fun e w' => e = .returned (.tuple #[legV (legO (fillA t trip frm dst)), .bool (fillA t trip frm dst).isSome]) ∧ Below w.heap.size w w' := by
  have HG := Lib.hid (fun W (hW : Below w.heap.size w W) => implTT_any v t W (hr.below rfl hW) hf)
  have HLB := Lib.hid (fun (hg : TTGood t) W (hW : Below w.heap.size w W) => legsByStop_any v t W (hr.below rfl hW) hg)
  obtain ⟨a, c, a', c', b, d, rfl, -, -⟩ := tt_open hr
  clear hr hf hs
  obtain ⟨wa, hwa⟩ : ∃ wa : World, wa = (w.alloc (.cells #[.slice a t.net.stops.length c, .slice a' t.net.lines.length c', .slice b t.trips.length d] 38)).alloc (.cells #[.int .i64 0, .int .i64 0, .int .i64 0, .int .i64 0, .int .i64 0] 62) := ⟨_, rfl⟩
  have p0 : wa.cell? ⟨w.heap.size, 0, none⟩ = some (.slice a t.net.stops.length c) := by rw [hwa]; go_simp
  have p1 : wa.cell? ⟨w.heap.size, 1, none⟩ = some (.slice a' t.net.lines.length c') := by rw [hwa]; go_simp
  have p2 : wa.cell? ⟨w.heap.size, 2, none⟩ = some (.slice b t.trips.length d) := by rw [hwa]; go_simp
  have hba : Below w.heap.size w wa := by rw [hwa]; exact ((Below.refl _ _).alloc (Nat.le_refl _) _).alloc (by simp) _
  have HZa : Hid (Z5 wa (w.heap.size + 1)) := by
    have h := Z5.new (w.alloc (.cells #[.slice a t.net.stops.length c, .slice a' t.net.lines.length c', .slice b t.trips.length d] 38))
    simp only [World.size_alloc] at h
    rw [hwa]; exact h
  have HWA := Lib.hid hwa
  clear hwa
  by_cases hg : TTGood t
  · rw [ttB_yes hg] at HG
    have HX : Hid (fillA t trip frm dst = (legsAt (allLegs (rides t)) frm).find? (fun l => l.trip = trip ∧ l.dst = dst)) := if_pos hg
    have HL := Lib.hid (HLB.out hg)
    have hlen : (legsAt (allLegs (rides t)) frm).length ≤ 432 := Nat.le_trans (legsAt_len _ _) (allLegs_len12 hg)
    clear hg HLB
    generalize allLegs (rides t) = L at *
    go_enter Try.func35, Try.ntmps35
    go_wp2_with fail
    rw [← HWA.out]
    clear HWA
    go_at_call 80
    refine (HG.out _ hba).mono ?_
    rintro e w1 ⟨rfl, hb⟩
    have HB1 : Hid (Below w.heap.size w w1) := hba.trans (hb.mono hba.size)
    have HZ1 := Lib.hid (HZa.out.later hb)
    have z0_1 := bkeep hb p0
    have z1_1 := bkeep hb p1
    have z2_1 := bkeep hb p2
    clear hb hba p0 p1 p2 HZa
    go_wp2_with fail
    go_at_call 57
    refine (HL.out _ HB1.out).mono ?_
    rintro e w2 ⟨⟨rfl, hlm⟩, hb⟩
    obtain ⟨hv, hlk, hown⟩ := hlm.look frm hwf
    have HB2 : Hid (Below w.heap.size w w2) := HB1.out.trans (hb.mono HB1.out.size)
    have HZ2 := Lib.hid (HZ1.out.later hb)
    obtain ⟨la, lc, rfl⟩ := own_shape hown
    have HR := Lib.hid (legsAt_own hown)
    clear hb hlm hown HB1 HZ1 z0_1 z1_1 z2_1 HL
    generalize legsAt L frm = ls at *
    go_wp2_with fail
    go_loopw [21] (fun q wr => ∃ k : Nat, k ≤ ls.length ∧ q = .int .i64 k ∧ Hid (∀ j (hj : j < ls.length), j < k → decide (ls[j].trip = trip ∧ ls[j].dst = dst) = false) ∧ Hid (Below w2.heap.size w2 wr))
      (fun q _ => ls.length - (RowKit.intOf q).toNat)
    case atStart => exact ⟨0, Nat.zero_le _, rfl, (fun j _ h => by omega), Below.refl _ _⟩
    case round =>
      obtain ⟨wo, rfl⟩ : ∃ wo : World, wo = wr := ⟨_, rfl⟩
      obtain ⟨k, hk, rfl, HNo, HB⟩ := hrel
      have HBo : Hid (Below w.heap.size w wo) := HB2.out.trans (HB.out.mono HB2.out.size)
      have HZo := Lib.hid (HZ2.out.later HB.out)
      by_cases hlt : k < ls.length
      · obtain ⟨g, go, rfl, hgb, y0, y1, y2, y3, y4⟩ := leg_at (HR.out.below rfl HB.out) k hlt
        have hk1 : (k : Int) < (ls.length : Int) := by omega
        by_cases hm : ls[k].trip = trip ∧ ls[k].dst = dst
        · have HFd : Hid (ls.find? (fun l => l.trip = trip ∧ l.dst = dst) = some ls[k]) := find_at hlt (by simpa using hm) HNo.out
          generalize ls[k] = l at *
          obtain ⟨hm1, hm2⟩ := hm
          subst hm1 hm2
          have HZ3 := Lib.hid (HZo.out.later ((Below.refl wo.heap.size wo).alloc (Nat.le_refl _) (.cells #[.int .i64 l.trip, .int .i64 l.frm, .int .i64 l.dst, .int .i64 l.dep, .int .i64 l.arr] 62)))
          have HB3 : Hid (Below w.heap.size w (wo.alloc (.cells #[.int .i64 l.trip, .int .i64 l.frm, .int .i64 l.dst, .int .i64 l.dep, .int .i64 l.arr] 62))) := HBo.out.alloc HBo.out.size _
          obtain ⟨zz0, zz1, zz2, zz3, zz4, zl, zf⟩ := HZ3.out
          clear HNo
          go_wp2_with fail
          refine bodyPost_ret (v := .tuple #[legV l, .bool true]) (by simp only [results, Try.results35]; unfold legV; go_simp) rfl ⟨by rw [HX.out, HFd.out]; rfl, ?_⟩
          exact set5_below HB3.out (by simp)
        · have HNo2 : Hid (∀ j (hj : j < ls.length), j < k + 1 → decide (ls[j].trip = trip ∧ ls[j].dst = dst) = false) := fun j hj hjk => by
            by_cases e : j = k
            · subst e; exact decide_eq_false hm
            · exact HNo.out j hj (by omega)
          clear HNo
          generalize ls[k] = l at *
          have HB3 : Hid (Below w2.heap.size w2 (wo.alloc (.cells #[.int .i64 l.trip, .int .i64 l.frm, .int .i64 l.dst, .int .i64 l.dep, .int .i64 l.arr] 62))) := HB.out.alloc HB.out.size _
          by_cases hm1 : l.trip = trip
          · have hm2 : ¬ l.dst = dst := fun e => hm ⟨hm1, e⟩
            subst hm1
            clear hm
            go_wp2_with fail
            go_roundw
            case rel => exact ⟨k + 1, by omega, by go_num, HNo2, HB3⟩
            case measure => simp [RowKit.intOf]; omega
          · clear hm
            go_wp2_with fail
            go_roundw
            case rel => exact ⟨k + 1, by omega, by go_num, HNo2, HB3⟩
            case measure => simp [RowKit.intOf]; omega
      · have hk1 : ¬ (k : Int) < (ls.length : Int) := by omega
        have HFd : Hid (ls.find? (fun l => l.trip = trip ∧ l.dst = dst) = none) := find_end (fun j hj => HNo.out j hj (by omega))
        obtain ⟨zz0, zz1, zz2, zz3, zz4, zl, zf⟩ := HZo.out
        clear HNo
        go_wp2_with fail
        refine bodyPost_ret (v := .tuple #[.agg #[.int .i64 0, .int .i64 0, .int .i64 0, .int .i64 0, .int .i64 0], .bool false]) (by simp only [results, Try.results35]; go_simp) rfl ⟨by rw [HX.out, HFd.out]; rfl, ?_⟩
        exact set5_below HBo.out (by simp)
  · rw [ttB_no hg] at HG
    have HX : Hid (fillA t trip frm dst = none) := if_neg hg
    clear hg HLB
    go_enter Try.func35, Try.ntmps35
    go_wp2_with fail
    rw [← HWA.out]
    clear HWA
    go_at_call 80
    refine (HG.out _ hba).mono ?_
    rintro e w1 ⟨rfl, hb⟩
    have HB1 : Hid (Below w.heap.size w w1) := hba.trans (hb.mono hba.size)
    have HZ1 := Lib.hid (HZa.out.later hb)
    have z0_1 := bkeep hb p0
    have z1_1 := bkeep hb p1
    have z2_1 := bkeep hb p2
    clear hb hba p0 p1 p2 HZa
    obtain ⟨zz0, zz1, zz2, zz3, zz4, zl, zf⟩ := HZ1.out
    go_wp2_with fail
    refine bodyPost_ret (v := .tuple #[.agg #[.int .i64 0, .int .i64 0, .int .i64 0, .int .i64 0, .int .i64 0], .bool false]) (by simp only [results, Try.results35]; go_simp) rfl ⟨by rw [HX.out]; rfl, ?_⟩
    exact set5_below HB1.out (by simp)

end Go.Proofs.Ytmcpafflnccfaaa
