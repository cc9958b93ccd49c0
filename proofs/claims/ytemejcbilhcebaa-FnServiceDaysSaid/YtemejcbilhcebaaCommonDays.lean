import Derived.Test.YtemejcbilhcebaaRunDays
import Derived.Test.YtemejcbilhcebaaNextRun
import Derived.Test.YtemejcbilhcebaaAscP
import Derived.Maps.AppendAt
namespace Go.Proofs.Ytemejcbilhcebaa
open Go.RowKit Go.Shelf
set_option linter.unusedVariables false
attribute [local go_sem] Oper.semAt_some

def bothB (a b : CalD) (x : Int) : Bool := runsB a x && runsB b x

def comL (a b : CalD) : List Int := (dayRow (bothB a b) b.frm (daysN a b.frm)).take 20
def okAB (a b : CalD) : Bool := decide (CalGood a ∧ CalGood b)
def comAns (a b : CalD) : List Int := if CalGood a ∧ CalGood b then comL a b else []
theorem comAns_no {a b : CalD} (h : ¬ (CalGood a ∧ CalGood b)) : comAns a b = [] ∧ okAB a b = false := ⟨if_neg h, decide_eq_false h⟩
theorem comAns_yes {a b : CalD} (h : CalGood a ∧ CalGood b) : comAns a b = comL a b ∧ okAB a b = true := ⟨if_pos h, decide_eq_true h⟩
theorem filter_snoc (p : Int → Bool) (xs : List Int) (x : Int) : (xs ++ [x]).filter p = xs.filter p ++ (if p x then [x] else []) := by
  cases h : p x <;> simp [h]
theorem com_filter (a b : CalD) : (daysOf a b.frm).filter (runsB b) = dayRow (bothB a b) b.frm (daysN a b.frm) := dayRow_filter _ _ _ _

set_option maxRecDepth 100000 in
set_option maxHeartbeats 4000000 in
theorem implCommonDays_any (v v' : Value) (a b : CalD) (w : World) (hr : CalAt w v a) (hr' : CalAt w v' b) :
    Calls Try.prog 25 #[v, v'] w fun e w' => ∃ z, e = .returned (.tuple #[z, .bool (okAB a b)]) ∧ IntsIn w.heap.size w'.heap.size w' z (comAns a b) ∧ Below w.heap.size w w' := by
  have HGa := Lib.hid (fun W (h : Below w.heap.size w W) => implValidCal_any v a W (hr.below rfl h))
  have HGb := Lib.hid (fun W (h : Below w.heap.size w W) => implValidCal_any v' b W (hr'.below rfl h))
  have HRd := Lib.hid (fun W (h : Below w.heap.size w W) => runDays_any v a b.frm W (hr.below rfl h))
  have HDo := Lib.hid (fun W (h : Below w.heap.size w W) (hn : CalNum b) d => doesRun_any v' b d W (hr'.below rfl h) hn)
  have HAt := Lib.hid hr
  obtain ⟨a1, c1, a2, c2, rfl⟩ := Calendar_open hr
  obtain ⟨b1, e1, b2, e2, rfl⟩ := Calendar_open hr'
  clear hr hr'
  obtain ⟨i0, hi, iz0, iz1, iz2⟩ := info_parts infoInt
  have HB0 : Hid (Below w.heap.size w ((((w.alloc (.cells #[.int .i64 a.frm, .int .i64 a.too, .int .i64 a.wd, .slice a1 a.added.length c1, .slice a2 a.removed.length c2] 46)).alloc (.cells #[.int .i64 b.frm, .int .i64 b.too, .int .i64 b.wd, .slice b1 b.added.length e1, .slice b2 b.removed.length e2] 46)).alloc (.cells #[] 3)).alloc (.cells #[.slice (some ⟨w.heap.size + 1 + 1, 0, none⟩) 0 0] 34))) := ((((Below.refl _ _).alloc (Nat.le_refl _) _).alloc (by simp) _).alloc (by simp; omega) _).alloc (by simp; omega) _
  have HRow0 : Hid (World.ownsRow ((((w.alloc (.cells #[.int .i64 a.frm, .int .i64 a.too, .int .i64 a.wd, .slice a1 a.added.length c1, .slice a2 a.removed.length c2] 46)).alloc (.cells #[.int .i64 b.frm, .int .i64 b.too, .int .i64 b.wd, .slice b1 b.added.length e1, .slice b2 b.removed.length e2] 46)).alloc (.cells #[] 3)).alloc (.cells #[.slice (some ⟨w.heap.size + 1 + 1, 0, none⟩) 0 0] 34)) (w.heap.size + 1 + 1) 3 1 (.slice (some ⟨w.heap.size + 1 + 1, 0, none⟩) 0 0) 0 (ints [])) := by
    have h := World.ownsRow_lit (base := w.heap.size + 1 + 1) (e := 3) (size := 1) ((w.alloc (.cells #[.int .i64 a.frm, .int .i64 a.too, .int .i64 a.wd, .slice a1 a.added.length c1, .slice a2 a.removed.length c2] 46)).alloc (.cells #[.int .i64 b.frm, .int .i64 b.too, .int .i64 b.wd, .slice b1 b.added.length e1, .slice b2 b.removed.length e2] 46)) #[] 0 (by simp) (by decide) (by simp)
    have h2 := own_later h ((Below.refl _ _).alloc (Nat.le_refl _) (.cells #[.slice (some ⟨w.heap.size + 1 + 1, 0, none⟩) 0 0] 34))
    show World.ownsRow _ _ _ _ _ _ _
    simpa [ints] using h2
  have HXb0 : Hid (CalBlk ((((w.alloc (.cells #[.int .i64 a.frm, .int .i64 a.too, .int .i64 a.wd, .slice a1 a.added.length c1, .slice a2 a.removed.length c2] 46)).alloc (.cells #[.int .i64 b.frm, .int .i64 b.too, .int .i64 b.wd, .slice b1 b.added.length e1, .slice b2 b.removed.length e2] 46)).alloc (.cells #[] 3)).alloc (.cells #[.slice (some ⟨w.heap.size + 1 + 1, 0, none⟩) 0 0] 34)) (w.heap.size + 1) b (.slice b1 b.added.length e1) (.slice b2 b.removed.length e2)) := by
    have h : CalBlk ((w.alloc (.cells #[.int .i64 a.frm, .int .i64 a.too, .int .i64 a.wd, .slice a1 a.added.length c1, .slice a2 a.removed.length c2] 46)).alloc (.cells #[.int .i64 b.frm, .int .i64 b.too, .int .i64 b.wd, .slice b1 b.added.length e1, .slice b2 b.removed.length e2] 46)) (w.heap.size + 1) b (.slice b1 b.added.length e1) (.slice b2 b.removed.length e2) := by
      have := World.alloc_heap_new (w.alloc (.cells #[.int .i64 a.frm, .int .i64 a.too, .int .i64 a.wd, .slice a1 a.added.length c1, .slice a2 a.removed.length c2] 46)) (.cells #[.int .i64 b.frm, .int .i64 b.too, .int .i64 b.wd, .slice b1 b.added.length e1, .slice b2 b.removed.length e2] 46)
      rw [World.size_alloc] at this
      exact this
    exact (h.keep ((Below.refl _ _).alloc (Nat.le_refl _) _)).keep ((Below.refl _ _).alloc (Nat.le_refl _) _)
  have HBd0 : Hid (Boxed ((((w.alloc (.cells #[.int .i64 a.frm, .int .i64 a.too, .int .i64 a.wd, .slice a1 a.added.length c1, .slice a2 a.removed.length c2] 46)).alloc (.cells #[.int .i64 b.frm, .int .i64 b.too, .int .i64 b.wd, .slice b1 b.added.length e1, .slice b2 b.removed.length e2] 46)).alloc (.cells #[] 3)).alloc (.cells #[.slice (some ⟨w.heap.size + 1 + 1, 0, none⟩) 0 0] 34)) (w.heap.size + 1 + 1 + 1) 34 (.slice (some ⟨w.heap.size + 1 + 1, 0, none⟩) 0 0)) := by
    have := Boxed.new (((w.alloc (.cells #[.int .i64 a.frm, .int .i64 a.too, .int .i64 a.wd, .slice a1 a.added.length c1, .slice a2 a.removed.length c2] 46)).alloc (.cells #[.int .i64 b.frm, .int .i64 b.too, .int .i64 b.wd, .slice b1 b.added.length e1, .slice b2 b.removed.length e2] 46)).alloc (.cells #[] 3)) 34 (.slice (some ⟨w.heap.size + 1 + 1, 0, none⟩) 0 0)
    simp only [World.size_alloc] at this
    exact this
  have HXa0 : Hid (CalBox ((((w.alloc (.cells #[.int .i64 a.frm, .int .i64 a.too, .int .i64 a.wd, .slice a1 a.added.length c1, .slice a2 a.removed.length c2] 46)).alloc (.cells #[.int .i64 b.frm, .int .i64 b.too, .int .i64 b.wd, .slice b1 b.added.length e1, .slice b2 b.removed.length e2] 46)).alloc (.cells #[] 3)).alloc (.cells #[.slice (some ⟨w.heap.size + 1 + 1, 0, none⟩) 0 0] 34)) w.heap.size a (.slice a1 a.added.length c1) (.slice a2 a.removed.length c2)) :=
    (((calBox_new w a _ _ _).keep ((Below.refl _ _).alloc (Nat.le_refl _) _)).keep ((Below.refl _ _).alloc (Nat.le_refl _) _)).keep ((Below.refl _ _).alloc (Nat.le_refl _) _)
  by_cases hg : CalGood a ∧ CalGood b
  rotate_left
  · have HN := Lib.hid (comAns_no hg)
    by_cases hga : CalGood a
    · have hgb : ¬ CalGood b := fun h => hg ⟨hga, h⟩
      rw [calB_yes hga] at HGa
      rw [calB_no hgb] at HGb
      clear hg hga hgb
      go_enter Try.func25, Try.ntmps25
      go_wp2_with fail
      go_at_call 23
      refine (HGa.out _ HB0.out).mono ?_
      rintro e w1 ⟨rfl, hb1⟩
      have HB1 : Hid (Below w.heap.size w w1) := HB0.out.trans (hb1.mono (by simp; omega))
      obtain ⟨p0, p1, p2, p3, p4⟩ := (HXb0.out.keep hb1).box
      have HRow1 := Lib.hid (own_later HRow0.out hb1)
      have q0 := bkeep hb1 HBd0.out.cell
      clear hb1
      go_wp2_with fail
      go_at_call 23
      refine (HGb.out _ HB1.out).mono ?_
      rintro e w2 ⟨rfl, hb2⟩
      have HB2 : Hid (Below w.heap.size w w2) := HB1.out.trans (hb2.mono HB1.out.size)
      have HRow2 := Lib.hid (own_later HRow1.out hb2)
      have q1 := bkeep hb2 q0
      clear hb2 q0 p0 p1 p2 p3 p4
      go_wp2_with fail
      go_ret2
      rw [HN.out.1, HN.out.2]
      exact ⟨_, rfl, (IntsIn.mk HRow2.out).base (by omega) (Nat.le_refl _), HB2.out⟩
    · rw [calB_no hga] at HGa
      clear hg hga
      go_enter Try.func25, Try.ntmps25
      go_wp2_with fail
      go_at_call 23
      refine (HGa.out _ HB0.out).mono ?_
      rintro e w1 ⟨rfl, hb1⟩
      have HB1 : Hid (Below w.heap.size w w1) := HB0.out.trans (hb1.mono (by simp; omega))
      have HRow1 := Lib.hid (own_later HRow0.out hb1)
      have q0 := bkeep hb1 HBd0.out.cell
      clear hb1
      go_wp2_with fail
      go_ret2
      rw [HN.out.1, HN.out.2]
      exact ⟨_, rfl, (IntsIn.mk HRow1.out).base (by omega) (Nat.le_refl _), HB1.out⟩
  have HN := Lib.hid (comAns_yes hg)
  have HGda := Lib.hid hg.1
  have HGdb := Lib.hid hg.2
  rw [calB_yes hg.1] at HGa
  rw [calB_yes hg.2] at HGb
  obtain ⟨⟨⟨n1, n2, n3, n4, n5⟩, _⟩, ⟨⟨m1, m2, m3, m4, m5⟩, _⟩⟩ := hg
  refine (callsIn_wide (n := 9)).1 ?_
  refine callsIn_of_wp_marks Try.func25 rfl trivial ?_ rfl
  simp only [Try.ntmps25, List.size_toArray, List.length_cons, List.length_nil, Nat.reduceAdd, Nat.reduceSub, Array.replicate_succ, Array.replicate_zero, List.push_toArray, List.append_toArray, List.nil_append, List.cons_append]
  gi_wp2_with fail
  refine ⟨trivial, ?_⟩
  gi_at_call 23
  refine (callsIn_wide.2 (HGa.out _ HB0.out)).mono ?_
  rintro e w1 ⟨rfl, hb1⟩
  have HB1 : Hid (Below w.heap.size w w1) := HB0.out.trans (hb1.mono (by simp; omega))
  have HXa1 := Lib.hid (HXa0.out.keep hb1)
  have HXb1 := Lib.hid (HXb0.out.keep hb1)
  have HRow1 := Lib.hid (own_later HRow0.out hb1)
  have HBd1 := Lib.hid (HBd0.out.kept (below_grown hb1) (fun e => by cases e))
  have hz1 : w.heap.size + 4 ≤ w1.heap.size := by have := hb1.size; simp at this; omega
  obtain ⟨p0, p1, p2, p3, p4⟩ := HXb1.out.box
  clear hb1 HXa0 HXb0 HRow0 HBd0 HB0
  gi_wp2_with fail
  refine ⟨trivial, ?_⟩
  gi_at_call 23
  refine (callsIn_wide.2 (HGb.out _ HB1.out)).mono ?_
  rintro e w2 ⟨rfl, hb2⟩
  have HB2 : Hid (Below w.heap.size w w2) := HB1.out.trans (hb2.mono HB1.out.size)
  have HXa2 := Lib.hid (HXa1.out.keep hb2)
  have HXb2 := Lib.hid (HXb1.out.keep hb2)
  have HRow2 := Lib.hid (own_later HRow1.out hb2)
  have HBd2 := Lib.hid (HBd1.out.kept (below_grown hb2) (fun e => by cases e))
  have hz2 : w.heap.size + 4 ≤ w2.heap.size := by have := hb2.size; omega
  clear hb2 HXa1 HXb1 HRow1 HBd1 HB1 p0 p1 p2 p3 p4
  obtain ⟨c0, c1', c2', c3, c4⟩ := HXa2.out
  obtain ⟨p0, p1, p2, p3, p4⟩ := HXb2.out.box
  gi_wp2_with fail
  refine ⟨trivial, ?_⟩
  gi_at_call 76
  refine (callsIn_wide.2 (HRd.out _ HB2.out)).mono ?_
  rintro e w3 ⟨rfl, hb3, hz3, hf3, ⟨av, rv, hvv, hbx3⟩, _⟩
  obtain ⟨rfl, rfl⟩ : av = .slice a1 a.added.length c1 ∧ rv = .slice a2 a.removed.length c2 := by simpa using hvv.symm
  have HB3 : Hid (Below w.heap.size w w3) := HB2.out.trans (hb3.mono HB2.out.size)
  have HXb3 := Lib.hid (HXb2.out.keep hb3)
  have HRow3 := Lib.hid (own_later HRow2.out hb3)
  have HBd3 := Lib.hid (HBd2.out.kept (below_grown hb3) (fun e => by cases e))
  have HStop := Lib.hid (runDays1_stops 8 (by omega) _ _ a b.frm _ _ w w3 HB3.out hf3 hbx3 HAt.out HGda.out.1 m1 (by omega))
  have hzz : w2.heap.size < w3.heap.size := by omega
  clear hb3 hz3 hf3 hbx3 hvv c0 c1' c2' c3 c4 p0 p1 p2 p3 p4 HXa2 HXb2 HRow2 HBd2
  gi_wp2_with fail
  refine wpIn_rangeFunc_ownF rfl (by omega) (gf := 105) (lb := #[.pointer (some ⟨w2.heap.size + 1, 0, none⟩), .pointer (some ⟨w2.heap.size, 0, none⟩)]) rfl trivial (enters_of Try.func105 (by kernel_rfl) rfl)
    HStop.out kpD_t (kpD_b HB3.out.size) (Below.refl _ _) (fun _ => rfl)
    (fun (pre : List Int) W => (∃ v, Boxed W (w.heap.size + 1 + 1 + 1) 34 v ∧ W.ownsRow (w.heap.size + 1 + 1) 3 1 v (pre.filter (runsB b)).length (ints (pre.filter (runsB b))) ∧ (pre.filter (runsB b)).length ≤ 20) ∧ CalBlk W (w.heap.size + 1) b (.slice b1 b.added.length e1) (.slice b2 b.removed.length e2) ∧ Below w.heap.size w W)
    (fun cc (pre : List Int) W => cc = .exit 0 ∧ (∃ v, Boxed W (w.heap.size + 1 + 1 + 1) 34 v ∧ W.ownsRow (w.heap.size + 1 + 1) 3 1 v ((pre.filter (runsB b)).take 20).length (ints ((pre.filter (runsB b)).take 20)) ∧ ((pre.filter (runsB b)).take 20).length = 20) ∧ Below w.heap.size w W)
    (OwnFrom.and (Own.from (holdsRow_own (w.heap.size + 1 + 1) (w.heap.size + 1 + 1 + 1) 34 3 1 (fun (pre : List Int) => (pre.filter (runsB b)).length) (fun (pre : List Int) => ints (pre.filter (runsB b))) (fun (pre : List Int) _ => (pre.filter (runsB b)).length ≤ 20)) _) (OwnFrom.and (Own.from (calBlk_own _ _ _ _) _) (ownFrom_below (Nat.le_refl _) HB3.out.size)))
    (fun cc => OwnFrom.and (ownFrom_pure _ (fun _ => cc = .exit 0)) (OwnFrom.and (Own.from (holdsRow_own (w.heap.size + 1 + 1) (w.heap.size + 1 + 1 + 1) 34 3 1 (fun (pre : List Int) => ((pre.filter (runsB b)).take 20).length) (fun (pre : List Int) => ints ((pre.filter (runsB b)).take 20)) (fun (pre : List Int) _ => ((pre.filter (runsB b)).take 20).length = 20)) _) (ownFrom_below (Nat.le_refl _) HB3.out.size)))
    ⟨⟨_, HBd3.out, HRow3.out, by simp⟩, HXb3.out, HB3.out⟩
    (fun x => { tmps := #[.agg #[.int .i64 a.frm, .int .i64 a.too, .int .i64 a.wd, .slice a1 a.added.length c1, .slice a2 a.removed.length c2], .agg #[.int .i64 b.frm, .int .i64 b.too, .int .i64 b.wd, .slice b1 b.added.length e1, .slice b2 b.removed.length e2], .pointer (some ⟨w.heap.size, 0, none⟩), .pointer (some ⟨w.heap.size + 1, 0, none⟩), .slice none 0 0, .bool false, .pointer (some ⟨w.heap.size + 1 + 1 + 1, 0, none⟩), .int .i64 x, .slice (some ⟨w.heap.size + 1 + 1, 0, none⟩) 0 0, .agg #[.int .i64 a.frm, .int .i64 a.too, .int .i64 a.wd, .slice a1 a.added.length c1, .slice a2 a.removed.length c2], .bool true, .bool false, .bool false, .agg #[.int .i64 b.frm, .int .i64 b.too, .int .i64 b.wd, .slice b1 b.added.length e1, .slice b2 b.removed.length e2], .bool true, .bool false, .bool false, undef, .agg #[.int .i64 a.frm, .int .i64 a.too, .int .i64 a.wd, .slice a1 a.added.length c1, .slice a2 a.removed.length c2], .pointer (some ⟨w.heap.size + 1, 0, none⟩), .int .i64 b.frm, .func (.func 105) #[] #[.pointer (some ⟨w2.heap.size + 1, 0, none⟩), .pointer (some ⟨w2.heap.size, 0, none⟩)], .int .i64 x, undef, undef, undef, undef, undef, undef, undef, undef, undef, undef, undef], defers := [] }) ?assign ?body ?done ?stop
  case assign =>
    intro l x W K hK
    gi_wp2
    simpa using hK
  case body =>
    rintro l pre x W ⟨⟨v, hv, hrow, hlen⟩, hxb, hB⟩ hlt
    obtain ⟨ad, cp, rfl⟩ := own_shape hrow
    have hc := hv.cell
    have hsz : w.heap.size + 1 + 1 + 1 < W.heap.size := hv.lt
    obtain ⟨p0, p1, p2, p3, p4⟩ := hxb.box
    by_cases hq : (pre.filter (runsB b)).length = 20
    · have HT : Hid (((pre ++ [x]).filter (runsB b)).take 20 = pre.filter (runsB b)) := by
        show _ = _
        rw [List.filter_append, List.take_append_of_le_length (by omega), List.take_of_length_le (by omega)]
      have hq' : (((pre.filter (runsB b)).length : Int) == 20) = true := by simp [hq]
      have HQ := Lib.hid hq
      clear hq p0 p1 p2 p3 p4
      gi_wp2
      exact ⟨KeepsOthers.refl _, rfl, ⟨_, hv, by rw [HT.out]; exact hrow, by rw [HT.out]; exact HQ.out⟩, hB⟩
    have hq' : (((pre.filter (runsB b)).length : Int) == 20) = false := by simp; omega
    have HDr := Lib.hid (HDo.out _ hB HGdb.out.1 x)
    have HL : Hid ((pre.filter (runsB b)).length < 20) := by show _ < _; omega
    have HP : Hid ((pre ++ [x]).filter (runsB b) = pre.filter (runsB b) ++ (if runsB b x then [x] else [])) := by
      exact filter_snoc _ _ _
    clear hq
    generalize pre.filter (runsB b) = fp at *
    have hl20 : fp.length < 20 := HL.out
    gi_wp2_with fail
    refine ⟨trivial, ?_⟩
    gi_at_call 79
    refine (CallsIn.inRound l (callsIn_wide.2 HDr.out)).mono ?_
    rintro e w4 ⟨rfl, hb4⟩
    have hg4 := Lib.hid (below_grown hb4)
    have hv4 := hv.kept hg4.out (fun e => by cases e)
    have hrow4 := Lib.hid (own_later hrow hb4)
    have hxb4 := Lib.hid (hxb.keep hb4)
    have hB4 : Hid (Below w.heap.size w w4) := hB.trans (hb4.mono hB.size)
    have hk4 : Hid (KeepsOthers W w4) := KeepsOthers.of_grownBy hg4.out (fun j o e => by cases e)
    have hd4 : Hid (KpD w w2.heap.size a (.slice a1 a.added.length c1) (.slice a2 a.removed.length c2) W w4) := kpD_below hb4
    have hc4 := hv4.cell
    have hsz4 : w.heap.size + 1 + 1 + 1 < w4.heap.size := hv4.lt
    clear hb4 p0 p1 p2 p3 p4 hc
    by_cases hrun : runsB b x = true
    rotate_left
    · have hrun' : runsB b x = false := by simpa using hrun
      have HP2 : Hid ((pre ++ [x]).filter (runsB b) = fp) := by show _ = _; rw [HP.out, hrun']; simp
      rw [hrun']
      clear hrun hrun'
      gi_wp2_with fail
      exact ⟨hk4.out, hd4.out, ⟨_, hv4, by rw [HP2.out]; exact hrow4.out, by rw [HP2.out]; omega⟩, hxb4.out, hB4.out⟩
    have HP2 : Hid ((pre ++ [x]).filter (runsB b) = fp ++ [x]) := by show _ = _; rw [HP.out, hrun]; simp
    rw [hrun]
    clear hrun
    gi_wp2_with (gi_at_builtin; refine wpListIn_append_own _ rfl _ _ 34 rfl (w.heap.size + 1 + 1) 3 i0 (.int .i64 0) 1 8 Try.underlying34 hi iz0 iz1 iz2 rfl (by decide) _ _ _ rfl (hrow4.out.alloc _) ⟨w4.heap.size, 0, none⟩ 1 1 [.int .i64 x] rfl rfl (cell_one_new _ _ _) (by simp [Value.oneCell']) (by unfold maxLen; omega) (by omega) (by simp; omega) ?_; intro v' w5 hown' hgrow _; obtain ⟨g', cap', rfl⟩ := ownsRow_succ hown'; obtain ⟨hv5, hv6, hr6, hk6, hb6⟩ := hv4.appended (by decide) hrow4.out (by omega) (by omega) hown' hgrow; have hc5 := hv5.cell; have hf5 := hv5.frozen)
    have hdd : KpD w w2.heap.size a (.slice a1 a.added.length c1) (.slice a2 a.removed.length c2) W (w5.setCell ⟨w.heap.size + 1 + 1 + 1, 0, none⟩ (.slice (some ⟨g', 0, none⟩) (fp.length + 1) cap')) := fun hd =>
      have h4 := hd4.out hd
      have h5 := kpD_below ((Below.refl _ _).alloc (Nat.le_refl _) _) h4
      have h6 := kpD_grown hgrow (fun g e => ⟨by have := (hrow4.out.lt g e).1; omega, fun e' => h4.1.not_row hrow4.out (by subst e'; exact e)⟩) h5
      kpD_set (by omega) (by omega) _ h6
    have hxx := ((hxb4.out.keep ((Below.refl _ _).alloc (Nat.le_refl _) _)).kept hgrow (hxb4.out.not_row hrow4.out)).set (cb := w.heap.size + 1 + 1 + 1) (i := 0) (by omega) (.slice (some ⟨g', 0, none⟩) (fp.length + 1) cap')
    exact ⟨hk4.out.trans hk6, hdd, ⟨_, hv6, by rw [HP2.out]; simpa [ints] using hr6, by rw [HP2.out]; simp; omega⟩, hxx, hB4.out.trans (hb6.mono (by omega))⟩
  case done =>
    rintro D ys W hD rfl ⟨⟨v, hv, hrow, hlen⟩, hxb, hB⟩ hK
    have hc := hv.cell
    have HE : Hid (comAns a b = (daysOf a b.frm).filter (runsB b)) := by
      show _ = _
      rw [HN.out.1, comL, ← com_filter]
      exact List.take_of_length_le hlen
    gi_wp2
    refine ⟨by simp, .inl ⟨_, _, rfl, run_takeDeferred hK, ?_⟩⟩
    refine ⟨_, results_tmp2 rfl _ _ _, v, by rw [HN.out.2]; rfl, ?_, hB.trans (belowK_b (w := w) (Nat.le_refl _) W D _ _ (by omega) hK rfl rfl)⟩
    rw [HE.out]
    exact (IntsIn.mk (ownsRow_putObj hrow _ hK rfl)).base (by omega) (Nat.le_refl _)
  case stop =>
    rintro D cc pre W hD hpre ⟨rfl, ⟨v, hv, hrow, hlen⟩, hB⟩ hK
    have hc := hv.cell
    have HE : Hid (comAns a b = (pre.filter (runsB b)).take 20) := by
      show _ = _
      obtain ⟨tl, htl⟩ := hpre
      have h20 : 20 ≤ (pre.filter (runsB b)).length := by rw [List.length_take] at hlen; omega
      rw [HN.out.1, comL, ← com_filter, ← htl, List.filter_append, List.take_append_of_le_length h20]
    clear hpre
    gi_wp2
    refine ⟨by simp, .inl ⟨_, _, rfl, run_takeDeferred hK, ?_⟩⟩
    refine ⟨_, results_tmp2 rfl _ _ _, v, by rw [HN.out.2]; rfl, ?_, hB.trans (belowK_b (w := w) (Nat.le_refl _) W D _ _ (by omega) hK rfl rfl)⟩
    rw [HE.out]
    exact (IntsIn.mk (ownsRow_putObj hrow _ hK rfl)).base (by omega) (Nat.le_refl _)

end Go.Proofs.Ytemejcbilhcebaa
