import Derived.Test.YtemejcbilhcebaaRunDays
namespace Go.Proofs.Ytemejcbilhcebaa
open Go.RowKit Go.Shelf
set_option linter.unusedVariables false
attribute [local go_sem] Oper.semAt_some

def cntOf (c : CalD) : Int := if CalGood c then ((daysOf c c.frm).length : Int) else 0
theorem cntOf_no {c : CalD} (h : ¬ CalGood c) : cntOf c = 0 := if_neg h
theorem cntOf_yes {c : CalD} (h : CalGood c) : cntOf c = ((daysOf c c.frm).length : Int) := if_pos h

set_option maxRecDepth 100000 in
set_option maxHeartbeats 2000000 in
theorem implCountDays_any (v : Value) (c : CalD) (w : World) (hr : CalAt w v c) :
    Calls Try.prog 22 #[v] w fun e w' => e = .returned (.tuple #[.int .i64 (cntOf c), .bool (calB c)]) ∧ Below w.heap.size w w' := by
  have HG := Lib.hid (fun W (h : Below w.heap.size w W) => implValidCal_any v c W (hr.below rfl h))
  have HRd := Lib.hid (fun W (h : Below w.heap.size w W) => runDays_any v c c.frm W (hr.below rfl h))
  have HAt := Lib.hid hr
  obtain ⟨a1, c1, a2, c2, rfl⟩ := Calendar_open hr
  clear hr
  by_cases hg : CalGood c
  rotate_left
  · have HN := Lib.hid (cntOf_no hg)
    have HN2 := Lib.hid (calB_no hg)
    rw [calB_no hg] at HG ⊢
    clear hg
    go_enter Try.func22, Try.ntmps22
    go_wp2_with fail
    go_at_call 23
    refine (HG.out _ ((Below.refl _ _).alloc (Nat.le_refl _) _)).mono ?_
    rintro e w1 ⟨rfl, hb1⟩
    go_wp2_with fail
    go_ret2
    rw [HN.out]
    exact ⟨rfl, ((Below.refl _ _).alloc (Nat.le_refl _) _).trans (hb1.mono (by simp))⟩
  rw [calB_yes hg] at HG ⊢
  have HGd := Lib.hid hg
  have HE := Lib.hid (cntOf_yes hg)
  clear hg
  refine (callsIn_wide (n := 9)).1 ?_
  refine callsIn_of_wp_marks Try.func22 rfl trivial ?_ rfl
  simp only [Try.ntmps22, List.size_toArray, List.length_cons, List.length_nil, Nat.reduceAdd, Nat.reduceSub, Array.replicate_succ, Array.replicate_zero, List.push_toArray, List.append_toArray, List.nil_append, List.cons_append]
  gi_wp2_with fail
  refine ⟨trivial, ?_⟩
  gi_at_call 23
  refine (callsIn_wide.2 (HG.out _ ((Below.refl _ _).alloc (Nat.le_refl _) _))).mono ?_
  rintro e w1 ⟨rfl, hb1⟩
  have HB1 : Hid (Below w.heap.size w w1) := ((Below.refl _ _).alloc (Nat.le_refl _) _).trans (hb1.mono (by simp))
  obtain ⟨c0, c1', c2', c3, c4⟩ := (calBox_new w c (.slice a1 c.added.length c1) (.slice a2 c.removed.length c2) _).keep hb1
  have hz1 : w.heap.size < w1.heap.size := by have := hb1.size; simp at this; omega
  clear hb1
  gi_wp2_with fail
  refine ⟨trivial, ?_⟩
  gi_at_call 76
  refine (callsIn_wide.2 (HRd.out _ (HB1.out.alloc (by omega) _))).mono ?_
  rintro e w2 ⟨rfl, hb2, hz2, hf2, ⟨av, rv, hvv, hbx2⟩, _⟩
  obtain ⟨rfl, rfl⟩ : av = .slice a1 c.added.length c1 ∧ rv = .slice a2 c.removed.length c2 := by simpa using hvv.symm
  have bS := (Boxed.new w1 3 (.int .i64 0)).kept (⟨hb2.os, hb2.tape, hb2.output, hb2.size, fun k hk _ => hb2.block k hk⟩ : World.grownBy _ w2 none) (fun e => by cases e)
  have HB2 : Hid (Below w.heap.size w w2) := (HB1.out.alloc (by omega) _).trans (hb2.mono (by simp; omega))
  have hzz : w1.heap.size < w2.heap.size := by rw [hz2]; simp; omega
  obtain ⟨⟨n1, n2, n3, n4, n5⟩, _⟩ := HGd.out
  have HStop := Lib.hid (runDays1_stops 8 (by omega) _ _ c c.frm _ _ w w2 HB2.out hf2 hbx2 HAt.out HGd.out.1 n1 (by omega))
  simp only [World.size_alloc] at HStop
  have hlen : (daysOf c c.frm).length ≤ 3651 := by have := dayRow_len (runsB c) c.frm (daysN c c.frm); unfold daysOf daysN at *; omega
  clear hf2 hbx2 hz2 hb2 hvv c0 c1' c2' c3 c4
  gi_wp2_with fail
  refine wpIn_rangeFunc_ownF rfl (by omega) (gf := 105) (lb := #[.pointer (some ⟨w1.heap.size + 1 + 1, 0, none⟩), .pointer (some ⟨w1.heap.size + 1, 0, none⟩)]) rfl trivial (enters_of Try.func105 (by kernel_rfl) rfl)
    HStop.out kpD_t (kpD_b HB2.out.size) (Below.refl _ _) (fun _ => rfl)
    (fun pre W => Boxed W w1.heap.size 3 (.int .i64 (pre.length : Int)) ∧ Below w.heap.size w W)
    (fun _ _ _ => False)
    (OwnFrom.and (Own.from (boxed_own _ _ _) _) (ownFrom_below (Nat.le_refl _) HB2.out.size))
    (fun _ _ _ _ _ hs _ _ => hs)
    ⟨bS, HB2.out⟩
    (fun x => { tmps := #[.agg #[.int .i64 c.frm, .int .i64 c.too, .int .i64 c.wd, .slice a1 c.added.length c1, .slice a2 c.removed.length c2], .pointer (some ⟨w.heap.size, 0, none⟩), .int .i64 0, .bool false, .pointer (some ⟨w1.heap.size, 0, none⟩), .agg #[.int .i64 c.frm, .int .i64 c.too, .int .i64 c.wd, .slice a1 c.added.length c1, .slice a2 c.removed.length c2], .bool true, .bool false, .agg #[.int .i64 c.frm, .int .i64 c.too, .int .i64 c.wd, .slice a1 c.added.length c1, .slice a2 c.removed.length c2], .pointer (some ⟨w.heap.size, 0, none⟩), .int .i64 c.frm, .func (.func 105) #[] #[.pointer (some ⟨w1.heap.size + 1 + 1, 0, none⟩), .pointer (some ⟨w1.heap.size + 1, 0, none⟩)], .int .i64 x, undef, undef, undef], defers := [] }) ?assign ?body ?done ?stop
  case assign =>
    intro l x W K hK
    gi_wp2
    simpa using hK
  case body =>
    rintro l pre x W ⟨hv, hB⟩ hlt
    have hc := hv.cell
    have hfz := hv.frozen
    gi_wp2
    exact ⟨KeepsOthers.setCell _ _ _, kpD_set (by omega) (by omega) _, by have := hv.set (.int .i64 ((pre.length : Int) + 1)); simpa using this, hB.setCell (p := ⟨w1.heap.size, 0, none⟩) (by show w.heap.size ≤ w1.heap.size; omega) _⟩
  case done =>
    rintro D ys W hD rfl ⟨hv, hB⟩ hK
    have hc := hv.cell
    gi_wp2
    refine ⟨by simp, .inl ⟨_, _, rfl, run_takeDeferred hK, ?_⟩⟩
    refine ⟨_, results_tmp2 rfl _ _ _, ?_, hB.trans (belowK_b (w := w) (Nat.le_refl _) W D _ _ (by omega) hK rfl rfl)⟩
    rw [HE.out]; rfl
  case stop =>
    rintro D c pre W _ _ h _
    exact h.elim

end Go.Proofs.Ytemejcbilhcebaa
