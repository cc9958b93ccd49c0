/-
  CONTRACTS: spec.FreeSpans, impl.FreeSpans; both sides in one form.
-/
import Derived.Test.YtenbplehiaofmaaMergeSpans
import Derived.Test.YtenbplehiaofmaaOverlapOf
import Derived.Deep.DeepCutAuto
import Derived.Deep.RegionLaw
import Derived.Maps.AppendAt
namespace Go.Proofs.Ytenbplehiaofmaa
open Go.RowKit
set_option linter.unusedVariables false

/-- what FreeSpans answers -/
def freeA (xs : List SpanD) (s : SpanD) : List SpanD := if SpansOk xs ∧ SpanOk s then freeOf xs s else []
def freeK (xs : List SpanD) (s : SpanD) : Bool := decide (SpansOk xs ∧ SpanOk s)
theorem freeOf_small (xs : List SpanD) (s : SpanD) (h : SpanOk s) : (freeOf xs s).length ≤ 1799 := by
  have := runsF_len (fun t => !covB xs t) s.1 (s.2 - s.1).toNat
  unfold freeOf; unfold SpanOk TimeOk at h; omega
theorem belB2 {W w : World} {p0 p1 : Addr} {x0 x1 : Value} (h : w.cell? p0 = some x0 ∧ w.cell? p1 = some x1 ∧ Below W.heap.size W w) : Below W.heap.size W w := h.2.2
theorem keepB2 {W w w' : World} {p0 p1 : Addr} {x0 x1 : Value} (hb : Below w.heap.size w w') (h : w.cell? p0 = some x0 ∧ w.cell? p1 = some x1 ∧ Below W.heap.size W w) : w'.cell? p0 = some x0 ∧ w'.cell? p1 = some x1 ∧ Below W.heap.size W w' := by
  obtain ⟨h0, h1, hl⟩ := h
  exact ⟨bkeep hb h0, bkeep hb h1, hl.trans (hb.mono hl.size)⟩

set_option maxRecDepth 100000 in
set_option maxHeartbeats 4000000 in
theorem specFree_any (v : Value) (xs : List SpanD) (s : SpanD) (w : World) (hr : SpansAt w v xs) (hn : SpansSmall xs) :
    Calls Try.prog 16 #[v, .agg #[.int .i64 s.1, .int .i64 s.2]] w fun e w' => ∃ z, e = .returned (.tuple #[z, .bool (freeK xs s)]) ∧ SpansIn w.heap.size w'.heap.size w' z (freeA xs s) ∧ Below w.heap.size w w' := by
  have HS := Lib.hid (fun W (h : Below w.heap.size w W) => l4Spans_any v xs W (hr.below rfl h) hn)
  have HC := Lib.hid (fun W (h : Below w.heap.size w W) (hok : SpansOk xs) => l4Counts_any v xs W (hr.below rfl h) hok)
  have HO := Lib.hid (fun W => l4Span_any s W)
  have HB0 : Hid (Below w.heap.size w (w.alloc (.cells #[.int .i64 s.1, .int .i64 s.2] 26))) := (Below.refl _ _).alloc (Nat.le_refl _) _
  have HX0 := Lib.hid (SpanBox.new w s 26)
  obtain ⟨a, c, rfl, _⟩ := spans_open hr
  clear hr
  by_cases hok : SpansOk xs
  · rw [spansB_yes hok] at HS
    by_cases hs : SpanOk s
    · rw [spanB_yes hs] at HO
      rw [show freeK xs s = true from decide_eq_true ⟨hok, hs⟩, show freeA xs s = freeOf xs s from if_pos ⟨hok, hs⟩]
      have HOk := Lib.hid (And.intro hok hs)
      have HW : Hid (runsF (wantB xs false) s.1 (s.2 - s.1).toNat = freeOf xs s) := by show _ = _; rw [wantB_false]; rfl
      obtain ⟨s1, s2⟩ := s
      simp only at HW
      clear hok hs
      go_enter Try.func16, Try.ntmps16
      go_wp2_with fail
      go_at_call 48
      refine (HS.out _ HB0.out).mono ?_
      rintro e w1 ⟨rfl, hb⟩
      have HB1 : Hid (Below w.heap.size w w1) := HB0.out.trans (hb.mono (by simp))
      have HX1 := Lib.hid (HX0.out.keep hb)
      clear hb HB0 HX0
      obtain ⟨b0, b1, bf⟩ := HX1.out
      simp only at b0 b1
      go_wp2_with fail
      go_at_call 49
      refine (HO.out _).mono ?_
      rintro e w2 ⟨rfl, hb⟩
      have HB2 : Hid (Below w.heap.size w w2) := HB1.out.trans (hb.mono HB1.out.size)
      have HX2 := Lib.hid (HX1.out.keep hb)
      clear b0 b1 bf hb HB1 HX1
      obtain ⟨b0, b1, bf⟩ := HX2.out
      simp only at b0 b1
      go_wp2_with fail
      go_region_held3 (fun w' => w'.cell? ⟨w.heap.size, 0, none⟩ = some (.int .i64 s1) ∧ w'.cell? ⟨w.heap.size, 1, none⟩ = some (.int .i64 s2) ∧ Below w2.heap.size w2 w')
        (first | (exact ⟨b0, b1, (Below.refl _ _).drew⟩) | (exact keepB2 hb (by assumption)) | (exact keepB2 hb3 (by assumption)))
        (first | (go_at_call 51; refine (HC.out _ (HB2.out.trans ((belB2 (by assumption)).mono HB2.out.size)) HOk.out.1).mono ?_; rintro e w' ⟨c2, rfl, hown, hb⟩) | (go_at_call 50; refine (l4Runs_any _ c2 xs (s1, s2) false _ (fun t ht => covTo_at hown t ht) HOk.out.2).mono ?_; rintro e w' ⟨v3, rfl, hin, hb3⟩))
      obtain ⟨_, _, hbW⟩ := (by assumption : _ ∧ _ ∧ Below w2.heap.size w2 _)
      go_wp2_with fail
      go_ret2
      refine ⟨_, rfl, ?_, HB2.out.trans (hbW.mono HB2.out.size)⟩
      rw [← HW.out]; exact hin.base (Nat.le_trans HB2.out.size hb.size) (Nat.le_refl _)
    · rw [spanB_no hs] at HO
      rw [show freeK xs s = false from decide_eq_false fun h => hs h.2, show freeA xs s = [] from if_neg fun h => hs h.2]
      obtain ⟨s1, s2⟩ := s
      clear hok hs HC
      go_enter Try.func16, Try.ntmps16
      go_wp2_with fail
      go_at_call 48
      refine (HS.out _ HB0.out).mono ?_
      rintro e w1 ⟨rfl, hb⟩
      have HB1 : Hid (Below w.heap.size w w1) := HB0.out.trans (hb.mono (by simp))
      have HX1 := Lib.hid (HX0.out.keep hb)
      clear hb HB0 HX0
      obtain ⟨b0, b1, bf⟩ := HX1.out
      simp only at b0 b1
      go_wp2_with fail
      go_at_call 49
      refine (HO.out _).mono ?_
      rintro e w2 ⟨rfl, hb⟩
      have HB2 : Hid (Below w.heap.size w w2) := HB1.out.trans (hb.mono HB1.out.size)
      clear b0 b1 bf hb HB1 HX1
      go_wp2_with fail
      go_ret2
      exact ⟨_, rfl, empty_in _ _ HB2.out.size, HB2.out.alloc HB2.out.size _⟩
  · rw [spansB_no hok] at HS
    rw [show freeK xs s = false from decide_eq_false fun h => hok h.1, show freeA xs s = [] from if_neg fun h => hok h.1]
    obtain ⟨s1, s2⟩ := s
    clear hok HC HO
    go_enter Try.func16, Try.ntmps16
    go_wp2_with fail
    go_at_call 48
    refine (HS.out _ HB0.out).mono ?_
    rintro e w1 ⟨rfl, hb⟩
    have HB1 : Hid (Below w.heap.size w w1) := HB0.out.trans (hb.mono (by simp))
    clear hb HB0 HX0
    go_wp2_with fail
    go_ret2
    exact ⟨_, rfl, empty_in _ _ HB1.out.size, HB1.out.alloc HB1.out.size _⟩

theorem keepD {W w w' : World} {o : Obj} {p0 p1 : Addr} {x0 x1 : Value} (hb : Below w.heap.size w w') (h : w.cell? p0 = some x0 ∧ w.cell? p1 = some x1 ∧ Below (W.heap.size + 1) (W.alloc o) w) : w'.cell? p0 = some x0 ∧ w'.cell? p1 = some x1 ∧ Below (W.heap.size + 1) (W.alloc o) w' := by
  obtain ⟨h0, h1, hl⟩ := h
  exact ⟨bkeep hb h0, bkeep hb h1, hl.trans (hb.mono (by have := hl.size; simp at this; omega))⟩
theorem lowD {W w : World} {o : Obj} {p0 p1 : Addr} {x0 x1 : Value} (h : w.cell? p0 = some x0 ∧ w.cell? p1 = some x1 ∧ Below (W.heap.size + 1) (W.alloc o) w) : W.heap.size + 1 ≤ w.heap.size := by have := h.2.2.size; simpa using this
theorem belD {w0 W w : World} {o : Obj} {p0 p1 : Addr} {x0 x1 : Value} (h0 : Below w0.heap.size w0 (W.alloc o)) (hl : w0.heap.size ≤ W.heap.size + 1) (h : w.cell? p0 = some x0 ∧ w.cell? p1 = some x1 ∧ Below (W.heap.size + 1) (W.alloc o) w) : Below w0.heap.size w0 w := h0.trans (h.2.2.mono hl)
theorem keepG {W w w' : World} {o : Obj} {e : TypeId} {v : Value} {n : Nat} {ys : List Value} {x0 x1 : Value} (hg : w.grownBy w' v.ownBlock) (hown : w.ownsRow (W.heap.size + 1) e 2 v n ys) (h : w.cell? ⟨W.heap.size, 0, none⟩ = some x0 ∧ w.cell? ⟨W.heap.size, 1, none⟩ = some x1 ∧ Below (W.heap.size + 1) (W.alloc o) w) : w'.cell? ⟨W.heap.size, 0, none⟩ = some x0 ∧ w'.cell? ⟨W.heap.size, 1, none⟩ = some x1 ∧ Below (W.heap.size + 1) (W.alloc o) w' := by
  obtain ⟨h0, h1, hl⟩ := h
  have hne : some W.heap.size ≠ v.ownBlock := fun e => by have := (hown.lt W.heap.size e.symm).1; omega
  exact ⟨hg.cell h0 hne, hg.cell h1 hne, hl.grown hg (by have := hl.size; simp at this; omega) (fun g hgg => (hown.lt g hgg).1)⟩
theorem step_own {P : Program} {ops : Array Oper} {o : Oper} {a : Act} {w : World} {K : Act → World → Prop} {Q : Exit → Act → World → Prop} {E : Prop} (hg : o.guard = none) (h : Oper.wp P o a w K Q) : if Region.wanted o (yielded ops a.tmps) = true then Oper.wp P o a w K Q else E := by
  have hw : Region.wanted o (yielded ops a.tmps) = true := by simp [Region.wanted, hg]
  rw [if_pos hw]; exact h
theorem newKeep {w w' : World} {s : SpanD} {t : TypeId} (hb : Below (w.alloc (.cells #[.int .i64 s.1, .int .i64 s.2] t)).heap.size (w.alloc (.cells #[.int .i64 s.1, .int .i64 s.2] t)) w') : ∀ j x, (spanC [s])[j]? = some x → w'.cell? ((⟨w.heap.size, 0, none⟩ : Addr).add j) = some x :=
  fun j x h => bkeep hb (spanC_one w s t j x h)

set_option maxRecDepth 100000 in
set_option maxHeartbeats 8000000 in
theorem implFree_yes (v : Value) (xs : List SpanD) (s : SpanD) (w : World) (hr : SpansAt w v xs) (hn : SpansSmall xs) (hok : SpansOk xs) (hs : SpanOk s) :
    Calls Try.prog 15 #[v, .agg #[.int .i64 s.1, .int .i64 s.2]] w fun e w' => ∃ z, e = .returned (.tuple #[z, .bool true]) ∧ SpansIn w.heap.size w'.heap.size w' z (freeOf xs s) ∧ Below w.heap.size w w' := by
  have HS := Lib.hid (fun W (h : Below w.heap.size w W) => areSpans_any v xs W (hr.below rfl h) hn)
  have HM := Lib.hid (fun W (h : Below w.heap.size w W) => mergedSpans_any v xs W (hr.below rfl h) hok)
  have HO := Lib.hid (fun W => isSpan_any s W)
  rw [spansB_yes hok] at HS
  rw [spanB_yes hs] at HO
  have HCm := Lib.hid (fun a W => commonTimes_any a s W)
  have HF := Lib.hid (freeF_eq hok.2 hs)
  have hml := mergedOf_small xs
  have HB0 : Hid (Below w.heap.size w ((w.alloc (.cells #[.int .i64 s.1, .int .i64 s.2] 26)).alloc (.cells #[] 26))) := ((Below.refl _ _).alloc (Nat.le_refl _) _).alloc (by simp) _
  have HX0 := Lib.hid ((SpanBox.new w s 26).keep ((Below.refl _ _).alloc (Nat.le_refl _) (.cells #[] 26)))
  have HE0 : Hid (((w.alloc (.cells #[.int .i64 s.1, .int .i64 s.2] 26)).alloc (.cells #[] 26)).ownsRow (w.heap.size + 1) 26 2 (.slice (some ⟨w.heap.size + 1, 0, none⟩) 0 0) 0 (spanC [])) := by
    have := World.ownsRow_made (base := w.heap.size + 1) (size := 2) (e := 26) (w.alloc (.cells #[.int .i64 s.1, .int .i64 s.2] 26)) #[] 0 (by simp) (by decide) rfl
    show World.ownsRow _ _ _ _ _ _ _
    simpa [spanC] using this
  obtain ⟨a, c, rfl, _⟩ := spans_open hr
  obtain ⟨i0, hi, hz0, hz1, hz2⟩ := info_parts infoSpan
  obtain ⟨s1, s2⟩ := s
  clear hr hn hok hs
  simp only at HX0 HE0 HB0 HO HCm
  go_enter Try.func15, Try.ntmps15
  go_wp2_with fail
  go_at_call 44
  refine (HS.out _ HB0.out).mono ?_
  rintro e w1 ⟨rfl, hb⟩
  have HB1 : Hid (Below w.heap.size w w1) := HB0.out.trans (hb.mono (by simp <;> omega))
  have hw1 : w.heap.size + 2 ≤ w1.heap.size := by have := hb.size; simp at this; omega
  have HX1 := Lib.hid (HX0.out.keep hb)
  have HE1 := Lib.hid (own_later HE0.out hb)
  clear hb HB0 HX0 HE0
  obtain ⟨b0, b1, bf⟩ := HX1.out
  simp only at b0 b1
  go_wp2_with fail
  go_at_call 45
  refine (HO.out _).mono ?_
  rintro e w2 ⟨rfl, hb⟩
  have HB2 : Hid (Below w.heap.size w w2) := HB1.out.trans (hb.mono HB1.out.size)
  have hsz2 := hb.size
  have HX2 := Lib.hid (HX1.out.keep hb)
  have HE2 := Lib.hid (own_later HE1.out hb)
  clear b0 b1 bf hb HB1 HX1 HE1
  have HD := Lib.hid (SpanBox.new w2 (1799, 1799) 26)
  have HB3 : Hid (Below w.heap.size w (w2.alloc (.cells #[.int .i64 1799, .int .i64 1799] 26))) := HB2.out.alloc HB2.out.size _
  have HX3 := Lib.hid (HX2.out.keep ((Below.refl _ _).alloc (Nat.le_refl _) (.cells #[.int .i64 1799, .int .i64 1799] 26)))
  have HE3 := Lib.hid (HE2.out.alloc (.cells #[.int .i64 1799, .int .i64 1799] 26))
  have hw2 : w.heap.size + 2 ≤ w2.heap.size := Nat.le_trans hw1 hsz2
  clear HB2 HX2 HE2
  obtain ⟨d0, d1, df⟩ := HD.out
  simp only at d0 d1
  have hw22 : w.heap.size + 2 ≤ w2.heap.size := hw2
  have hone : Hid (∀ j x, (spanC [((1799 : Int), (1799 : Int))])[j]? = some x → ((w2.alloc (.cells #[.int .i64 1799, .int .i64 1799] 26)).alloc (.cells #[.int .i64 1799, .int .i64 1799] 26)).cell? ((⟨w2.heap.size + 1, 0, none⟩ : Addr).add j) = some x) := by
    intro j x h
    have := spanC_one (w2.alloc (.cells #[.int .i64 1799, .int .i64 1799] 26)) (1799, 1799) 26 j x h
    rwa [World.size_alloc] at this
  go_upto_region 6 with fail
  go_cut [27, 28, 29] (fun s27 s28 s29 wx => ∃ (al : Option Addr) (cl : Nat), s27 = .slice al ((mergedOf xs).length + 1) cl ∧ s28 = .int .i64 ((mergedOf xs).length + 1 : Nat) ∧ s29 = .int .i64 0 ∧ Hid (wx.ownsRow (w2.heap.size + 1) 26 2 (.slice al ((mergedOf xs).length + 1) cl) ((mergedOf xs).length + 1) (spanC (mergedOf xs ++ [((1799 : Int), (1799 : Int))]))) ∧ Hid (Below (w2.heap.size + 1) (w2.alloc (.cells #[.int .i64 1799, .int .i64 1799] 26)) wx))
  case first =>
    go_region_law (first | (refine step_own rfl ?_; refine wp_append_own _ (.tmp 24) (.tmp 26) 24 rfl (w2.heap.size + 1) 26 i0 (.agg #[.int .i64 0, .int .i64 0]) 2 16 Try.underlying24 hi hz0 hz1 hz2 rfl (by decide) _ _ _ ?e1 (hob.alloc _) ⟨w'.heap.size, 0, none⟩ 1 1 (spanC [((1799 : Int), (1799 : Int))]) ?e2 rfl ?c1 ?c2 ?c3 ?c4 ?c5 ?_; (case e1 => rfl); (case e2 => rfl); (case c1 => exact spanC_one _ _ _); (case c2 => exact spanC_cells _); (case c3 => unfold maxLen; omega); (case c4 => omega); (case c5 => first | omega | (rw [World.size_alloc]; omega)); intro v5 w5 hown' hgrow _; rw [← spanC_append] at hown'; obtain ⟨a5, c5, rfl⟩ := own_shape hown') | (refine step_own rfl ?_; refine wp_append_own _ (.tmp 24) (.tmp 26) 24 rfl (w2.heap.size + 1) 26 i0 (.agg #[.int .i64 0, .int .i64 0]) 2 16 Try.underlying24 hi hz0 hz1 hz2 rfl (by decide) _ _ _ ?e1 hob _ 1 1 (spanC [((1799 : Int), (1799 : Int))]) ?e2 rfl hnew ?c2 ?c3 ?c4 ?c5 ?_; (case e1 => rfl); (case e2 => first | rfl | (go_simp; done)); (case c2 => exact spanC_cells _); (case c3 => unfold maxLen; omega); (case c4 => omega); (case c5 => first | omega | (rw [World.size_alloc]; omega)); intro v5 w5 hown' hgrow _; rw [← spanC_append] at hown'; obtain ⟨a5, c5, rfl⟩ := own_shape hown') | (refine step_own rfl ?_; go_simp; go_at_call 46; refine (HM.out _ ?hp).mono ?_; (case hp => first | exact HB3.out.drew | exact HB3.out.drew.alloc (by simp <;> omega) _); rintro e w' ⟨v3, rfl, hin, hb⟩; (have hP : Below (w2.alloc (.cells #[.int .i64 1799, .int .i64 1799] 26)).heap.size (w2.alloc (.cells #[.int .i64 1799, .int .i64 1799] 26)) w' := by first | exact (Below.trans (show Below (w2.alloc (.cells #[.int .i64 1799, .int .i64 1799] 26)).heap.size (w2.alloc (.cells #[.int .i64 1799, .int .i64 1799] 26)) (w2.alloc (.cells #[.int .i64 1799, .int .i64 1799] 26)).drew from (Below.refl _ _).drew) hb) | exact (Below.trans (Below.alloc (show Below (w2.alloc (.cells #[.int .i64 1799, .int .i64 1799] 26)).heap.size (w2.alloc (.cells #[.int .i64 1799, .int .i64 1799] 26)) (w2.alloc (.cells #[.int .i64 1799, .int .i64 1799] 26)).drew from (Below.refl _ _).drew) (Nat.le_refl _) _) (hb.mono (by simp)))); (have hszP := hP.size); rw [World.size_alloc] at hszP; (have qb := HD.out.keep hP); (have q0 := qb.c0); (have q1 := qb.c1); simp only at q0 q1; (have hob := own_base hin.1 (show w2.heap.size + 1 ≤ _ by simp)); try (have hnew := fun j x h => bkeep hb (hone.out j x h)); go_wp2_with fail))
    all_goals have hPm : Below (w2.heap.size + 1) (w2.alloc (.cells #[.int .i64 1799, .int .i64 1799] 26)) w' := hP.mono (by simp)
    all_goals go_wp2_with fail
    all_goals go_meet
    all_goals first
      | exact ⟨a5, c5, rfl, by simp, rfl, hown', (hPm.alloc hszP _).grown hgrow (by simp <;> omega) (fun g hg => (hob.lt g hg).1)⟩
      | exact ⟨a5, c5, rfl, by simp, rfl, hown', hPm.grown hgrow hszP (fun g hg => (hob.lt g hg).1)⟩
  case rest =>
  obtain ⟨al, cl, rfl, rfl, rfl, HList, HBc⟩ := hcut
  have HBW : Hid (Below w.heap.size w wc) := HB3.out.trans (HBc.out.mono (by omega))
  have HXw : Hid (SpanBox wc w.heap.size (s1, s2)) := HX3.out.keepAt HBc.out (by omega)
  have HEw : Hid (wc.ownsRow (w.heap.size + 1) 26 2 (.slice (some ⟨w.heap.size + 1, 0, none⟩) 0 0) 0 (spanC [])) := own_block HE3.out (fun g hg => HBc.out.block g (by simp [Value.ownBlock] at hg; omega))
  have HNb : Hid (∀ g, (Value.slice al ((mergedOf xs).length + 1) cl).ownBlock = some g → w.heap.size + 1 < g) := fun g hg => by have := (HList.out.lt g hg).1; omega
  have hLn : (mergedOf xs ++ [((1799 : Int), (1799 : Int))]).length = (mergedOf xs).length + 1 := by simp
  have hL18 : (mergedOf xs).length + 1 ≤ 1800 := by omega
  generalize (mergedOf xs).length + 1 = n at *
  generalize mergedOf xs ++ [((1799 : Int), (1799 : Int))] = L at *
  subst hLn
  clear HB3 HX3 HE3 HM HO HS HD hone d0 d1 df hw22 hw2 hsz2 hw1
  clear hml
  go_wp2_with fail
  go_loopw [6, 7, 29] (fun fv fr i wr => ∃ (k fl fc : Nat) (fa : Option Addr) (z : Int) (acc : List SpanD), k ≤ L.length ∧ fl ≤ k ∧ i = .int .i64 k ∧ fv = .slice fa fl fc ∧ fr = .int .i64 z ∧ Hid (freeF (s1, s2) (L.take k) = (z, acc)) ∧ Hid (wr.ownsRow (w.heap.size + 1) 26 2 (.slice fa fl fc) fl (spanC acc)) ∧ Hid (wr.ownsRow (w2.heap.size + 1) 26 2 (.slice al L.length cl) L.length (spanC L)) ∧ Hid (∀ g, (Value.slice fa fl fc).ownBlock = some g → (Value.slice al L.length cl).ownBlock ≠ some g) ∧ Hid (SpanBox wr w.heap.size (s1, s2)) ∧ Hid (Below w.heap.size w wr)) (fun _ _ i _ => L.length - (RowKit.intOf i).toNat)
  case atStart => exact ⟨0, 0, 0, _, 0, [], Nat.zero_le _, Nat.le_refl _, rfl, rfl, rfl, (show freeF (s1, s2) (L.take 0) = (0, []) from rfl), HEw, HList, fun g hg e => by simp [Value.ownBlock] at hg; have := HNb.out g e; omega, HXw, HBW⟩
  case round =>
    clear HBW HXw HEw HList HBc
    obtain ⟨k, fl, fc, fa, z, acc, hk, hfl, rfl, rfl, rfl, HP, HOwn, HLst, HAp, HBx, HB⟩ := hrel
    have HLen : Hid (fl = acc.length) := by show _ = _; have := HOwn.out.1; rw [spanC_len] at this; omega
    by_cases hlt : k < L.length
    · obtain ⟨a', c', hv', hc', hm', HC⟩ := spans_open (spansAt_own HLst.out)
      simp at hv'
      obtain ⟨rfl, rfl⟩ := hv'
      obtain ⟨b, off, rfl, hbl, y0, y1⟩ := HC.out k hlt
      have HSt := Lib.hid (freeF_take (s1, s2) L k hlt)
      obtain ⟨b0, b1, bf⟩ := HBx.out
      simp only at b0 b1
      have hbw := HBx.out.lt
      have HD1 := Lib.hid (SpanBox.new wr L[k] 26)
      generalize L[k] = y at *
      obtain ⟨p, q⟩ := y
      simp only at y0 y1
      have HCk := Lib.hid (HCm.out (z, p))
      have HN : Hid (freeF (s1, s2) (L.take (k + 1)) = (q, if common (z, p) (s1, s2) = (0, 0) then acc else acc ++ [common (z, p) (s1, s2)])) := by show _ = _; rw [HSt.out, HP.out]; rfl
      have hrow := fun g hg => HOwn.out.lt g hg
      have hlrow := fun g hg => HLst.out.lt g hg
      clear HSt HP HC hc'
      generalize common (z, p) (s1, s2) = cc at *
      obtain ⟨c1, c2⟩ := cc
      have HB1 : Hid (Below w.heap.size w (wr.alloc (.cells #[.int .i64 p, .int .i64 q] 26))) := HB.out.alloc HB.out.size _
      have HBx1 := Lib.hid (HBx.out.keep ((Below.refl _ _).alloc (Nat.le_refl _) (.cells #[.int .i64 p, .int .i64 q] 26)))
      have HOw1 := Lib.hid (HOwn.out.alloc (.cells #[.int .i64 p, .int .i64 q] 26))
      have HLs1 := Lib.hid (HLst.out.alloc (.cells #[.int .i64 p, .int .i64 q] 26))
      go_wp2_with fail
      go_at_call 47
      refine (HCk.out _).mono ?_
      rintro e w6 ⟨rfl, hb⟩
      have HB6 : Hid (Below w.heap.size w w6) := HB1.out.trans (hb.mono (by simp <;> omega))
      have HBx6 := Lib.hid (HBx1.out.keep hb)
      have HOw6 := Lib.hid (own_later HOw1.out hb)
      have HLs6 := Lib.hid (own_later HLs1.out hb)
      have HD6 := Lib.hid (HD1.out.keep hb)
      have hsz6 : wr.heap.size < w6.heap.size := by have := hb.size; simp at this; omega
      clear hb y0 y1 b0 b1 bf HB1 HBx1 HOw1 HLs1 HD1 HB HBx HOwn HLst hbl
      obtain ⟨e0, e1, ef⟩ := HD6.out
      simp only at e0 e1
      have hz : (c1 = 0 ∧ c2 = 0) ∨ (c1 = 0 ∧ c2 ≠ 0) ∨ c1 ≠ 0 := by omega
      rcases hz with ⟨rfl, rfl⟩ | hz
      · have HN2 : Hid (freeF (s1, s2) (L.take (k + 1)) = (q, acc)) := by show _ = _; rw [HN.out, if_pos rfl]
        go_wp2_with fail
        go_roundw
        case rel => exact ⟨k + 1, fl, fc, fa, q, acc, by omega, by omega, by go_num, rfl, rfl, HN2, HOw6.out.alloc _, HLs6.out.alloc _, HAp, HBx6.out.keep ((Below.refl _ _).alloc (Nat.le_refl _) _), HB6.out.alloc (by have := HB6.out.size; omega) _⟩
        case measure => simp [RowKit.intOf]; omega
      · have HN2 : Hid (freeF (s1, s2) (L.take (k + 1)) = (q, acc ++ [(c1, c2)])) := by
          show _ = _; rw [HN.out, if_neg (fun e => by have x1 := congrArg Prod.fst e; have x2 := congrArg Prod.snd e; simp only at x1 x2; omega)]
        have hne : ¬ (c1 = 0 ∧ c2 = 0) := by omega
        have HOw7 := Lib.hid ((HOw6.out.alloc (.cells #[.int .i64 c1, .int .i64 c2] 26)).alloc (.cells #[.int .i64 c1, .int .i64 c2] 26))
        have HLs7 := Lib.hid ((HLs6.out.alloc (.cells #[.int .i64 c1, .int .i64 c2] 26)).alloc (.cells #[.int .i64 c1, .int .i64 c2] 26))
        have hb7 : Below w6.heap.size w6 ((w6.alloc (.cells #[.int .i64 c1, .int .i64 c2] 26)).alloc (.cells #[.int .i64 c1, .int .i64 c2] 26)) := ((Below.refl _ _).alloc (Nat.le_refl _) _).alloc (by simp) _
        have HB7 := Lib.hid (HB6.out.trans (hb7.mono HB6.out.size))
        have HBx7 := Lib.hid (HBx6.out.keep hb7)
        have HD7 := Lib.hid (HD6.out.keep hb7)
        have hones : ∀ j x, (spanC [(c1, c2)])[j]? = some x → ((w6.alloc (.cells #[.int .i64 c1, .int .i64 c2] 26)).alloc (.cells #[.int .i64 c1, .int .i64 c2] 26)).cell? ((⟨w6.heap.size + 1, 0, none⟩ : Addr).add j) = some x := by
          intro j x h
          have := spanC_one (w6.alloc (.cells #[.int .i64 c1, .int .i64 c2] 26)) (c1, c2) 26 j x h
          rwa [World.size_alloc] at this
        have HOnes := Lib.hid hones
        have hws : w.heap.size + 1 ≤ ((w6.alloc (.cells #[.int .i64 c1, .int .i64 c2] 26)).alloc (.cells #[.int .i64 c1, .int .i64 c2] 26)).heap.size := by simp; omega
        clear hones hb7 HB6 HBx6
        rcases hz with ⟨rfl, hz2'⟩ | hz1'
        · go_wp2_with (at_builtin; refine wpList_append_own_at _ rfl _ _ 24 rfl (w.heap.size + 1) 26 i0 (.agg #[.int .i64 0, .int .i64 0]) 2 16 Try.underlying24 hi hz0 hz1 hz2 rfl (by decide) _ _ _ rfl HOw7.out ⟨w6.heap.size + 1, 0, none⟩ 1 1 (spanC [(0, c2)]) rfl rfl ?c1 ?c2 ?c3 ?c4 ?c5 ?_)
          case c1 => exact HOnes.out
          case c2 => exact spanC_cells _
          case c3 => unfold maxLen; omega
          case c4 => omega
          case c5 => exact hws
          intro v' w8 hown' hgrow _ hat
          have hr7 := hrow
          rw [← spanC_append] at hown'
          have hap8 : ∀ g, v'.ownBlock = some g → (Value.slice (some ⟨b, off, none⟩) L.length cl).ownBlock ≠ some g := fun g hg e => by
            rcases hat with h1 | h1
            · exact HAp.out g (by rw [← h1]; exact hg) e
            · rw [hg] at h1
              have h2 := (HLs6.out.lt g e).2
              have h3 := Option.some.inj h1
              try simp at h3
              omega
          obtain ⟨a', c', rfl⟩ := own_shape hown'
          have HR := Lib.hid hown'
          have HL8 : Hid (w8.ownsRow (w2.heap.size + 1) 26 2 (.slice (some ⟨b, off, none⟩) L.length cl) L.length (spanC L)) := HLs7.out.kept hgrow (by
            by_cases hv : (Value.slice (some ⟨b, off, none⟩) L.length cl).ownBlock = none
            · exact .inl hv
            · refine .inr fun e => ?_
              obtain ⟨g, hg⟩ := Option.ne_none_iff_exists'.1 hv
              exact HAp.out g (by rw [← e]; exact hg) hg)
          have hg8 : Below (w.heap.size + 1) ((w6.alloc (.cells #[.int .i64 0, .int .i64 c2] 26)).alloc (.cells #[.int .i64 0, .int .i64 c2] 26)) w8 := (Below.refl _ _).grown hgrow hws (fun g hg => (hrow g hg).1)
          have HBx8 := Lib.hid (HBx7.out.keepAt hg8 (by omega))
          have HB8 : Hid (Below w.heap.size w w8) := HB7.out.trans (hg8.mono (by omega))
          have k1 : w8.cell? ⟨wr.heap.size, 1, none⟩ = some (.int .i64 q) := hgrow.cell HD7.out.c1 (fun e => absurd (hrow _ e.symm).2 (Nat.lt_irrefl _))
          have HAp8 := Lib.hid hap8
          clear hown' hgrow hat hap8 hg8 HLs7 HLs6 HOw6 HOw7 HBx7 HB7 HD7 HD6 e0 e1 ef HOnes
          go_wp2_with fail
          go_roundw
          case rel => exact ⟨k + 1, fl + 1, c', a', q, acc ++ [(0, c2)], by omega, by omega, by go_num, rfl, rfl, HN2, HR, HL8, HAp8, HBx8, HB8⟩
          case measure => simp [RowKit.intOf]; omega
        · go_wp2_with (at_builtin; refine wpList_append_own_at _ rfl _ _ 24 rfl (w.heap.size + 1) 26 i0 (.agg #[.int .i64 0, .int .i64 0]) 2 16 Try.underlying24 hi hz0 hz1 hz2 rfl (by decide) _ _ _ rfl HOw7.out ⟨w6.heap.size + 1, 0, none⟩ 1 1 (spanC [(c1, c2)]) rfl rfl ?c1 ?c2 ?c3 ?c4 ?c5 ?_)
          case c1 => exact HOnes.out
          case c2 => exact spanC_cells _
          case c3 => unfold maxLen; omega
          case c4 => omega
          case c5 => exact hws
          intro v' w8 hown' hgrow _ hat
          have hr7 := hrow
          rw [← spanC_append] at hown'
          have hap8 : ∀ g, v'.ownBlock = some g → (Value.slice (some ⟨b, off, none⟩) L.length cl).ownBlock ≠ some g := fun g hg e => by
            rcases hat with h1 | h1
            · exact HAp.out g (by rw [← h1]; exact hg) e
            · rw [hg] at h1
              have h2 := (HLs6.out.lt g e).2
              have h3 := Option.some.inj h1
              try simp at h3
              omega
          obtain ⟨a', c', rfl⟩ := own_shape hown'
          have HR := Lib.hid hown'
          have HL8 : Hid (w8.ownsRow (w2.heap.size + 1) 26 2 (.slice (some ⟨b, off, none⟩) L.length cl) L.length (spanC L)) := HLs7.out.kept hgrow (by
            by_cases hv : (Value.slice (some ⟨b, off, none⟩) L.length cl).ownBlock = none
            · exact .inl hv
            · refine .inr fun e => ?_
              obtain ⟨g, hg⟩ := Option.ne_none_iff_exists'.1 hv
              exact HAp.out g (by rw [← e]; exact hg) hg)
          have hg8 : Below (w.heap.size + 1) ((w6.alloc (.cells #[.int .i64 c1, .int .i64 c2] 26)).alloc (.cells #[.int .i64 c1, .int .i64 c2] 26)) w8 := (Below.refl _ _).grown hgrow hws (fun g hg => (hrow g hg).1)
          have HBx8 := Lib.hid (HBx7.out.keepAt hg8 (by omega))
          have HB8 : Hid (Below w.heap.size w w8) := HB7.out.trans (hg8.mono (by omega))
          have k1 : w8.cell? ⟨wr.heap.size, 1, none⟩ = some (.int .i64 q) := hgrow.cell HD7.out.c1 (fun e => absurd (hrow _ e.symm).2 (Nat.lt_irrefl _))
          have HAp8 := Lib.hid hap8
          clear hown' hgrow hat hap8 hg8 HLs7 HLs6 HOw6 HOw7 HBx7 HB7 HD7 HD6 e0 e1 ef HOnes
          go_wp2_with fail
          go_roundw
          case rel => exact ⟨k + 1, fl + 1, c', a', q, acc ++ [(c1, c2)], by omega, by omega, by go_num, rfl, rfl, HN2, HR, HL8, HAp8, HBx8, HB8⟩
          case measure => simp [RowKit.intOf]; omega
    · have hkl : k = L.length := by omega
      subst hkl
      have HFin : Hid (wr.ownsRow w.heap.size 26 2 (.slice fa fl fc) (freeOf xs (s1, s2)).length (spanC (freeOf xs (s1, s2)))) := by
        have e := HP.out
        rw [List.take_length] at e
        have e2 : acc = freeOf xs (s1, s2) := by rw [← HF.out, e]
        show World.ownsRow _ _ _ _ _ _ _
        rw [← e2, ← HLen.out]; exact own_base HOwn.out (by omega)
      go_wp2_with fail
      go_ret2
      exact ⟨_, rfl, SpansIn.mk HFin.out, HB.out⟩

set_option maxRecDepth 100000 in
set_option maxHeartbeats 4000000 in
theorem implFree_no (v : Value) (xs : List SpanD) (s : SpanD) (w : World) (hr : SpansAt w v xs) (hn : SpansSmall xs) (hno : ¬ (SpansOk xs ∧ SpanOk s)) :
    Calls Try.prog 15 #[v, .agg #[.int .i64 s.1, .int .i64 s.2]] w fun e w' => ∃ z, e = .returned (.tuple #[z, .bool false]) ∧ SpansIn w.heap.size w'.heap.size w' z [] ∧ Below w.heap.size w w' := by
  have HS := Lib.hid (fun W (h : Below w.heap.size w W) => areSpans_any v xs W (hr.below rfl h) hn)
  have HO := Lib.hid (fun W => isSpan_any s W)
  have HB0 : Hid (Below w.heap.size w ((w.alloc (.cells #[.int .i64 s.1, .int .i64 s.2] 26)).alloc (.cells #[] 26))) := ((Below.refl _ _).alloc (Nat.le_refl _) _).alloc (by simp) _
  have HX0 := Lib.hid ((SpanBox.new w s 26).keep ((Below.refl _ _).alloc (Nat.le_refl _) (.cells #[] 26)))
  have HE0 : Hid (((w.alloc (.cells #[.int .i64 s.1, .int .i64 s.2] 26)).alloc (.cells #[] 26)).ownsRow w.heap.size 26 2 (.slice (some ⟨w.heap.size + 1, 0, none⟩) 0 0) 0 (spanC [])) := by
    have := World.ownsRow_made (base := w.heap.size) (size := 2) (e := 26) (w.alloc (.cells #[.int .i64 s.1, .int .i64 s.2] 26)) #[] 0 (by simp) (by decide) rfl
    show World.ownsRow _ _ _ _ _ _ _
    simpa [spanC] using this
  obtain ⟨a, c, rfl, _⟩ := spans_open hr
  clear hr
  by_cases hok : SpansOk xs
  · have hs : ¬ SpanOk s := fun h => hno ⟨hok, h⟩
    rw [spansB_yes hok] at HS
    rw [spanB_no hs] at HO
    obtain ⟨s1, s2⟩ := s
    simp only at HX0 HE0 HB0 HO
    clear hno hok hs
    go_enter Try.func15, Try.ntmps15
    go_wp2_with fail
    go_at_call 44
    refine (HS.out _ HB0.out).mono ?_
    rintro e w1 ⟨rfl, hb⟩
    have HB1 : Hid (Below w.heap.size w w1) := HB0.out.trans (hb.mono (by simp <;> omega))
    have HX1 := Lib.hid (HX0.out.keep hb)
    have HE1 := Lib.hid (own_later HE0.out hb)
    clear hb HB0 HX0 HE0
    obtain ⟨b0, b1, bf⟩ := HX1.out
    simp only at b0 b1
    go_wp2_with fail
    go_at_call 45
    refine (HO.out _).mono ?_
    rintro e w2 ⟨rfl, hb⟩
    have HB2 : Hid (Below w.heap.size w w2) := HB1.out.trans (hb.mono HB1.out.size)
    have HE2 := Lib.hid (own_later HE1.out hb)
    clear b0 b1 bf hb HB1 HX1 HE1
    go_wp2_with fail
    go_ret2
    exact ⟨_, rfl, SpansIn.mk HE2.out, HB2.out⟩
  · rw [spansB_no hok] at HS
    obtain ⟨s1, s2⟩ := s
    simp only at HX0 HE0 HB0
    clear hno hok HO
    go_enter Try.func15, Try.ntmps15
    go_wp2_with fail
    go_at_call 44
    refine (HS.out _ HB0.out).mono ?_
    rintro e w1 ⟨rfl, hb⟩
    have HB1 : Hid (Below w.heap.size w w1) := HB0.out.trans (hb.mono (by simp <;> omega))
    have HE1 := Lib.hid (own_later HE0.out hb)
    clear hb HB0 HX0 HE0
    go_wp2_with fail
    go_ret2
    exact ⟨_, rfl, SpansIn.mk HE1.out, HB1.out⟩

theorem bothFreeSpans (d : List SpanD) (hf : SpansFit d) (hs : SpansSmall d) (s : SpanD) (hf1 : SpanWf s) (hs1 : SpanSmall s) : ∃ (r : List SpanD) (b : Bool), SpansSmall r ∧ ∀ (v v1 : Value) (w : World), SpansAt w v d → SpanAt w v1 s →
    (Calls Try.prog 16 #[v, v1] w fun e w' => ∃ z, e = .returned (.tuple #[z, .bool b]) ∧ SpansIn w.heap.size w'.heap.size w' z r ∧ Below w.heap.size w w') ∧
    Calls Try.prog 15 #[v, v1] w fun e w' => ∃ z, e = .returned (.tuple #[z, .bool b]) ∧ SpansIn w.heap.size w'.heap.size w' z r ∧ Below w.heap.size w w' := by
  refine ⟨freeA d s, freeK d s, ?_, fun v v1 w h h1 => ?_⟩
  · unfold freeA SpansSmall
    split
    · rename_i h; have := freeOf_small d s h.2; omega
    · simp
  · rw [Span_open h1]
    refine ⟨specFree_any v d s w h hs, ?_⟩
    by_cases hq : SpansOk d ∧ SpanOk s
    · rw [show freeA d s = freeOf d s from if_pos hq, show freeK d s = true from decide_eq_true hq]
      exact implFree_yes v d s w h hs hq.1 hq.2
    · rw [show freeA d s = [] from if_neg hq, show freeK d s = false from decide_eq_false hq]
      exact implFree_no v d s w h hs hq
end Go.Proofs.Ytenbplehiaofmaa
