/-
  CONTRACTS: spec.MergeSpans, impl.MergeSpans; both sides in one form.
-/
import Derived.Test.YtenbplehiaofmaaRuns
import Derived.Test.YtenbplehiaofmaaMerged
namespace Go.Proofs.Ytenbplehiaofmaa
open Go.RowKit
set_option linter.unusedVariables false

theorem wantB_true (xs : List SpanD) : wantB xs true = covB xs := by funext t; unfold wantB; cases covB xs t <;> rfl
theorem wantB_false (xs : List SpanD) : wantB xs false = fun t => !covB xs t := by funext t; unfold wantB; cases covB xs t <;> rfl
/-- what MergeSpans answers -/
def mergeA (xs : List SpanD) : List SpanD := if SpansOk xs then mergedOf xs else []
theorem empty_in (w0 : Nat) (w : World) (h : w0 ≤ w.heap.size) : SpansIn w0 (w.alloc (.cells #[] 26)).heap.size (w.alloc (.cells #[] 26)) (.slice (some ⟨w.heap.size, 0, none⟩) 0 0) [] :=
  SpansIn.mk (World.ownsRow_made w #[] 0 h (by decide) rfl)
theorem mergedOf_small (xs : List SpanD) : (mergedOf xs).length ≤ 1799 := runsF_len _ _ _

set_option maxHeartbeats 2000000 in
theorem specMerge_any (v : Value) (xs : List SpanD) (w : World) (hr : SpansAt w v xs) (hn : SpansSmall xs) :
    Calls Try.prog 21 #[v] w fun e w' => ∃ z, e = .returned (.tuple #[z, .bool (spansB xs)]) ∧ SpansIn w.heap.size w'.heap.size w' z (mergeA xs) ∧ Below w.heap.size w w' := by
  have HS := Lib.hid (l4Spans_any v xs w hr hn)
  have HC := Lib.hid (fun W (h : Below w.heap.size w W) (hok : SpansOk xs) => l4Counts_any v xs W (hr.below rfl h) hok)
  obtain ⟨a, c, rfl, _⟩ := spans_open hr
  clear hr
  unfold mergeA
  by_cases hok : SpansOk xs
  · rw [spansB_yes hok] at HS ⊢
    rw [if_pos hok]
    have HO := Lib.hid hok
    clear hok
    go_enter Try.func21, Try.ntmps21
    go_wp2_with fail
    go_at_call 48
    refine HS.out.mono ?_
    rintro e w1 ⟨rfl, hb1⟩
    have HB1 := Lib.hid hb1
    clear hb1
    go_wp2_with fail
    go_at_call 51
    refine (HC.out _ HB1.out HO.out).mono ?_
    rintro e w2 ⟨c2, rfl, hown, hb2⟩
    have HB2 : Hid (Below w.heap.size w w2) := HB1.out.trans (hb2.mono HB1.out.size)
    have HR := Lib.hid (l4Runs_any w1.heap.size c2 xs (0, 1799) true w2 (fun t ht => covTo_at hown t ht) ⟨⟨by decide, by decide⟩, ⟨by decide, by decide⟩, by decide⟩)
    clear hown hb2 HB1
    generalize w1.heap.size = g at *
    go_wp2_with fail
    go_at_call 50
    refine HR.out.mono ?_
    rintro e w3 ⟨v3, rfl, hin, hb3⟩
    rw [wantB_true] at hin
    have hin' : SpansIn w2.heap.size w3.heap.size w3 v3 (mergedOf xs) := hin
    go_wp2_with fail
    go_ret2
    exact ⟨_, rfl, hin'.base HB2.out.size (Nat.le_refl _), HB2.out.trans (hb3.mono HB2.out.size)⟩
  · rw [spansB_no hok] at HS ⊢
    rw [if_neg hok]
    clear hok HC
    go_enter Try.func21, Try.ntmps21
    go_wp2_with fail
    go_at_call 48
    refine HS.out.mono ?_
    rintro e w1 ⟨rfl, hb1⟩
    go_wp2_with fail
    go_ret2
    exact ⟨_, rfl, empty_in _ _ hb1.size, hb1.alloc hb1.size _⟩

set_option maxHeartbeats 2000000 in
theorem implMerge_any (v : Value) (xs : List SpanD) (w : World) (hr : SpansAt w v xs) (hn : SpansSmall xs) :
    Calls Try.prog 18 #[v] w fun e w' => ∃ z, e = .returned (.tuple #[z, .bool (spansB xs)]) ∧ SpansIn w.heap.size w'.heap.size w' z (mergeA xs) ∧ Below w.heap.size w w' := by
  have HS := Lib.hid (areSpans_any v xs w hr hn)
  have HM := Lib.hid (fun W (h : Below w.heap.size w W) (hok : SpansOk xs) => mergedSpans_any v xs W (hr.below rfl h) hok)
  obtain ⟨a, c, rfl, _⟩ := spans_open hr
  clear hr
  unfold mergeA
  by_cases hok : SpansOk xs
  · rw [spansB_yes hok] at HS ⊢
    rw [if_pos hok]
    have HO := Lib.hid hok
    clear hok
    go_enter Try.func18, Try.ntmps18
    go_wp2_with fail
    go_at_call 44
    refine HS.out.mono ?_
    rintro e w1 ⟨rfl, hb1⟩
    have HB1 := Lib.hid hb1
    clear hb1
    go_wp2_with fail
    go_at_call 46
    refine (HM.out _ HB1.out HO.out).mono ?_
    rintro e w2 ⟨v2, rfl, hin, hb2⟩
    go_wp2_with fail
    go_ret2
    exact ⟨_, rfl, hin.base HB1.out.size (Nat.le_refl _), HB1.out.trans (hb2.mono HB1.out.size)⟩
  · rw [spansB_no hok] at HS ⊢
    rw [if_neg hok]
    clear hok HM
    go_enter Try.func18, Try.ntmps18
    go_wp2_with fail
    go_at_call 44
    refine HS.out.mono ?_
    rintro e w1 ⟨rfl, hb1⟩
    go_wp2_with fail
    go_ret2
    exact ⟨_, rfl, empty_in _ _ hb1.size, hb1.alloc hb1.size _⟩

theorem bothMergeSpans (d : List SpanD) (hf : SpansFit d) (hs : SpansSmall d) : ∃ (r : List SpanD) (b : Bool), SpansSmall r ∧ ∀ (v : Value) (w : World), SpansAt w v d →
    (Calls Try.prog 21 #[v] w fun e w' => ∃ z, e = .returned (.tuple #[z, .bool b]) ∧ SpansIn w.heap.size w'.heap.size w' z r ∧ Below w.heap.size w w') ∧
    Calls Try.prog 18 #[v] w fun e w' => ∃ z, e = .returned (.tuple #[z, .bool b]) ∧ SpansIn w.heap.size w'.heap.size w' z r ∧ Below w.heap.size w w' :=
  ⟨mergeA d, spansB d, by unfold mergeA SpansSmall; split; have := mergedOf_small d; omega; simp, fun v w h => ⟨specMerge_any v d w h hs, implMerge_any v d w h hs⟩⟩
end Go.Proofs.Ytenbplehiaofmaa
