/-
  CONTRACTS: impl.commonTimes, impl.OverlapOf, spec.OverlapOf.
-/
import Derived.Test.YtenbplehiaofmaaSpanGood
namespace Go.Proofs.Ytenbplehiaofmaa
open Go.RowKit
set_option linter.unusedVariables false

theorem common_is {a1 a2 b1 b2 : Int} : common (a1, a2) (b1, b2) = if (if b2 < a2 then b2 else a2) ≤ (if a1 < b1 then b1 else a1) then (0, 0) else ((if a1 < b1 then b1 else a1), (if b2 < a2 then b2 else a2)) := by
  unfold common
  have e1 : max a1 b1 = (if a1 < b1 then b1 else a1) := by split <;> omega
  have e2 : min a2 b2 = (if b2 < a2 then b2 else a2) := by split <;> omega
  simp only [e1, e2]
theorem below4 {w : World} {o0 o1 o2 o3 : Obj} : Below w.heap.size w ((((w.alloc o0).alloc o1).alloc o2).alloc o3) :=
  ((((Below.refl _ _).alloc (by simp <;> omega) _).alloc (by simp <;> omega) _).alloc (by simp <;> omega) _).alloc (by simp <;> omega) _

theorem commonTimes_any (a b : SpanD) (w : World) : Calls Try.prog 47 #[.agg #[.int .i64 a.1, .int .i64 a.2], .agg #[.int .i64 b.1, .int .i64 b.2]] w fun e w' => e = .returned (.agg #[.int .i64 (common a b).1, .int .i64 (common a b).2]) ∧ Below w.heap.size w w' := by
  obtain ⟨a1, a2⟩ := a
  obtain ⟨b1, b2⟩ := b
  rw [common_is]
  by_cases h1 : a1 < b1
  · by_cases h2 : b2 < a2
    · simp only [h1, h2, if_true]
      by_cases h : b2 ≤ b1
      · rw [if_pos h]
        go_enter Try.func47, Try.ntmps47
        go_wp2_with fail
        refine bodyPost_ret (v := .agg #[.int .i64 0, .int .i64 0]) (by simp only [results, Try.results47]; go_simp) rfl ⟨rfl, below4⟩
      · rw [if_neg h]
        have h' : ¬ b2 ≤ b1 := h
        go_enter Try.func47, Try.ntmps47
        go_wp2_with fail
        refine bodyPost_ret (v := .agg #[.int .i64 b1, .int .i64 b2]) (by simp only [results, Try.results47]; go_simp) rfl ⟨rfl, below4⟩
    · simp only [h1, h2, if_true, if_false]
      by_cases h : a2 ≤ b1
      · rw [if_pos h]
        go_enter Try.func47, Try.ntmps47
        go_wp2_with fail
        refine bodyPost_ret (v := .agg #[.int .i64 0, .int .i64 0]) (by simp only [results, Try.results47]; go_simp) rfl ⟨rfl, below4⟩
      · rw [if_neg h]
        have h' : ¬ a2 ≤ b1 := h
        go_enter Try.func47, Try.ntmps47
        go_wp2_with fail
        refine bodyPost_ret (v := .agg #[.int .i64 b1, .int .i64 a2]) (by simp only [results, Try.results47]; go_simp) rfl ⟨rfl, below4⟩
  · by_cases h2 : b2 < a2
    · simp only [h1, h2, if_true, if_false]
      by_cases h : b2 ≤ a1
      · rw [if_pos h]
        go_enter Try.func47, Try.ntmps47
        go_wp2_with fail
        refine bodyPost_ret (v := .agg #[.int .i64 0, .int .i64 0]) (by simp only [results, Try.results47]; go_simp) rfl ⟨rfl, below4⟩
      · rw [if_neg h]
        have h' : ¬ b2 ≤ a1 := h
        go_enter Try.func47, Try.ntmps47
        go_wp2_with fail
        refine bodyPost_ret (v := .agg #[.int .i64 a1, .int .i64 b2]) (by simp only [results, Try.results47]; go_simp) rfl ⟨rfl, below4⟩
    · simp only [h1, h2, if_false]
      by_cases h : a2 ≤ a1
      · rw [if_pos h]
        go_enter Try.func47, Try.ntmps47
        go_wp2_with fail
        refine bodyPost_ret (v := .agg #[.int .i64 0, .int .i64 0]) (by simp only [results, Try.results47]; go_simp) rfl ⟨rfl, below4⟩
      · rw [if_neg h]
        have h' : ¬ a2 ≤ a1 := h
        go_enter Try.func47, Try.ntmps47
        go_wp2_with fail
        refine bodyPost_ret (v := .agg #[.int .i64 a1, .int .i64 a2]) (by simp only [results, Try.results47]; go_simp) rfl ⟨rfl, below4⟩

/-- what OverlapOf answers -/
def overV (a b : SpanD) : SpanD := if SpanOk a ∧ SpanOk b then common a b else (0, 0)
def overB (a b : SpanD) : Bool := decide (SpanOk a ∧ SpanOk b ∧ common a b ≠ (0, 0))
def overK (a b : SpanD) : Bool := decide (SpanOk a ∧ SpanOk b)
theorem boxes3 (w : World) (a b c : SpanD) (t : TypeId) : SpanBox (((w.alloc (.cells #[.int .i64 a.1, .int .i64 a.2] t)).alloc (.cells #[.int .i64 b.1, .int .i64 b.2] t)).alloc (.cells #[.int .i64 c.1, .int .i64 c.2] t)) w.heap.size a ∧
    SpanBox (((w.alloc (.cells #[.int .i64 a.1, .int .i64 a.2] t)).alloc (.cells #[.int .i64 b.1, .int .i64 b.2] t)).alloc (.cells #[.int .i64 c.1, .int .i64 c.2] t)) (w.heap.size + 1) b ∧
    SpanBox (((w.alloc (.cells #[.int .i64 a.1, .int .i64 a.2] t)).alloc (.cells #[.int .i64 b.1, .int .i64 b.2] t)).alloc (.cells #[.int .i64 c.1, .int .i64 c.2] t)) (w.heap.size + 1 + 1) c := by
  refine ⟨((SpanBox.new w a t).keep ((Below.refl _ _).alloc (Nat.le_refl _) _)).keep ((Below.refl _ _).alloc (Nat.le_refl _) _), ?_, ?_⟩
  · have := (SpanBox.new (w.alloc (.cells #[.int .i64 a.1, .int .i64 a.2] t)) b t).keep ((Below.refl _ _).alloc (Nat.le_refl _) (.cells #[.int .i64 c.1, .int .i64 c.2] t))
    simpa using this
  · have := SpanBox.new ((w.alloc (.cells #[.int .i64 a.1, .int .i64 a.2] t)).alloc (.cells #[.int .i64 b.1, .int .i64 b.2] t)) c t
    simpa using this
theorem below3 {w : World} {o0 o1 o2 : Obj} : Below w.heap.size w (((w.alloc o0).alloc o1).alloc o2) :=
  (((Below.refl _ _).alloc (by simp <;> omega) _).alloc (by simp <;> omega) _).alloc (by simp <;> omega) _
theorem below_end {w w3 : World} {b : Nat} {u v : Value} {o : Obj} (hb : Below w.heap.size w w3) (hl : w.heap.size ≤ b) : Below w.heap.size w (((w3.setCell ⟨b, 0, none⟩ u).setCell ⟨b, 1, none⟩ v).alloc o).drew :=
  (((hb.setCell (p := ⟨b, 0, none⟩) hl _).setCell (p := ⟨b, 1, none⟩) hl _).alloc (by simp [World.setCell]; exact hb.size) _).drew
theorem span_ne (c1 c2 : Int) : decide ((c1, c2) ≠ ((0, 0) : SpanD)) = !((c1 == 0) && (c2 == 0)) := by
  by_cases e1 : c1 = 0 <;> by_cases e2 : c2 = 0 <;> simp [e1, e2]

set_option maxRecDepth 100000 in
set_option maxHeartbeats 4000000 in
theorem implOverlap_any (a b : SpanD) (w : World) : Calls Try.prog 22 #[.agg #[.int .i64 a.1, .int .i64 a.2], .agg #[.int .i64 b.1, .int .i64 b.2]] w fun e w' => e = .returned (.tuple #[.agg #[.int .i64 (overV a b).1, .int .i64 (overV a b).2], .bool (overB a b), .bool (overK a b)]) ∧ Below w.heap.size w w' := by
  have HA := Lib.hid (fun W => isSpan_any a W)
  have HC := Lib.hid (fun W => isSpan_any b W)
  have HM := Lib.hid (fun W => commonTimes_any a b W)
  have HX := Lib.hid (boxes3 w a b (0, 0) 26)
  have HB0 : Hid (Below w.heap.size w (((w.alloc (.cells #[.int .i64 a.1, .int .i64 a.2] 26)).alloc (.cells #[.int .i64 b.1, .int .i64 b.2] 26)).alloc (.cells #[.int .i64 0, .int .i64 0] 26))) := below3
  by_cases h1 : SpanOk a
  · rw [spanB_yes h1] at HA
    by_cases h2 : SpanOk b
    · rw [spanB_yes h2] at HC
      rw [show overV a b = common a b from if_pos ⟨h1, h2⟩, show overK a b = true from decide_eq_true ⟨h1, h2⟩, show overB a b = decide (common a b ≠ (0, 0)) by unfold overB; simp [h1, h2]]
      generalize common a b = c at *
      obtain ⟨c1, c2⟩ := c
      obtain ⟨a1, a2⟩ := a
      obtain ⟨b1, b2⟩ := b
      rw [span_ne]
      clear h1 h2
      go_enter Try.func22, Try.ntmps22
      go_wp2_with fail
      go_at_call 45
      refine (HA.out _).mono ?_
      rintro e w1 ⟨rfl, hb⟩
      have HX1 : Hid (SpanBox w1 w.heap.size (a1, a2) ∧ SpanBox w1 (w.heap.size + 1) (b1, b2) ∧ SpanBox w1 (w.heap.size + 1 + 1) (0, 0)) := ⟨HX.out.1.keep hb, HX.out.2.1.keep hb, HX.out.2.2.keep hb⟩
      have HB1 : Hid (Below w.heap.size w w1) := HB0.out.trans (hb.mono (by simp <;> omega))
      clear hb HX HB0
      obtain ⟨⟨p0, p1, pf⟩, ⟨q0, q1, qf⟩, ⟨r0, r1, rf⟩⟩ := HX1.out
      simp only at p0 p1 q0 q1 r0 r1
      go_wp2_with fail
      go_at_call 45
      refine (HC.out _).mono ?_
      rintro e w2 ⟨rfl, hb⟩
      have HX2 : Hid (SpanBox w2 w.heap.size (a1, a2) ∧ SpanBox w2 (w.heap.size + 1) (b1, b2) ∧ SpanBox w2 (w.heap.size + 1 + 1) (0, 0)) := ⟨HX1.out.1.keep hb, HX1.out.2.1.keep hb, HX1.out.2.2.keep hb⟩
      have HB2 : Hid (Below w.heap.size w w2) := HB1.out.trans (hb.mono HB1.out.size)
      clear p0 p1 pf q0 q1 qf r0 r1 rf hb HX1 HB1
      obtain ⟨⟨p0, p1, pf⟩, ⟨q0, q1, qf⟩, ⟨r0, r1, rf⟩⟩ := HX2.out
      simp only at p0 p1 q0 q1 r0 r1
      go_wp2_with fail
      go_at_call 47
      refine (HM.out _).mono ?_
      rintro e w3 ⟨rfl, hb⟩
      have HX3 : Hid (SpanBox w3 (w.heap.size + 1 + 1) (0, 0)) := HX2.out.2.2.keep hb
      have HB3 : Hid (Below w.heap.size w w3) := HB2.out.trans (hb.mono HB2.out.size)
      clear p0 p1 pf q0 q1 qf r0 r1 rf hb HX2 HB2
      obtain ⟨r0, r1, rf⟩ := HX3.out
      simp only at r0 r1
      have hlt3 := HX3.out.lt
      have hne3 : w.heap.size + 1 + 1 ≠ w3.heap.size := by omega
      go_wp2_with fail
      have hz : (c1 = 0 ∧ c2 = 0) ∨ (c1 = 0 ∧ c2 ≠ 0) ∨ c1 ≠ 0 := by omega
      rcases hz with ⟨rfl, rfl⟩ | ⟨rfl, e2⟩ | e1
      · go_region
        all_goals go_wp2_with fail
        all_goals exact bodyPost_ret (v := .tuple #[.agg #[.int .i64 0, .int .i64 0], .bool false, .bool true]) (by simp only [results, Try.results22]; go_simp) rfl ⟨rfl, below_end HB3.out (by omega)⟩
      · go_region
        all_goals go_wp2_with fail
        all_goals exact bodyPost_ret (v := .tuple #[.agg #[.int .i64 0, .int .i64 c2], .bool true, .bool true]) (by simp only [results, Try.results22]; go_simp) rfl ⟨by simp [*], below_end HB3.out (by omega)⟩
      · go_region
        all_goals go_wp2_with fail
        all_goals exact bodyPost_ret (v := .tuple #[.agg #[.int .i64 c1, .int .i64 c2], .bool true, .bool true]) (by simp only [results, Try.results22]; go_simp) rfl ⟨by simp [*], below_end HB3.out (by omega)⟩
    · rw [spanB_no h2] at HC
      rw [show overV a b = (0, 0) from if_neg fun h => h2 h.2, show overK a b = false from decide_eq_false fun h => h2 h.2, show overB a b = false from decide_eq_false fun h => h2 h.2.1]
      obtain ⟨a1, a2⟩ := a
      obtain ⟨b1, b2⟩ := b
      clear h1 h2 HM
      go_enter Try.func22, Try.ntmps22
      go_wp2_with fail
      go_at_call 45
      refine (HA.out _).mono ?_
      rintro e w1 ⟨rfl, hb⟩
      have HX1 : Hid (SpanBox w1 w.heap.size (a1, a2) ∧ SpanBox w1 (w.heap.size + 1) (b1, b2) ∧ SpanBox w1 (w.heap.size + 1 + 1) (0, 0)) := ⟨HX.out.1.keep hb, HX.out.2.1.keep hb, HX.out.2.2.keep hb⟩
      have HB1 : Hid (Below w.heap.size w w1) := HB0.out.trans (hb.mono (by simp <;> omega))
      clear hb HX HB0
      obtain ⟨⟨p0, p1, pf⟩, ⟨q0, q1, qf⟩, ⟨r0, r1, rf⟩⟩ := HX1.out
      simp only at p0 p1 q0 q1 r0 r1
      go_wp2_with fail
      go_at_call 45
      refine (HC.out _).mono ?_
      rintro e w2 ⟨rfl, hb⟩
      have HX2 : Hid (SpanBox w2 (w.heap.size + 1 + 1) (0, 0)) := HX1.out.2.2.keep hb
      have HB2 : Hid (Below w.heap.size w w2) := HB1.out.trans (hb.mono HB1.out.size)
      clear p0 p1 pf q0 q1 qf r0 r1 rf hb HX1 HB1
      obtain ⟨r0, r1, rf⟩ := HX2.out
      simp only at r0 r1
      go_wp2_with fail
      exact bodyPost_ret (v := .tuple #[.agg #[.int .i64 0, .int .i64 0], .bool false, .bool false]) (by simp only [results, Try.results22]; go_simp) rfl ⟨rfl, (HB2.out.setCell (p := ⟨_, 0, none⟩) (show w.heap.size ≤ w.heap.size + 1 + 1 by omega) _).setCell (p := ⟨_, 1, none⟩) (show w.heap.size ≤ w.heap.size + 1 + 1 by omega) _⟩
  · rw [spanB_no h1] at HA
    rw [show overV a b = (0, 0) from if_neg fun h => h1 h.1, show overK a b = false from decide_eq_false fun h => h1 h.1, show overB a b = false from decide_eq_false fun h => h1 h.1]
    obtain ⟨a1, a2⟩ := a
    obtain ⟨b1, b2⟩ := b
    clear h1 HM HC
    go_enter Try.func22, Try.ntmps22
    go_wp2_with fail
    go_at_call 45
    refine (HA.out _).mono ?_
    rintro e w1 ⟨rfl, hb⟩
    have HX1 : Hid (SpanBox w1 (w.heap.size + 1 + 1) (0, 0)) := HX.out.2.2.keep hb
    have HB1 : Hid (Below w.heap.size w w1) := HB0.out.trans (hb.mono (by simp <;> omega))
    clear hb HX HB0
    obtain ⟨r0, r1, rf⟩ := HX1.out
    simp only at r0 r1
    go_wp2_with fail
    exact bodyPost_ret (v := .tuple #[.agg #[.int .i64 0, .int .i64 0], .bool false, .bool false]) (by simp only [results, Try.results22]; go_simp) rfl ⟨rfl, (HB1.out.setCell (p := ⟨_, 0, none⟩) (show w.heap.size ≤ w.heap.size + 1 + 1 by omega) _).setCell (p := ⟨_, 1, none⟩) (show w.heap.size ≤ w.heap.size + 1 + 1 by omega) _⟩
end Go.Proofs.Ytenbplehiaofmaa
