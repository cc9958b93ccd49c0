/-
  CONTRACTS: spec.l1Most, spec.l1Least, spec.OverlapOf; both sides of OverlapOf in one form.
-/
import Derived.Test.YtenbplehiaofmaaOverlapOf
namespace Go.Proofs.Ytenbplehiaofmaa
open Go.RowKit
set_option linter.unusedVariables false

theorem l1Most_any (a b : Int) (w : World) : Calls Try.prog 58 #[.int .i64 a, .int .i64 b] w fun e w' => e = .returned (.int .i64 (max a b)) ∧ w = w' := by
  by_cases h : b < a
  · rw [show max a b = a by omega]
    go_enter Try.func58, Try.ntmps58
    go_wp2
    go_ret
    exact ⟨rfl, rfl⟩
  · rw [show max a b = b by omega]
    go_enter Try.func58, Try.ntmps58
    go_wp2
    go_ret
    exact ⟨rfl, rfl⟩
theorem l1Least_any (a b : Int) (w : World) : Calls Try.prog 59 #[.int .i64 a, .int .i64 b] w fun e w' => e = .returned (.int .i64 (min a b)) ∧ w = w' := by
  by_cases h : a < b
  · rw [show min a b = a by omega]
    go_enter Try.func59, Try.ntmps59
    go_wp2
    go_ret
    exact ⟨rfl, rfl⟩
  · rw [show min a b = b by omega]
    go_enter Try.func59, Try.ntmps59
    go_wp2
    go_ret
    exact ⟨rfl, rfl⟩

theorem below_end2 {w w3 : World} {b : Nat} {u v : Value} {o : Obj} (hb : Below w.heap.size w w3) (hl : w.heap.size ≤ b) : Below w.heap.size w (((w3.setCell ⟨b, 0, none⟩ u).setCell ⟨b, 1, none⟩ v).alloc o).drew := below_end hb hl
theorem keepS {W : World} {o : Obj} {p0 p1 p2 p3 : Addr} {x0 x1 x2 x3 : Value} (h0 : W.cell? p0 = some x0) (h1 : W.cell? p1 = some x1) (h2 : W.cell? p2 = some x2) (h3 : W.cell? p3 = some x3) :
    (W.drew.alloc o).cell? p0 = some x0 ∧ (W.drew.alloc o).cell? p1 = some x1 ∧ (W.drew.alloc o).cell? p2 = some x2 ∧ (W.drew.alloc o).cell? p3 = some x3 ∧ Below W.heap.size W (W.drew.alloc o) := by
  have b : Below W.heap.size W (W.drew.alloc o) := (show Below W.heap.size W W.drew from (Below.refl _ _).drew).alloc (Nat.le_refl _) _
  exact ⟨bkeep b h0, bkeep b h1, bkeep b h2, bkeep b h3, b⟩
set_option maxRecDepth 100000 in
set_option maxHeartbeats 4000000 in
theorem specOverlap_any (a b : SpanD) (w : World) : Calls Try.prog 31 #[.agg #[.int .i64 a.1, .int .i64 a.2], .agg #[.int .i64 b.1, .int .i64 b.2]] w fun e w' => e = .returned (.tuple #[.agg #[.int .i64 (overV a b).1, .int .i64 (overV a b).2], .bool (overB a b), .bool (overK a b)]) ∧ Below w.heap.size w w' := by
  have HA := Lib.hid (fun W => l4Span_any a W)
  have HC := Lib.hid (fun W => l4Span_any b W)
  have HX := Lib.hid (boxes3 w a b (0, 0) 26)
  have HB0 : Hid (Below w.heap.size w (((w.alloc (.cells #[.int .i64 a.1, .int .i64 a.2] 26)).alloc (.cells #[.int .i64 b.1, .int .i64 b.2] 26)).alloc (.cells #[.int .i64 0, .int .i64 0] 26))) := below3
  by_cases h1 : SpanOk a
  · rw [spanB_yes h1] at HA
    by_cases h2 : SpanOk b
    · rw [spanB_yes h2] at HC
      rw [show overV a b = common a b from if_pos ⟨h1, h2⟩, show overK a b = true from decide_eq_true ⟨h1, h2⟩, show overB a b = decide (common a b ≠ (0, 0)) by unfold overB; simp [h1, h2]]
      have HM := Lib.hid (fun W => l1Most_any a.1 b.1 W)
      have HL := Lib.hid (fun W => l1Least_any a.2 b.2 W)
      have ha0 : 0 ≤ a.1 := h1.1.1
      have HCm : Hid ((min a.2 b.2 ≤ max a.1 b.1 ∧ common a b = (0, 0)) ∨ (max a.1 b.1 < min a.2 b.2 ∧ common a b = (max a.1 b.1, min a.2 b.2) ∧ common a b ≠ (0, 0))) := by
        by_cases h : min a.2 b.2 ≤ max a.1 b.1
        · exact .inl ⟨h, if_pos h⟩
        · exact .inr ⟨by omega, if_neg h, common_zero ha0 h⟩
      obtain ⟨a1, a2⟩ := a
      obtain ⟨b1, b2⟩ := b
      simp only at *
      generalize max a1 b1 = p at *
      generalize min a2 b2 = q at *
      generalize common (a1, a2) (b1, b2) = c at *
      clear h1 h2
      go_enter Try.func31, Try.ntmps31
      go_wp2_with fail
      go_at_call 49
      refine (HA.out _).mono ?_
      rintro e w1 ⟨rfl, hb⟩
      have HX1 : Hid (SpanBox w1 w.heap.size (a1, a2) ∧ SpanBox w1 (w.heap.size + 1) (b1, b2) ∧ SpanBox w1 (w.heap.size + 1 + 1) (0, 0)) := ⟨HX.out.1.keep hb, HX.out.2.1.keep hb, HX.out.2.2.keep hb⟩
      have HB1 : Hid (Below w.heap.size w w1) := HB0.out.trans (hb.mono (by simp <;> omega))
      clear hb HX HB0
      obtain ⟨⟨p0, p1, pf⟩, ⟨q0, q1, qf⟩, ⟨r0, r1, rf⟩⟩ := HX1.out
      simp only at p0 p1 q0 q1 r0 r1
      go_wp2_with fail
      go_at_call 49
      refine (HC.out _).mono ?_
      rintro e w2 ⟨rfl, hb⟩
      have HX2 : Hid (SpanBox w2 w.heap.size (a1, a2) ∧ SpanBox w2 (w.heap.size + 1) (b1, b2) ∧ SpanBox w2 (w.heap.size + 1 + 1) (0, 0)) := ⟨HX1.out.1.keep hb, HX1.out.2.1.keep hb, HX1.out.2.2.keep hb⟩
      have HB2 : Hid (Below w.heap.size w w2) := HB1.out.trans (hb.mono HB1.out.size)
      clear p0 p1 pf q0 q1 qf r0 r1 rf hb HX1 HB1
      have hlt3 := HX2.out.2.2.lt
      obtain ⟨⟨p0, p1, pf⟩, ⟨q0, q1, qf⟩, ⟨r0, r1, rf⟩⟩ := HX2.out
      simp only at p0 p1 q0 q1 r0 r1
      go_wp2_with fail
      go_region_held3 (fun w' => w'.cell? ⟨w.heap.size, 0, none⟩ = some (.int .i64 a1) ∧ w'.cell? ⟨w.heap.size, 1, none⟩ = some (.int .i64 a2) ∧ w'.cell? ⟨w.heap.size + 1, 0, none⟩ = some (.int .i64 b1) ∧ w'.cell? ⟨w.heap.size + 1, 1, none⟩ = some (.int .i64 b2) ∧ Below w2.heap.size w2 w')
        (first | (exact ⟨p0, p1, q0, q1, (Below.refl _ _).drew⟩) | (exact keepS p0 p1 q0 q1))
        (first | (go_at_call 58; refine (HM.out _).mono ?_; rintro e w' ⟨rfl, rfl⟩) | (go_at_call 59; refine (HL.out _).mono ?_; rintro e w' ⟨rfl, rfl⟩))
      all_goals have hne3 : w.heap.size + 1 + 1 ≠ w2.heap.size := by omega
      all_goals clear p0 p1 pf q0 q1 qf
      all_goals rcases HCm.out with ⟨hle, hc⟩ | ⟨hlt, hc, hcz⟩
      all_goals subst hc
      all_goals go_wp2_with fail
      all_goals first
        | (have hcq := hcz; refine bodyPost_ret (v := .tuple #[.agg #[.int .i64 p, .int .i64 q], .bool true, .bool true]) ?_ rfl ⟨?_, ?_⟩)
        | refine bodyPost_ret (v := .tuple #[.agg #[.int .i64 0, .int .i64 0], .bool false, .bool true]) ?_ rfl ⟨?_, ?_⟩
      all_goals first
        | exact below_end2 HB2.out (by omega)
        | (simp only [results, Try.results31]; go_simp; done)
        | (simp; done)
        | (rw [decide_eq_true hcz]; done)
        | trace_state
    · rw [spanB_no h2] at HC
      rw [show overV a b = (0, 0) from if_neg fun h => h2 h.2, show overK a b = false from decide_eq_false fun h => h2 h.2, show overB a b = false from decide_eq_false fun h => h2 h.2.1]
      obtain ⟨a1, a2⟩ := a
      obtain ⟨b1, b2⟩ := b
      clear h1 h2
      go_enter Try.func31, Try.ntmps31
      go_wp2_with fail
      go_at_call 49
      refine (HA.out _).mono ?_
      rintro e w1 ⟨rfl, hb⟩
      have HX1 : Hid (SpanBox w1 w.heap.size (a1, a2) ∧ SpanBox w1 (w.heap.size + 1) (b1, b2) ∧ SpanBox w1 (w.heap.size + 1 + 1) (0, 0)) := ⟨HX.out.1.keep hb, HX.out.2.1.keep hb, HX.out.2.2.keep hb⟩
      have HB1 : Hid (Below w.heap.size w w1) := HB0.out.trans (hb.mono (by simp <;> omega))
      clear hb HX HB0
      obtain ⟨⟨p0, p1, pf⟩, ⟨q0, q1, qf⟩, ⟨r0, r1, rf⟩⟩ := HX1.out
      simp only at p0 p1 q0 q1 r0 r1
      go_wp2_with fail
      go_at_call 49
      refine (HC.out _).mono ?_
      rintro e w2 ⟨rfl, hb⟩
      have HX2 : Hid (SpanBox w2 (w.heap.size + 1 + 1) (0, 0)) := HX1.out.2.2.keep hb
      have HB2 : Hid (Below w.heap.size w w2) := HB1.out.trans (hb.mono HB1.out.size)
      clear p0 p1 pf q0 q1 qf r0 r1 rf hb HX1 HB1
      obtain ⟨r0, r1, rf⟩ := HX2.out
      simp only at r0 r1
      go_wp2_with fail
      exact bodyPost_ret (v := .tuple #[.agg #[.int .i64 0, .int .i64 0], .bool false, .bool false]) (by simp only [results, Try.results31]; go_simp) rfl ⟨rfl, (HB2.out.setCell (p := ⟨_, 0, none⟩) (show w.heap.size ≤ w.heap.size + 1 + 1 by omega) _).setCell (p := ⟨_, 1, none⟩) (show w.heap.size ≤ w.heap.size + 1 + 1 by omega) _⟩
  · rw [spanB_no h1] at HA
    rw [show overV a b = (0, 0) from if_neg fun h => h1 h.1, show overK a b = false from decide_eq_false fun h => h1 h.1, show overB a b = false from decide_eq_false fun h => h1 h.1]
    obtain ⟨a1, a2⟩ := a
    obtain ⟨b1, b2⟩ := b
    clear h1 HC
    go_enter Try.func31, Try.ntmps31
    go_wp2_with fail
    go_at_call 49
    refine (HA.out _).mono ?_
    rintro e w1 ⟨rfl, hb⟩
    have HX1 : Hid (SpanBox w1 (w.heap.size + 1 + 1) (0, 0)) := HX.out.2.2.keep hb
    have HB1 : Hid (Below w.heap.size w w1) := HB0.out.trans (hb.mono (by simp <;> omega))
    clear hb HX HB0
    obtain ⟨r0, r1, rf⟩ := HX1.out
    simp only at r0 r1
    go_wp2_with fail
    exact bodyPost_ret (v := .tuple #[.agg #[.int .i64 0, .int .i64 0], .bool false, .bool false]) (by simp only [results, Try.results31]; go_simp) rfl ⟨rfl, (HB1.out.setCell (p := ⟨_, 0, none⟩) (show w.heap.size ≤ w.heap.size + 1 + 1 by omega) _).setCell (p := ⟨_, 1, none⟩) (show w.heap.size ≤ w.heap.size + 1 + 1 by omega) _⟩
end Go.Proofs.Ytenbplehiaofmaa
