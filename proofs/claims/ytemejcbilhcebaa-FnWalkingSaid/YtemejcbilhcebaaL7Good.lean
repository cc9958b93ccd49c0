import Derived.Test.YtemejcbilhcebaaWalkGood
namespace Go.Proofs.Ytemejcbilhcebaa
open Go.RowKit
set_option linter.unusedVariables false

set_option maxRecDepth 100000 in
set_option maxHeartbeats 8000000 in
theorem l7Good_any0 (nv lv : Value) (n : NetD) (ws : List WlkD) (w : World) (hr : NetAt w nv n) (hw : WalksAt w lv ws) (hf : NetFits n) :
    Calls Try.prog 88 #[nv, lv] w fun e w' => e = .returned (.bool (walksB n ws)) ∧ Below w.heap.size w w' := by
  have HN := Lib.hid (fun W (hW : Below w.heap.size w W) => l2Good_any nv n W (hr.below rfl hW) hf)
  obtain ⟨a, c, a', c', rfl, -, -⟩ := net_open hr
  have HT := Lib.hid hw
  obtain ⟨b, d, rfl⟩ := WalkS_open hw
  clear hr hw hf
  by_cases hg : NetGood n
  · rw [netB_yes hg] at HN
    have hst : n.stops.length ≤ 8 := hg.1.2.1
    have hlw : IntKind.i64.wrap ((n.stops.length : Int) - 1) = (n.stops.length : Int) - 1 := IntWalk.i64_in _ (by omega)
    have HG := Lib.hid hg
    clear hg
    by_cases hlen : ws.length ≤ 12
    · go_enter Try.func88, Try.ntmps88
      go_wp2_with fail
      go_at_call 48
      refine (HN.out _ ((Below.refl _ _).alloc (Nat.le_refl _) _)).mono ?_
      rintro e w1 ⟨rfl, hb1⟩
      have HB1 : Hid (Below w.heap.size w w1 ∧ w.heap.size < w1.heap.size) := ⟨((Below.refl _ _).alloc (Nat.le_refl _) _).trans (hb1.mono (by simp)), by have := hb1.size; simp at this; omega⟩
      have p0 : w1.cell? ⟨w.heap.size, 0, none⟩ = some (.slice a n.stops.length c) := bkeep hb1 (by go_simp)
      clear hb1 HN
      go_wp2_with fail
      go_loopw [5] (fun i wr => ∃ k : Nat, k ≤ ws.length ∧ i = .int .i64 k ∧ Hid (WksTo n.stops.length ws k) ∧ wr.cell? ⟨w.heap.size, 0, none⟩ = some (.slice a n.stops.length c) ∧ Hid (Below w.heap.size w wr ∧ w.heap.size < wr.heap.size))
        (fun i _ => ws.length - (RowKit.intOf i).toNat)
      case atStart => exact ⟨0, Nat.zero_le _, rfl, (fun j hj h => by omega), p0, HB1⟩
      case round =>
        clear p0 HB1
        obtain ⟨k, hk, rfl, HTo, p0, HB⟩ := hrel
        by_cases hlt : k < ws.length
        · obtain ⟨g, go, rfl, hgb, y0, y1, y2⟩ := walk_at (HT.out.below rfl HB.out.1) k hlt
          have hk1 : (k : Int) < (ws.length : Int) := by omega
          have HPrev : Hid (∀ j (hj : j < ws.length), wr.cell? ⟨g, go + j * 3, none⟩ = some (.int .i64 (ws[j]'hj).a) ∧ wr.cell? ⟨g, go + j * 3 + 1, none⟩ = some (.int .i64 (ws[j]'hj).b) ∧ wr.cell? ⟨g, go + j * 3 + 2, none⟩ = some (.int .i64 (ws[j]'hj).m)) := fun j hj => by
            obtain ⟨g', go', he, _, z0, z1, z2⟩ := walk_at (HT.out.below rfl HB.out.1) j hj
            simp at he
            obtain ⟨rfl, rfl⟩ := he
            exact ⟨z0, z1, z2⟩
          have HStep : Hid (EachOk n.stops.length ws[k] → (∀ j (hj : j + 1 = k) (hjl : j < ws.length), (ws[j]'hjl).a < ws[k].a ∨ ((ws[j]'hjl).a = ws[k].a ∧ (ws[j]'hjl).b < ws[k].b)) → WksTo n.stops.length ws (k + 1)) := fun h1 h2 => wksTo_succ hlt HTo.out ⟨h1, fun j hj => h2 j hj (by omega)⟩
          have HNoE : Hid (¬ EachOk n.stops.length ws[k] → ¬ (NetGood n ∧ WksOk n.stops.length ws)) := fun h hg => h (hg.2.step k hlt).1
          have HNoC : Hid (∀ j (hj : j < ws.length), j + 1 = k → ¬ ((ws[j]'hj).a < ws[k].a ∨ ((ws[j]'hj).a = ws[k].a ∧ (ws[j]'hj).b < ws[k].b)) → ¬ (NetGood n ∧ WksOk n.stops.length ws)) := fun j hj e h hg => h ((hg.2.step k hlt).2 j e)
          clear HTo
          generalize ws[k] = x at *
          obtain ⟨xa, xb, xm⟩ := x
          simp only at *
          have hz0 := HB.out.2
          by_cases hv1 : 1 ≤ xb ∧ xb ≤ (n.stops.length : Int) - 1
          · have H1 : Hid (∀ W : World, Calls Try.prog 49 #[.int .i64 xb, .int .i64 1, .int .i64 ((n.stops.length : Int) - 1)] W fun e w' => e = .returned (.bool true) ∧ W = w') := fun W => l1In_yes _ _ _ W (by omega)
            have hxw : IntKind.i64.wrap (xb - 1) = xb - 1 := IntWalk.i64_in _ (by omega)
            by_cases hv2 : 0 ≤ xa ∧ xa ≤ xb - 1
            · have H2 : Hid (∀ W : World, Calls Try.prog 49 #[.int .i64 xa, .int .i64 0, .int .i64 (xb - 1)] W fun e w' => e = .returned (.bool true) ∧ W = w') := fun W => l1In_yes _ _ _ W (by omega)
              by_cases hv3 : 1 ≤ xm ∧ xm ≤ 120
              · have H3 : Hid (∀ W : World, Calls Try.prog 49 #[.int .i64 xm, .int .i64 1, .int .i64 120] W fun e w' => e = .returned (.bool true) ∧ W = w') := fun W => l1In_yes _ _ _ W (by omega)
                have HOk : Hid (EachOk n.stops.length ⟨xa, xb, xm⟩) := by show EachOk _ _; unfold EachOk; simp only; omega
                cases k with
                | zero =>
                  have HNx := Lib.hid (HStep.out HOk.out (fun j hj _ => by omega))
                  have hgt : decide ((0 : Int) < ((0 : Nat) : Int)) = false := by simp
                  simp only [Nat.zero_mul, Nat.add_zero] at y0 y1 y2
                  clear HStep HPrev HNoC HNoE hv1 hv2 hv3
                  go_wp2_with fail
                  go_at_call 49
                  refine (H1.out _).mono ?_
                  rintro e w' ⟨rfl, rfl⟩
                  go_wp2_with fail
                  go_at_call 49
                  refine (H2.out _).mono ?_
                  rintro e w' ⟨rfl, rfl⟩
                  go_wp2_with fail
                  go_at_call 49
                  refine (H3.out _).mono ?_
                  rintro e w' ⟨rfl, rfl⟩
                  go_wp2_with fail
                  go_quiet (fail)
                  go_wp2_with fail
                  go_roundw
                  case rel => exact ⟨1, by omega, by go_num, HNx, acell p0 _, ⟨below_drewN (HB.out.1.alloc (by have := HB.out.2; omega) _) _, by have := HB.out.2; simp; omega⟩⟩
                  case measure => simp [RowKit.intOf]; omega
                | succ j =>
                  have hjl : j < ws.length := by omega
                  have z := HPrev.out j hjl
                  have HStep2 : Hid (((ws[j]'hjl).a < xa ∨ ((ws[j]'hjl).a = xa ∧ (ws[j]'hjl).b < xb)) → WksTo n.stops.length ws (j + 1 + 1)) := fun h => HStep.out HOk.out (fun i hi hil => by
                    obtain rfl : i = j := by omega
                    exact h)
                  have HNo2 : Hid (¬ ((ws[j]'hjl).a < xa ∨ ((ws[j]'hjl).a = xa ∧ (ws[j]'hjl).b < xb)) → ¬ (NetGood n ∧ WksOk n.stops.length ws)) := fun h => HNoC.out j hjl rfl h
                  clear HStep HPrev HNoC HNoE hv1 hv2 hv3
                  generalize ws[j] = y at *
                  obtain ⟨ya, yb, ym⟩ := y
                  simp only at *
                  obtain ⟨z0, z1, z2⟩ := z
                  have hgt : decide ((0 : Int) < ((j + 1 : Nat) : Int)) = true := decide_eq_true (by omega)
                  have hgt2 : decide ((0 : Int) < ((j : Nat) : Int) + 1) = true := decide_eq_true (by omega)
                  have hw1 : IntKind.i64.wrap (((j : Nat) : Int) + 1 - 1) = (j : Int) := by rw [show ((j : Nat) : Int) + 1 - 1 = j by omega]; exact IntWalk.i64_in _ (by omega)
                  have hw2 : IntKind.i64.wrap (((j + 1 : Nat) : Int) - 1) = (j : Int) := by rw [show ((j + 1 : Nat) : Int) - 1 = j by omega]; exact IntWalk.i64_in _ (by omega)
                  have hw3 : IntKind.i64.wrap (j : Int) = (j : Int) := IntWalk.i64_in _ (by omega)
                  have hjj : (j : Int) < (ws.length : Int) := by omega
                  have hj0 : (0 : Int) ≤ (j : Int) := by omega
                  have z0' := acell z0 (.cells #[.int .i64 xa, .int .i64 xb, .int .i64 xm] 67)
                  have z1' := acell z1 (.cells #[.int .i64 xa, .int .i64 xb, .int .i64 xm] 67)
                  by_cases g1 : xa < ya
                  · have gd1 : decide (xa < ya) = true := decide_eq_true g1
                    have HNO := Lib.hid (HNo2.out (by omega))
                    clear HStep2 HNo2
                    go_wp2_with fail
                    go_at_call 49
                    refine (H1.out _).mono ?_
                    rintro e w' ⟨rfl, rfl⟩
                    go_wp2_with fail
                    go_at_call 49
                    refine (H2.out _).mono ?_
                    rintro e w' ⟨rfl, rfl⟩
                    go_wp2_with fail
                    go_at_call 49
                    refine (H3.out _).mono ?_
                    rintro e w' ⟨rfl, rfl⟩
                    go_wp2_with fail
                    go_quiet (fail)
                    go_wp2_with fail
                    go_ret
                    exact ⟨ret_bool (walksB_no HNO.out).symm, below_drewN (HB.out.1.alloc (by have := HB.out.2; omega) _) _⟩
                  · have gd1 : decide (xa < ya) = false := decide_eq_false g1
                    by_cases g2 : ya = xa
                    · have gd2 : (ya == xa) = true := by simpa using g2
                      by_cases g3 : xb ≤ yb
                      · have gd3 : decide (xb ≤ yb) = true := decide_eq_true g3
                        have HNO := Lib.hid (HNo2.out (by omega))
                        clear HStep2 HNo2
                        go_wp2_with fail
                        go_at_call 49
                        refine (H1.out _).mono ?_
                        rintro e w' ⟨rfl, rfl⟩
                        go_wp2_with fail
                        go_at_call 49
                        refine (H2.out _).mono ?_
                        rintro e w' ⟨rfl, rfl⟩
                        go_wp2_with fail
                        go_at_call 49
                        refine (H3.out _).mono ?_
                        rintro e w' ⟨rfl, rfl⟩
                        go_wp2_with fail
                        go_quiet (fail)
                        go_wp2_with fail
                        go_ret
                        exact ⟨ret_bool (walksB_no HNO.out).symm, below_drewN (HB.out.1.alloc (by have := HB.out.2; omega) _) _⟩
                      · have gd3 : decide (xb ≤ yb) = false := decide_eq_false g3
                        have HNx := Lib.hid (HStep2.out (by omega))
                        clear HStep2 HNo2
                        go_wp2_with fail
                        go_at_call 49
                        refine (H1.out _).mono ?_
                        rintro e w' ⟨rfl, rfl⟩
                        go_wp2_with fail
                        go_at_call 49
                        refine (H2.out _).mono ?_
                        rintro e w' ⟨rfl, rfl⟩
                        go_wp2_with fail
                        go_at_call 49
                        refine (H3.out _).mono ?_
                        rintro e w' ⟨rfl, rfl⟩
                        go_wp2_with fail
                        go_quiet (fail)
                        go_wp2_with fail
                        go_roundw
                        case rel => exact ⟨j + 1 + 1, by omega, by go_num, HNx, acell p0 _, ⟨below_drewN (HB.out.1.alloc (by have := HB.out.2; omega) _) _, by have := HB.out.2; simp; omega⟩⟩
                        case measure => simp [RowKit.intOf]; omega
                    · have gd2 : (ya == xa) = false := by simpa using g2
                      have HNx := Lib.hid (HStep2.out (by omega))
                      clear HStep2 HNo2
                      go_wp2_with fail
                      go_at_call 49
                      refine (H1.out _).mono ?_
                      rintro e w' ⟨rfl, rfl⟩
                      go_wp2_with fail
                      go_at_call 49
                      refine (H2.out _).mono ?_
                      rintro e w' ⟨rfl, rfl⟩
                      go_wp2_with fail
                      go_at_call 49
                      refine (H3.out _).mono ?_
                      rintro e w' ⟨rfl, rfl⟩
                      go_wp2_with fail
                      go_quiet (fail)
                      go_wp2_with fail
                      go_roundw
                      case rel => exact ⟨j + 1 + 1, by omega, by go_num, HNx, acell p0 _, ⟨below_drewN (HB.out.1.alloc (by have := HB.out.2; omega) _) _, by have := HB.out.2; simp; omega⟩⟩
                      case measure => simp [RowKit.intOf]; omega
              · have H3 : Hid (∀ W : World, Calls Try.prog 49 #[.int .i64 xm, .int .i64 1, .int .i64 120] W fun e w' => e = .returned (.bool false) ∧ W = w') := fun W => l1In_no _ _ _ W (by omega)
                have HNO := Lib.hid (HNoE.out (by unfold EachOk; simp only; omega))
                clear HNoE HStep HPrev HNoC
                go_wp2_with fail
                go_at_call 49
                refine (H1.out _).mono ?_
                rintro e w' ⟨rfl, rfl⟩
                go_wp2_with fail
                go_at_call 49
                refine (H2.out _).mono ?_
                rintro e w' ⟨rfl, rfl⟩
                go_wp2_with fail
                go_at_call 49
                refine (H3.out _).mono ?_
                rintro e w' ⟨rfl, rfl⟩
                go_wp2_with fail
                go_ret
                exact ⟨ret_bool (walksB_no HNO.out).symm, HB.out.1.alloc (by have := HB.out.2; omega) _⟩
            · have H2 : Hid (∀ W : World, Calls Try.prog 49 #[.int .i64 xa, .int .i64 0, .int .i64 (xb - 1)] W fun e w' => e = .returned (.bool false) ∧ W = w') := fun W => l1In_no _ _ _ W (by omega)
              have H3 := H2
              have HNO := Lib.hid (HNoE.out (by unfold EachOk; simp only; omega))
              clear HNoE HStep HPrev HNoC
              go_wp2_with fail
              go_at_call 49
              refine (H1.out _).mono ?_
              rintro e w' ⟨rfl, rfl⟩
              go_wp2_with fail
              go_at_call 49
              refine (H2.out _).mono ?_
              rintro e w' ⟨rfl, rfl⟩
              go_wp2_with fail
              go_ret
              exact ⟨ret_bool (walksB_no HNO.out).symm, HB.out.1.alloc (by have := HB.out.2; omega) _⟩
          · have H1 : Hid (∀ W : World, Calls Try.prog 49 #[.int .i64 xb, .int .i64 1, .int .i64 ((n.stops.length : Int) - 1)] W fun e w' => e = .returned (.bool false) ∧ W = w') := fun W => l1In_no _ _ _ W (by omega)
            have H2 := H1
            have H3 := H1
            have HNO := Lib.hid (HNoE.out (by unfold EachOk; simp only; omega))
            clear HNoE HStep HPrev HNoC
            go_wp2_with fail
            go_at_call 49
            refine (H1.out _).mono ?_
            rintro e w' ⟨rfl, rfl⟩
            go_wp2_with fail
            go_ret
            exact ⟨ret_bool (walksB_no HNO.out).symm, HB.out.1.alloc (by have := HB.out.2; omega) _⟩
        · have HYES : Hid (NetGood n ∧ WksOk n.stops.length ws) := ⟨HG.out, wksOk_of hlen (by have := HTo.out; rw [show k = ws.length by omega] at this; exact this)⟩
          go_wp2_with fail
          go_ret
          exact ⟨ret_bool (walksB_yes HYES.out.1 HYES.out.2).symm, HB.out.1⟩
    · rw [walksB_no (fun h => hlen h.2.len)]
      have hd : decide ((12 : Int) < (ws.length : Int)) = true := decide_eq_true (by omega)
      go_enter Try.func88, Try.ntmps88
      go_wp2_with fail
      go_at_call 48
      refine (HN.out _ ((Below.refl _ _).alloc (Nat.le_refl _) _)).mono ?_
      rintro e w1 ⟨rfl, hb1⟩
      have HB1 : Hid (Below w.heap.size w w1) := ((Below.refl _ _).alloc (Nat.le_refl _) _).trans (hb1.mono (by simp))
      clear hb1
      go_wp2_with fail
      go_ret
      exact ⟨rfl, HB1.out⟩
  · rw [netB_no hg] at HN
    rw [walksB_no (fun h => hg h.1)]
    go_enter Try.func88, Try.ntmps88
    go_wp2_with fail
    go_at_call 48
    refine (HN.out _ ((Below.refl _ _).alloc (Nat.le_refl _) _)).mono ?_
    rintro e w1 ⟨rfl, hb1⟩
    have HB1 : Hid (Below w.heap.size w w1) := ((Below.refl _ _).alloc (Nat.le_refl _) _).trans (hb1.mono (by simp))
    clear hb1
    go_wp2_with fail
    go_ret
    exact ⟨rfl, HB1.out⟩

theorem l7Good_any (nv lv : Value) (n : NetD) (ws : List WlkD) (w : World) (hr : NetAt w nv n) (hw : WalksAt w lv ws) (hf : NetFits n) (hwf : WalksFit ws) :
    Calls Try.prog 88 #[nv, lv] w fun e w' => e = .returned (.bool (walksB n ws)) ∧ Below w.heap.size w w' := l7Good_any0 nv lv n ws w hr hw hf
end Go.Proofs.Ytemejcbilhcebaa
