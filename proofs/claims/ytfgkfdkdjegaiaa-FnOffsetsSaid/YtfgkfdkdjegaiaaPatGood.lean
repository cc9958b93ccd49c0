import Derived.Test.YtfgkfdkdjegaiaaHeadP
import Derived.Test.YtfgkfdkdjegaiaaMk24
import Derived.Test.YtfgkfdkdjegaiaaMk10
import Derived.Test.YtfgkfdkdjegaiaaMk05
namespace Go.Proofs.Ytfgkfdkdjegaiaa
open Go.RowKit
set_option linter.unusedVariables false
set_option linter.unusedSimpArgs false

def PatsTo (n : NetD) (p : Int) (xs : List PatternD) (k : Nat) : Prop := ∀ j (hj : j < xs.length), j < k → PatEach n p xs[j]
theorem patsTo_succ {n : NetD} {p : Int} {xs : List PatternD} {k : Nat} (hk : k < xs.length) (h : PatsTo n p xs k) (h1 : PatEach n p xs[k]) : PatsTo n p xs (k + 1) := by
  intro j hj hjk
  by_cases e : j = k
  · subst e; exact h1
  · exact h j hj (by omega)

set_option maxRecDepth 100000 in
set_option maxHeartbeats 8000000 in
theorem l10Good_any (nv lv : Value) (n : NetD) (p : Int) (xs : List PatternD) (w : World) (hr : NetAt w nv n) (hw : PatternsAt w lv xs) (hf : NetFits n) :
    Calls Try.prog 83 #[nv, .int .i64 p, lv] w fun e w' => e = .returned (.bool (patsB n p xs)) ∧ Below w.heap.size w w' := by
  have HN := Lib.hid (fun W (hW : Below w.heap.size w W) => l2Good_any nv n W (hr.below rfl hW) hf)
  obtain ⟨a, c, a', c', rfl, -, -⟩ := net_open hr
  have HT := Lib.hid hw
  obtain ⟨b, d, rfl⟩ := PatternS_open hw
  obtain ⟨_, _, he, hlc, hlm, -⟩ := pats_open hw
  simp at he
  obtain ⟨rfl, rfl⟩ := he
  clear hr hw hf
  by_cases hg : NetGood n
  · rw [netB_yes hg] at HN
    have hst : n.lines.length ≤ 12 := by have := hg.1.2.2.2; omega
    have hlw : IntKind.i64.wrap ((n.lines.length : Int) - 1) = (n.lines.length : Int) - 1 := IntWalk.i64_in _ (by omega)
    have HG := Lib.hid hg
    clear hg
    by_cases hp : 1 ≤ p ∧ p ≤ 60
    · have HP : Hid (∀ W : World, Calls Try.prog 66 #[.int .i64 p, .int .i64 1, .int .i64 60] W fun e w' => e = .returned (.bool true) ∧ W = w') := fun W => l1In_yes _ _ _ W (by omega)
      have hpw : IntKind.i64.wrap (p - 1) = p - 1 := IntWalk.i64_in _ (by omega)
      by_cases hlen : 1 ≤ xs.length ∧ xs.length ≤ 3
      · have HL : Hid (∀ W : World, Calls Try.prog 66 #[.int .i64 (xs.length : Int), .int .i64 1, .int .i64 3] W fun e w' => e = .returned (.bool true) ∧ W = w') := fun W => l1In_yes _ _ _ W (by omega)
        go_enter Try.func83, Try.ntmps83
        go_wp2_with fail
        go_at_call 101
        refine (HN.out _ ((Below.refl _ _).alloc (Nat.le_refl _) _)).mono ?_
        rintro e w1 ⟨rfl, hb1⟩
        have HB1 : Hid (Below w.heap.size w w1 ∧ w.heap.size < w1.heap.size) := ⟨((Below.refl _ _).alloc (Nat.le_refl _) _).trans (hb1.mono (by simp)), by have := hb1.size; simp at this; omega⟩
        have p1 : w1.cell? ⟨w.heap.size, 1, none⟩ = some (.slice a' n.lines.length c') := bkeep hb1 (by go_simp)
        clear hb1 HN
        go_wp2_with fail
        go_at_call 66
        refine (HP.out _).mono ?_
        rintro e w' ⟨rfl, rfl⟩
        go_wp2_with fail
        go_at_call 66
        refine (HL.out _).mono ?_
        rintro e w' ⟨rfl, rfl⟩
        clear HP HL
        go_wp2_with fail
        go_loopw [7] (fun i wr => ∃ k : Nat, k ≤ xs.length ∧ i = .int .i64 k ∧ Hid (PatsTo n p xs k) ∧ wr.cell? ⟨w.heap.size, 1, none⟩ = some (.slice a' n.lines.length c') ∧ Hid (Below w.heap.size w wr ∧ w.heap.size < wr.heap.size))
          (fun i _ => xs.length - (RowKit.intOf i).toNat)
        case atStart => exact ⟨0, Nat.zero_le _, rfl, (fun j hj h => by omega), p1, HB1⟩
        case round =>
          clear p1 HB1
          obtain ⟨k, hk, rfl, HTo, p1, HB⟩ := hrel
          by_cases hlt : k < xs.length
          · obtain ⟨g, go, rfl, hgb, y0, y1⟩ := pat_at (HT.out.below rfl HB.out.1) k hlt
            have hk1 : (k : Int) < (xs.length : Int) := by omega
            have HStep : Hid (PatEach n p xs[k] → PatsTo n p xs (k + 1)) := fun h1 => patsTo_succ hlt HTo.out h1
            have HNoE : Hid (¬ PatEach n p xs[k] → ¬ PatsGood n p xs) := fun h hg => h (hg.2.2.2 k hlt)
            clear HTo
            generalize xs[k] = x at *
            obtain ⟨xa, xb⟩ := x
            simp only at *
            have hz0 := HB.out.2
            by_cases hv1 : 0 ≤ xa ∧ xa ≤ (n.lines.length : Int) - 1
            · have H1 : Hid (∀ W : World, Calls Try.prog 66 #[.int .i64 xa, .int .i64 0, .int .i64 ((n.lines.length : Int) - 1)] W fun e w' => e = .returned (.bool true) ∧ W = w') := fun W => l1In_yes _ _ _ W (by omega)
              by_cases hv2 : 0 ≤ xb ∧ xb ≤ p - 1
              · have H2 : Hid (∀ W : World, Calls Try.prog 66 #[.int .i64 xb, .int .i64 0, .int .i64 (p - 1)] W fun e w' => e = .returned (.bool true) ∧ W = w') := fun W => l1In_yes _ _ _ W (by omega)
                have HNx := Lib.hid (HStep.out (by unfold PatEach; simp only; omega))
                clear HStep HNoE hv1 hv2
                go_wp2_with fail
                go_quiet (first | (go_at_call_of 66 xa; exact quietL (H1.out _)) | (go_at_call_of 66 xb; exact quietL (H2.out _)))
                go_wp2_with fail
                go_roundw
                case rel => exact ⟨k + 1, by omega, by go_num, HNx, p1, ⟨below_drewN HB.out.1 _, HB.out.2⟩⟩
                case measure => simp [RowKit.intOf]; omega
              · have H2 : Hid (∀ W : World, Calls Try.prog 66 #[.int .i64 xb, .int .i64 0, .int .i64 (p - 1)] W fun e w' => e = .returned (.bool false) ∧ W = w') := fun W => l1In_no _ _ _ W hv2
                have HNO := Lib.hid (HNoE.out (by unfold PatEach; simp only; omega))
                clear HStep HNoE hv1 hv2
                go_wp2_with fail
                go_quiet (first | (go_at_call_of 66 xa; exact quietL (H1.out _)) | (go_at_call_of 66 xb; exact quietL (H2.out _)))
                go_wp2_with fail
                go_ret
                exact ⟨ret_bool (patsB_no HNO.out).symm, below_drewN HB.out.1 _⟩
            · have H1 : Hid (∀ W : World, Calls Try.prog 66 #[.int .i64 xa, .int .i64 0, .int .i64 ((n.lines.length : Int) - 1)] W fun e w' => e = .returned (.bool false) ∧ W = w') := fun W => l1In_no _ _ _ W hv1
              have HNO := Lib.hid (HNoE.out (by unfold PatEach; simp only; omega))
              clear HStep HNoE hv1
              go_wp2_with fail
              go_quiet (first | (go_at_call_of 66 xa; exact quietL (H1.out _)))
              go_wp2_with fail
              go_ret
              exact ⟨ret_bool (patsB_no HNO.out).symm, below_drewN HB.out.1 _⟩
          · have HYES : Hid (PatsGood n p xs) := ⟨HG.out, hp, hlen, fun j hj => HTo.out j hj (by omega)⟩
            go_wp2_with fail
            go_ret
            exact ⟨ret_bool (patsB_yes HYES.out).symm, HB.out.1⟩
      · have HL : Hid (∀ W : World, Calls Try.prog 66 #[.int .i64 (xs.length : Int), .int .i64 1, .int .i64 3] W fun e w' => e = .returned (.bool false) ∧ W = w') := fun W => l1In_no _ _ _ W (by omega)
        rw [patsB_no (fun h => hlen h.2.2.1)]
        clear hlen
        go_enter Try.func83, Try.ntmps83
        go_wp2_with fail
        go_at_call 101
        refine (HN.out _ ((Below.refl _ _).alloc (Nat.le_refl _) _)).mono ?_
        rintro e w1 ⟨rfl, hb1⟩
        have HB1 : Hid (Below w.heap.size w w1) := ((Below.refl _ _).alloc (Nat.le_refl _) _).trans (hb1.mono (by simp))
        clear hb1 HN
        go_wp2_with fail
        go_at_call 66
        refine (HP.out _).mono ?_
        rintro e w' ⟨rfl, rfl⟩
        go_wp2_with fail
        go_at_call 66
        refine (HL.out _).mono ?_
        rintro e w' ⟨rfl, rfl⟩
        go_wp2_with fail
        go_ret
        exact ⟨rfl, HB1.out⟩
    · have HP : Hid (∀ W : World, Calls Try.prog 66 #[.int .i64 p, .int .i64 1, .int .i64 60] W fun e w' => e = .returned (.bool false) ∧ W = w') := fun W => l1In_no _ _ _ W hp
      rw [patsB_no (fun h => hp h.2.1)]
      clear hp
      go_enter Try.func83, Try.ntmps83
      go_wp2_with fail
      go_at_call 101
      refine (HN.out _ ((Below.refl _ _).alloc (Nat.le_refl _) _)).mono ?_
      rintro e w1 ⟨rfl, hb1⟩
      have HB1 : Hid (Below w.heap.size w w1) := ((Below.refl _ _).alloc (Nat.le_refl _) _).trans (hb1.mono (by simp))
      clear hb1 HN
      go_wp2_with fail
      go_at_call 66
      refine (HP.out _).mono ?_
      rintro e w' ⟨rfl, rfl⟩
      go_wp2_with fail
      go_ret
      exact ⟨rfl, HB1.out⟩
  · rw [netB_no hg] at HN
    rw [patsB_no (fun h => hg h.1)]
    go_enter Try.func83, Try.ntmps83
    go_wp2_with fail
    go_at_call 101
    refine (HN.out _ ((Below.refl _ _).alloc (Nat.le_refl _) _)).mono ?_
    rintro e w1 ⟨rfl, hb1⟩
    have HB1 : Hid (Below w.heap.size w w1) := ((Below.refl _ _).alloc (Nat.le_refl _) _).trans (hb1.mono (by simp))
    clear hb1
    go_wp2_with fail
    go_ret
    exact ⟨rfl, HB1.out⟩

def perB (p : Int) : Bool := decide (1 ≤ p ∧ p ≤ 60)
set_option maxHeartbeats 4000000 in
theorem isPeriod_any (p : Int) (w : World) : Calls Try.prog 61 #[.int .i64 p] w fun e w' => e = .returned (.bool (perB p)) ∧ w = w' := by
  by_cases h1 : 1 ≤ p
  · by_cases h2 : p ≤ 60
    · rw [show perB p = true from decide_eq_true ⟨h1, h2⟩]
      have e1 : decide (p < 1) = false := decide_eq_false (by omega)
      have e2 : decide (60 < p) = false := decide_eq_false (by omega)
      go_enter Try.func61, Try.ntmps61
      go_wp2_with fail
      go_ret
      exact ⟨ret_bool (by simp [h1, h2]), rfl⟩
    · rw [show perB p = false from decide_eq_false (by omega)]
      have e1 : decide (p < 1) = false := decide_eq_false (by omega)
      go_enter Try.func61, Try.ntmps61
      go_wp2_with fail
      go_ret
      exact ⟨ret_bool (by simp [h2]), rfl⟩
  · rw [show perB p = false from decide_eq_false (by omega)]
    have e1 : decide (p < 1) = true := decide_eq_true (by omega)
    go_enter Try.func61, Try.ntmps61
    go_wp2_with fail
    go_ret
    exact ⟨rfl, rfl⟩

set_option maxRecDepth 100000 in
set_option maxHeartbeats 8000000 in
theorem implPats_any (nv lv : Value) (n : NetD) (p : Int) (xs : List PatternD) (w : World) (hr : NetAt w nv n) (hw : PatternsAt w lv xs) (hf : NetFits n) :
    Calls Try.prog 20 #[nv, .int .i64 p, lv] w fun e w' => e = .returned (.bool (patsB n p xs)) ∧ Below w.heap.size w w' := by
  have HN := Lib.hid (fun W (hW : Below w.heap.size w W) => implValid_any nv n W (hr.below rfl hW) hf)
  have HP := Lib.hid (fun W => isPeriod_any p W)
  obtain ⟨a, c, a', c', rfl, -, -⟩ := net_open hr
  have HT := Lib.hid hw
  obtain ⟨b, d, rfl⟩ := PatternS_open hw
  obtain ⟨_, _, he, hlc, hlm, -⟩ := pats_open hw
  simp at he
  obtain ⟨rfl, rfl⟩ := he
  clear hr hw hf
  by_cases hg : NetGood n
  · rw [netB_yes hg] at HN
    have hst : n.lines.length ≤ 12 := by have := hg.1.2.2.2; omega
    have HG := Lib.hid hg
    clear hg
    by_cases hp : 1 ≤ p ∧ p ≤ 60
    · rw [show perB p = true from decide_eq_true hp] at HP
      by_cases hlen : 1 ≤ xs.length ∧ xs.length ≤ 3
      · have hl1 : decide ((xs.length : Int) < 1) = false := decide_eq_false (by omega)
        have hl2 : decide ((3 : Int) < (xs.length : Int)) = false := decide_eq_false (by omega)
        go_enter Try.func20, Try.ntmps20
        go_wp2_with fail
        go_at_call 60
        refine (HN.out _ ((Below.refl _ _).alloc (Nat.le_refl _) _)).mono ?_
        rintro e w1 ⟨rfl, hb1⟩
        have HB1 : Hid (Below w.heap.size w w1 ∧ w.heap.size < w1.heap.size) := ⟨((Below.refl _ _).alloc (Nat.le_refl _) _).trans (hb1.mono (by simp)), by have := hb1.size; simp at this; omega⟩
        have p1 : w1.cell? ⟨w.heap.size, 1, none⟩ = some (.slice a' n.lines.length c') := bkeep hb1 (by go_simp)
        clear hb1 HN
        go_wp2_with fail
        go_at_call 61
        refine (HP.out _).mono ?_
        rintro e w' ⟨rfl, rfl⟩
        clear HP
        go_wp2_with fail
        go_loopw [29] (fun i wr => ∃ k : Nat, k ≤ xs.length ∧ i = .int .i64 k ∧ Hid (PatsTo n p xs k) ∧ wr.cell? ⟨w.heap.size, 1, none⟩ = some (.slice a' n.lines.length c') ∧ Hid (Below w.heap.size w wr ∧ w.heap.size < wr.heap.size))
          (fun i _ => xs.length - (RowKit.intOf i).toNat)
        case atStart => exact ⟨0, Nat.zero_le _, rfl, (fun j hj h => by omega), p1, HB1⟩
        case round =>
          clear p1 HB1
          obtain ⟨k, hk, rfl, HTo, p1, HB⟩ := hrel
          by_cases hlt : k < xs.length
          · obtain ⟨g, go, rfl, hgb, y0, y1⟩ := pat_at (HT.out.below rfl HB.out.1) k hlt
            have hk1 : (k : Int) < (xs.length : Int) := by omega
            have HStep : Hid (PatEach n p xs[k] → PatsTo n p xs (k + 1)) := fun h1 => patsTo_succ hlt HTo.out h1
            have HNoE : Hid (¬ PatEach n p xs[k] → ¬ PatsGood n p xs) := fun h hg => h (hg.2.2.2 k hlt)
            clear HTo
            generalize xs[k] = x at *
            obtain ⟨xa, xb⟩ := x
            simp only at *
            have hz0 := HB.out.2
            have HBx : Hid (∀ o, Below w.heap.size w (wr.alloc o) ∧ w.heap.size < (wr.alloc o).heap.size) := fun o => ⟨HB.out.1.alloc (by omega) _, by simp; omega⟩
            by_cases hv0 : xa < 0
            · have hd0 : decide (xa < 0) = true := decide_eq_true hv0
              have HNO := Lib.hid (HNoE.out (by unfold PatEach; simp only; omega))
              clear HNoE HStep
              go_wp2_with fail
              go_ret
              exact ⟨ret_bool (patsB_no HNO.out).symm, (HBx.out _).1⟩
            · have hd0 : decide (xa < 0) = false := decide_eq_false hv0
              by_cases hv1 : (n.lines.length : Int) ≤ xa
              · have hd1 : decide ((n.lines.length : Int) ≤ xa) = true := decide_eq_true hv1
                have HNO := Lib.hid (HNoE.out (by unfold PatEach; simp only; omega))
                clear HNoE HStep
                go_wp2_with fail
                go_ret
                exact ⟨ret_bool (patsB_no HNO.out).symm, (HBx.out _).1⟩
              · have hd1 : decide ((n.lines.length : Int) ≤ xa) = false := decide_eq_false hv1
                by_cases hv2 : xb < 0
                · have hd2 : decide (xb < 0) = true := decide_eq_true hv2
                  have HNO := Lib.hid (HNoE.out (by unfold PatEach; simp only; omega))
                  clear HNoE HStep
                  go_wp2_with fail
                  go_ret
                  exact ⟨ret_bool (patsB_no HNO.out).symm, (HBx.out _).1⟩
                · have hd2 : decide (xb < 0) = false := decide_eq_false hv2
                  by_cases hv3 : p ≤ xb
                  · have hd3 : decide (p ≤ xb) = true := decide_eq_true hv3
                    have HNO := Lib.hid (HNoE.out (by unfold PatEach; simp only; omega))
                    clear HNoE HStep
                    go_wp2_with fail
                    go_ret
                    exact ⟨ret_bool (patsB_no HNO.out).symm, (HBx.out _).1⟩
                  · have hd3 : decide (p ≤ xb) = false := decide_eq_false hv3
                    have HNx := Lib.hid (HStep.out (by unfold PatEach; simp only; omega))
                    clear HStep HNoE hv0 hv1 hv2 hv3
                    go_wp2_with fail
                    go_roundw
                    case rel => exact ⟨k + 1, by omega, by go_num, HNx, acell p1 _, HBx.out _⟩
                    case measure => simp [RowKit.intOf]; omega
          · have HYES : Hid (PatsGood n p xs) := ⟨HG.out, hp, hlen, fun j hj => HTo.out j hj (by omega)⟩
            go_wp2_with fail
            go_ret
            exact ⟨ret_bool (patsB_yes HYES.out).symm, HB.out.1⟩
      · rw [patsB_no (fun h => hlen h.2.2.1)]
        by_cases hl : xs.length < 1
        · have hl1 : decide ((xs.length : Int) < 1) = true := decide_eq_true (by omega)
          go_enter Try.func20, Try.ntmps20
          go_wp2_with fail
          go_at_call 60
          refine (HN.out _ ((Below.refl _ _).alloc (Nat.le_refl _) _)).mono ?_
          rintro e w1 ⟨rfl, hb1⟩
          have HB1 : Hid (Below w.heap.size w w1) := ((Below.refl _ _).alloc (Nat.le_refl _) _).trans (hb1.mono (by simp))
          clear hb1 HN
          go_wp2_with fail
          go_at_call 61
          refine (HP.out _).mono ?_
          rintro e w' ⟨rfl, rfl⟩
          go_wp2_with fail
          go_ret
          exact ⟨rfl, HB1.out⟩
        · have hl1 : decide ((xs.length : Int) < 1) = false := decide_eq_false (by omega)
          have hl2 : decide ((3 : Int) < (xs.length : Int)) = true := decide_eq_true (by omega)
          go_enter Try.func20, Try.ntmps20
          go_wp2_with fail
          go_at_call 60
          refine (HN.out _ ((Below.refl _ _).alloc (Nat.le_refl _) _)).mono ?_
          rintro e w1 ⟨rfl, hb1⟩
          have HB1 : Hid (Below w.heap.size w w1) := ((Below.refl _ _).alloc (Nat.le_refl _) _).trans (hb1.mono (by simp))
          clear hb1 HN
          go_wp2_with fail
          go_at_call 61
          refine (HP.out _).mono ?_
          rintro e w' ⟨rfl, rfl⟩
          go_wp2_with fail
          go_ret
          exact ⟨rfl, HB1.out⟩
    · rw [show perB p = false from decide_eq_false hp] at HP
      rw [patsB_no (fun h => hp h.2.1)]
      go_enter Try.func20, Try.ntmps20
      go_wp2_with fail
      go_at_call 60
      refine (HN.out _ ((Below.refl _ _).alloc (Nat.le_refl _) _)).mono ?_
      rintro e w1 ⟨rfl, hb1⟩
      have HB1 : Hid (Below w.heap.size w w1) := ((Below.refl _ _).alloc (Nat.le_refl _) _).trans (hb1.mono (by simp))
      clear hb1 HN
      go_wp2_with fail
      go_at_call 61
      refine (HP.out _).mono ?_
      rintro e w' ⟨rfl, rfl⟩
      go_wp2_with fail
      go_ret
      exact ⟨rfl, HB1.out⟩
  · rw [netB_no hg] at HN
    rw [patsB_no (fun h => hg h.1)]
    go_enter Try.func20, Try.ntmps20
    go_wp2_with fail
    go_at_call 60
    refine (HN.out _ ((Below.refl _ _).alloc (Nat.le_refl _) _)).mono ?_
    rintro e w1 ⟨rfl, hb1⟩
    have HB1 : Hid (Below w.heap.size w w1) := ((Below.refl _ _).alloc (Nat.le_refl _) _).trans (hb1.mono (by simp))
    clear hb1
    go_wp2_with fail
    go_ret
    exact ⟨rfl, HB1.out⟩

end Go.Proofs.Ytfgkfdkdjegaiaa
