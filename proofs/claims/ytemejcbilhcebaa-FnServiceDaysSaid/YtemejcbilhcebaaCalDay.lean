import Derived.Test.YtemejcbilhcebaaIn
import Derived.Test.YtemejcbilhcebaaCal
import Derived.BigQuiet
import Derived.Deep.QuietTactic
import Derived.LoopTactic
namespace Go.Proofs.Ytemejcbilhcebaa
open Go.RowKit
set_option linter.unusedVariables false

theorem weekdayOf_any (d : Int) (w : World) (h0 : 0 ≤ d) (h1 : d ≤ 3650) : Calls Try.prog 103 #[.int .i64 d] w fun e w' => e = .returned (.int .i64 (d % 7)) ∧ w = w' := by
  go_enter Try.func103, Try.ntmps103
  go_wp2
  go_ret
  exact ⟨rfl, rfl⟩

theorem and_fin : ∀ x : Fin 128, bits .and .i64 (x.val : Int) 1 = (x.val : Int) % 2 := by decide
theorem and_one (x : Int) (h0 : 0 ≤ x) (h1 : x ≤ 127) : bits .and .i64 x 1 = x % 2 := by
  have := and_fin ⟨x.toNat, by omega⟩
  have e : ((x.toNat : Nat) : Int) = x := by omega
  simpa only [e] using this
theorem shr_bd (wd : Int) (k : Nat) (g0 : 0 ≤ wd) (g1 : wd ≤ 127) : 0 ≤ wd / 2 ^ k ∧ wd / 2 ^ k ≤ 127 := by
  have hp : (0 : Int) < 2 ^ k := Int.pow_pos (by decide)
  exact ⟨Int.ediv_nonneg g0 (by omega), Int.le_trans (Int.ediv_le_self _ g0) g1⟩
theorem wd_test (wd d : Int) (g0 : 0 ≤ wd) (g1 : wd ≤ 127) : (bits .and .i64 (wd / 2 ^ (d % 7).toNat) 1 == 1) = wdB wd d := by
  obtain ⟨a, b⟩ := shr_bd wd (d % 7).toNat g0 g1
  rw [and_one _ a b, wdB, Bool.eq_iff_iff]; simp

theorem hasWeekday_any (wd d : Int) (w : World) (g0 : 0 ≤ wd) (g1 : wd ≤ 127) (h0 : 0 ≤ d) (h1 : d ≤ 3650) : Calls Try.prog 70 #[.int .i64 wd, .int .i64 d] w fun e w' => e = .returned (.bool (wdB wd d)) ∧ w = w' := by
  go_enter Try.func70, Try.ntmps70
  go_wp2_with fail
  go_at_call 103
  refine (weekdayOf_any _ _ h0 h1).mono ?_
  rintro e w' ⟨rfl, rfl⟩
  have hm0 : 0 ≤ d % 7 := by omega
  have hm1 : d % 7 < 7 := by omega
  go_wp2
  go_ret
  exact ⟨ret_bool (wd_test wd d g0 g1), rfl⟩

theorem isDay_yes (d : Int) (w : World) (h : 0 ≤ d ∧ d ≤ 3650) : Calls Try.prog 78 #[.int .i64 d] w fun e w' => e = .returned (.bool true) ∧ w = w' := by
  obtain ⟨h1, h2⟩ := h
  go_enter Try.func78, Try.ntmps78
  go_wp2
  go_ret
  exact ⟨rfl, rfl⟩
theorem isDay_no (d : Int) (w : World) (h : ¬ (0 ≤ d ∧ d ≤ 3650)) : Calls Try.prog 78 #[.int .i64 d] w fun e w' => e = .returned (.bool false) ∧ w = w' := by
  by_cases h1 : 0 ≤ d
  · have h2 : ¬ d ≤ 3650 := fun g => h ⟨h1, g⟩
    clear h
    go_enter Try.func78, Try.ntmps78
    go_wp2
    go_ret
    exact ⟨rfl, rfl⟩
  · clear h
    go_enter Try.func78, Try.ntmps78
    go_wp2
    go_ret
    exact ⟨rfl, rfl⟩
def dayB (d : Int) : Bool := decide (0 ≤ d ∧ d ≤ 3650)
theorem dayB_yes {d : Int} (h : 0 ≤ d ∧ d ≤ 3650) : dayB d = true := decide_eq_true h
theorem dayB_no {d : Int} (h : ¬ (0 ≤ d ∧ d ≤ 3650)) : dayB d = false := decide_eq_false h

theorem areBounds_yes (a b : Int) (w : World) (h : 0 ≤ a ∧ a ≤ b ∧ b ≤ 3650) : Calls Try.prog 66 #[.int .i64 a, .int .i64 b] w fun e w' => e = .returned (.bool true) ∧ w = w' := by
  obtain ⟨h1, h2, h3⟩ := h
  go_enter Try.func66, Try.ntmps66
  go_wp2_with (go_at_call 78; refine (isDay_yes _ _ (by omega)).mono ?_; rintro e w' ⟨rfl, rfl⟩)
  go_ret
  exact ⟨rfl, rfl⟩
theorem areBounds_no (a b : Int) (w : World) (h : ¬ (0 ≤ a ∧ a ≤ b ∧ b ≤ 3650)) : Calls Try.prog 66 #[.int .i64 a, .int .i64 b] w fun e w' => e = .returned (.bool false) ∧ w = w' := by
  by_cases ha : 0 ≤ a ∧ a ≤ 3650
  · by_cases hb : 0 ≤ b ∧ b ≤ 3650
    · have hab : decide (a ≤ b) = false := decide_eq_false fun g => h ⟨ha.1, g, hb.2⟩
      have HA := Lib.hid ha
      have HB := Lib.hid hb
      clear ha hb h
      go_enter Try.func66, Try.ntmps66
      go_wp2_with (go_at_call 78; refine (isDay_yes _ _ (by first | exact HA.out | exact HB.out)).mono ?_; rintro e w' ⟨rfl, rfl⟩)
      go_ret
      exact ⟨rfl, rfl⟩
    · have HA := Lib.hid ha
      have HB := Lib.hid hb
      clear ha hb h
      go_enter Try.func66, Try.ntmps66
      go_wp2_with fail
      go_at_call 78
      refine (isDay_yes _ _ HA.out).mono ?_
      rintro e w' ⟨rfl, rfl⟩
      go_wp2_with fail
      go_at_call 78
      refine (isDay_no _ _ HB.out).mono ?_
      rintro e w' ⟨rfl, rfl⟩
      go_wp2
      go_ret
      exact ⟨rfl, rfl⟩
  · have HA := Lib.hid ha
    clear ha h
    go_enter Try.func66, Try.ntmps66
    go_wp2_with fail
    go_at_call 78
    refine (isDay_no _ _ HA.out).mono ?_
    rintro e w' ⟨rfl, rfl⟩
    go_wp2
    go_ret
    exact ⟨rfl, rfl⟩

theorem l3Day_any (d : Int) (w : World) : Calls Try.prog 71 #[.int .i64 d] w fun e w' => e = .returned (.bool (dayB d)) ∧ w = w' := by
  by_cases hd : 0 ≤ d ∧ d ≤ 3650
  · have HD := Lib.hid hd
    clear hd
    go_enter Try.func71, Try.ntmps71
    go_wp2_with (go_at_call 49; refine (l1In_yes _ _ _ _ HD.out).mono ?_; rintro e w' ⟨rfl, rfl⟩)
    go_ret
    exact ⟨ret_bool (dayB_yes HD.out).symm, rfl⟩
  · have HD := Lib.hid hd
    clear hd
    go_enter Try.func71, Try.ntmps71
    go_wp2_with (go_at_call 49; refine (l1In_no _ _ _ _ HD.out).mono ?_; rintro e w' ⟨rfl, rfl⟩)
    go_ret
    exact ⟨ret_bool (dayB_no HD.out).symm, rfl⟩
theorem isDay_any (d : Int) (w : World) : Calls Try.prog 78 #[.int .i64 d] w fun e w' => e = .returned (.bool (dayB d)) ∧ w = w' := by
  by_cases h : 0 ≤ d ∧ d ≤ 3650
  · rw [dayB_yes h]; exact isDay_yes d w h
  · rw [dayB_no h]; exact isDay_no d w h

theorem l3Regular_any (v : Value) (c : CalD) (d : Int) (w : World) (hr : CalAt w v c) (hn : CalNum c) :
    Calls Try.prog 74 #[v, .int .i64 d] w fun e w' => e = .returned (.bool (regB c d)) ∧ Below w.heap.size w w' := by
  obtain ⟨av, rv, rfl, ha, hrm⟩ := hr
  obtain ⟨a, ca, rfl, _⟩ := ints_open ha
  obtain ⟨b, cb, rfl, _⟩ := ints_open hrm
  clear ha hrm
  obtain ⟨n1, n2, n3, n4, n5⟩ := hn
  by_cases hd : c.frm ≤ d ∧ d ≤ c.too
  · have HD := Lib.hid hd
    have d0 : 0 ≤ d := by omega
    have d1 : d ≤ 3650 := by omega
    clear hd
    have HR : Hid (regB c d = wdB c.wd d) := by
      show regB c d = wdB c.wd d
      rw [Bool.eq_iff_iff, regB_iff]; exact ⟨fun h => h.2, fun h => ⟨HD.out, h⟩⟩
    have hm0 : 0 ≤ d % 7 := by omega
    have hm1 : d % 7 < 7 := by omega
    go_enter Try.func74, Try.ntmps74
    go_wp2_with (go_at_call 49; refine (l1In_yes _ _ _ _ HD.out).mono ?_; rintro e w' ⟨rfl, rfl⟩)
    go_ret
    exact ⟨ret_bool ((wd_test c.wd d n4 n5).trans HR.out.symm), (Below.refl _ _).alloc (Nat.le_refl _) _⟩
  · have HD := Lib.hid hd
    clear hd
    have HR : Hid (regB c d = false) := regB_no fun h => HD.out h.1
    go_enter Try.func74, Try.ntmps74
    go_wp2_with (go_at_call 49; refine (l1In_no _ _ _ _ HD.out).mono ?_; rintro e w' ⟨rfl, rfl⟩)
    go_ret
    exact ⟨ret_bool HR.out.symm, (Below.refl _ _).alloc (Nat.le_refl _) _⟩
end Go.Proofs.Ytemejcbilhcebaa
