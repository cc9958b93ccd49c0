/-
  CONTRACTS: spec.ClockTime and impl.ClockTime.
-/
import Derived.Test.YtenbplehiaofmaaTimeImpl
namespace Go.Proofs.Ytenbplehiaofmaa
open Go.RowKit
set_option linter.unusedVariables false

def clockS (t : Int) : ByteArray := if TimeOk t then timeC (t.toNat % 1440) else ⟨#[]⟩
def clockD (t : Int) : Int := if TimeOk t then ((t.toNat / 1440 : Nat) : Int) else 0
theorem specClock_any (t : Int) (w : World) : Calls Try.prog 29 #[.int .i64 t] w fun e w' => e = .returned (.tuple #[.string (clockS t), .int .i64 (clockD t), .bool (timeB t)]) ∧ Below w.heap.size w w' := by
  have HT := Lib.hid (l4Time_any t w)
  unfold clockS clockD
  by_cases h : TimeOk t
  · rw [timeB_yes h] at HT ⊢
    rw [if_pos h, if_pos h]
    obtain ⟨n, rfl⟩ := Int.eq_ofNat_of_zero_le h.1
    have hn : n ≤ 1799 := by have := h.2; omega
    clear h
    rw [Int.toNat_natCast]
    obtain ⟨a, b, ha, hb, rfl⟩ : ∃ a b : Nat, a < 2 ∧ b < 1440 ∧ n = 1440 * a + b := ⟨n / 1440, n % 1440, by omega, by omega, by omega⟩
    have e1 : (1440 * (a : Int) + (b : Int)).tdiv 1440 = (a : Int) := by rw [Int.tdiv_eq_ediv_of_nonneg (by omega)]; omega
    have e2 : (1440 * (a : Int) + (b : Int)).tmod 1440 = (b : Int) := by rw [Int.tmod_eq_emod_of_nonneg (by omega)]; omega
    have wa : IntKind.i64.wrap (a : Int) = (a : Int) := IntWalk.i64_in _ (by omega)
    have wb : IntKind.i64.wrap (b : Int) = (b : Int) := IntWalk.i64_in _ (by omega)
    rw [show (1440 * a + b) / 1440 = a by omega, show (1440 * a + b) % 1440 = b by omega]
    have HX := Lib.hid (l4Text_any b w (by omega))
    go_enter Try.func29, Try.ntmps29
    go_wp2_with (first | (go_at_call 53; refine HT.out.mono ?_; rintro e w' ⟨rfl, rfl⟩) | (go_at_call 54; refine HX.out.mono ?_; rintro e w' ⟨rfl, hb'⟩))
    go_ret3
    exact ⟨rfl, hb'⟩
  · rw [timeB_no h] at HT ⊢
    rw [if_neg h, if_neg h]
    clear h
    go_enter Try.func29, Try.ntmps29
    go_wp2_with (go_at_call 53; refine HT.out.mono ?_; rintro e w' ⟨rfl, rfl⟩)
    go_ret3
    exact ⟨rfl, Below.refl _ _⟩
theorem implClock_any (t : Int) (w : World) : Calls Try.prog 30 #[.int .i64 t] w fun e w' => e = .returned (.tuple #[.string (clockS t), .int .i64 (clockD t), .bool (timeB t)]) ∧ Below w.heap.size w w' := by
  have HT := Lib.hid (implValidTime_any t w)
  unfold clockS clockD
  by_cases h : TimeOk t
  · rw [timeB_yes h] at HT ⊢
    rw [if_pos h, if_pos h]
    obtain ⟨n, rfl⟩ := Int.eq_ofNat_of_zero_le h.1
    have hn : n ≤ 1799 := by have := h.2; omega
    clear h
    rw [Int.toNat_natCast]
    obtain ⟨a, b, ha, hb, rfl⟩ : ∃ a b : Nat, a < 2 ∧ b < 1440 ∧ n = 1440 * a + b := ⟨n / 1440, n % 1440, by omega, by omega, by omega⟩
    have e1 : (1440 * (a : Int) + (b : Int)).tdiv 1440 = (a : Int) := by rw [Int.tdiv_eq_ediv_of_nonneg (by omega)]; omega
    have e2 : (1440 * (a : Int) + (b : Int)).tmod 1440 = (b : Int) := by rw [Int.tmod_eq_emod_of_nonneg (by omega)]; omega
    have wa : IntKind.i64.wrap (a : Int) = (a : Int) := IntWalk.i64_in _ (by omega)
    have wb : IntKind.i64.wrap (b : Int) = (b : Int) := IntWalk.i64_in _ (by omega)
    rw [show (1440 * a + b) / 1440 = a by omega, show (1440 * a + b) % 1440 = b by omega]
    have HX := Lib.hid (implFormatTime_yes b w (by omega))
    go_enter Try.func30, Try.ntmps30
    go_wp2_with (first | (go_at_call 24; refine HT.out.mono ?_; rintro e w' ⟨rfl, rfl⟩) | (go_at_call 26; refine HX.out.mono ?_; rintro e w' ⟨rfl, hb'⟩))
    go_ret3
    exact ⟨rfl, hb'⟩
  · rw [timeB_no h] at HT ⊢
    rw [if_neg h, if_neg h]
    clear h
    go_enter Try.func30, Try.ntmps30
    go_wp2_with (go_at_call 24; refine HT.out.mono ?_; rintro e w' ⟨rfl, rfl⟩)
    go_ret3
    exact ⟨rfl, Below.refl _ _⟩
theorem bothClockTime (a : Int) (w : (Lit.int .i64 a).wf = true) : ∃ (r : ByteArray) (d : Int) (b : Bool), ∀ w : World, (Calls Try.prog 29 #[.int .i64 a] w fun e w' => e = .returned (.tuple #[.string r, .int .i64 d, .bool b]) ∧ Below w.heap.size w w') ∧
    Calls Try.prog 30 #[.int .i64 a] w fun e w' => e = .returned (.tuple #[.string r, .int .i64 d, .bool b]) ∧ Below w.heap.size w w' :=
  ⟨_, _, _, fun w => ⟨specClock_any a w, implClock_any a w⟩⟩
end Go.Proofs.Ytenbplehiaofmaa
