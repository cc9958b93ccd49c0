/-
  CONTRACTS: impl.twoDigits, impl.FormatTime: the text of a time.
-/
import Derived.Test.YtffcgblionlhhaaTimeText
import Derived.Laws.IdiomStrings
namespace Go.Proofs.Ytffcgblionlhhaa
open Go.RowKit Go.Lib
set_option linter.unusedVariables false

theorem twoDigits_any (n : Nat) (w : World) (h : n < 100) : Calls Try.prog 258 #[.int .i64 (n : Int)] w fun e w' => e = .returned (.tuple #[.int .u8 ((digC (n / 10)).toNat : Int), .int .u8 ((digC (n % 10)).toNat : Int)]) ∧ w = w' := by
  obtain ⟨a, b, ha, hb, rfl⟩ : ∃ a b : Nat, a < 10 ∧ b < 10 ∧ n = 10 * a + b := ⟨n / 10, n % 10, by omega, by omega, by omega⟩
  have e1 : (10 * (a : Int) + (b : Int)).tdiv 10 = (a : Int) := by rw [Int.tdiv_eq_ediv_of_nonneg (by omega)]; omega
  have e2 : (10 * (a : Int) + (b : Int)).tmod 10 = (b : Int) := by rw [Int.tmod_eq_emod_of_nonneg (by omega)]; omega
  have wa : IntKind.i64.wrap (a : Int) = (a : Int) := IntWalk.i64_in _ (by omega)
  have wb : IntKind.i64.wrap (b : Int) = (b : Int) := IntWalk.i64_in _ (by omega)
  have wa1 : IntKind.i64.wrap (48 + (a : Int)) = 48 + (a : Int) := IntWalk.i64_in _ (by omega)
  have wb1 : IntKind.i64.wrap (48 + (b : Int)) = 48 + (b : Int) := IntWalk.i64_in _ (by omega)
  have wa2 : IntKind.u8.wrap (48 + (a : Int)) = 48 + (a : Int) := by rw [IntKind.wrap_u8]; omega
  have wb2 : IntKind.u8.wrap (48 + (b : Int)) = 48 + (b : Int) := by rw [IntKind.wrap_u8]; omega
  rw [show (10 * a + b) / 10 = a by omega, show (10 * a + b) % 10 = b by omega, digC_nat ha, digC_nat hb]
  go_enter Try.func258, Try.ntmps258
  go_wp2_with fail
  go_ret2
  exact ⟨by simp, rfl⟩

set_option maxRecDepth 100000 in
set_option maxHeartbeats 1000000 in
theorem implFormatTime_yes (t : Nat) (w : World) (h : t ≤ 1799) : Calls Try.prog 235 #[.int .i64 (t : Int)] w fun e w' => e = .returned (.tuple #[.string (timeC t), .bool true]) ∧ Below w.heap.size w w' := by
  have HT := Lib.hid (fun W => implValidTime_any t W)
  rw [timeB_yes (show TimeOk (t : Int) from ⟨by omega, by omega⟩)] at HT
  obtain ⟨a, b, ha, hb, rfl⟩ : ∃ a b : Nat, a < 30 ∧ b < 60 ∧ t = 60 * a + b := ⟨t / 60, t % 60, by omega, by omega, by omega⟩
  have e1 : (60 * (a : Int) + (b : Int)).tdiv 60 = (a : Int) := by rw [Int.tdiv_eq_ediv_of_nonneg (by omega)]; omega
  have e2 : (60 * (a : Int) + (b : Int)).tmod 60 = (b : Int) := by rw [Int.tmod_eq_emod_of_nonneg (by omega)]; omega
  have wa : IntKind.i64.wrap (a : Int) = (a : Int) := IntWalk.i64_in _ (by omega)
  have wb : IntKind.i64.wrap (b : Int) = (b : Int) := IntWalk.i64_in _ (by omega)
  have HE : Hid (timeC (60 * a + b) = ⟨#[digC (a / 10), digC (a % 10), 58, digC (b / 10), digC (b % 10)]⟩) := by
    show _ = _
    unfold timeC
    rw [show (60 * a + b) / 60 = a by omega, show (60 * a + b) % 60 = b by omega]
  have H1 := Lib.hid (fun W => twoDigits_any a W (by omega))
  have H2 := Lib.hid (fun W => twoDigits_any b W (by omega))
  generalize digC (a / 10) = p at *
  generalize digC (a % 10) = q at *
  generalize digC (b / 10) = r at *
  generalize digC (b % 10) = s at *
  have hconv : (convert 22 9 (.slice (some ⟨w.heap.size, 0, none⟩) 5 5)).run Try.prog (w.alloc (.cells #[.int .u8 (p.toNat : Int), .int .u8 (q.toNat : Int), .int .u8 58, .int .u8 (r.toNat : Int), .int .u8 (s.toNat : Int)] 245)) = .ok (.string ⟨#[p, q, 58, r, s]⟩) (w.alloc (.cells #[.int .u8 (p.toNat : Int), .int .u8 (q.toNat : Int), .int .u8 58, .int .u8 (r.toNat : Int), .int .u8 (s.toNat : Int)] 245)) :=
    run_convert_bytes_back _ 22 9 5 ⟨w.heap.size, 0, none⟩ 5 [p, q, 58, r, s] Try.underlying22 Try.underlying5 Try.underlying9 (fun j hj => by
      rw [addr_add, Nat.zero_add, World.cell?_alloc_mark]
      match j, hj with
      | 0, _ => rfl
      | 1, _ => rfl
      | 2, _ => rfl
      | 3, _ => rfl
      | 4, _ => rfl
      | n + 5, hj => simp at hj; omega)
  go_enter Try.func235, Try.ntmps235
  go_wp2_with (first | (go_at_call 170; refine (HT.out _).mono ?_; rintro e w' ⟨rfl, rfl⟩))
  go_at_call 258
  refine (H1.out _).mono ?_
  rintro e w' ⟨rfl, rfl⟩
  go_wp2_with fail
  go_at_call 258
  refine (H2.out _).mono ?_
  rintro e w' ⟨rfl, rfl⟩
  go_wp2_with fail
  go_ret2
  exact ⟨by rw [HE.out]; rfl, (Below.refl _ _).alloc (Nat.le_refl _) _⟩

theorem implFormatTime_any (t : Int) (w : World) : Calls Try.prog 235 #[.int .i64 t] w fun e w' => e = .returned (.tuple #[.string (if TimeOk t then timeC t.toNat else ⟨#[]⟩), .bool (timeB t)]) ∧ Below w.heap.size w w' := by
  by_cases h : TimeOk t
  · rw [timeB_yes h, if_pos h]
    obtain ⟨n, rfl⟩ := Int.eq_ofNat_of_zero_le h.1
    rw [Int.toNat_natCast]
    exact implFormatTime_yes n w (by have := h.2; omega)
  · have HT := Lib.hid (implValidTime_any t w)
    rw [timeB_no h] at HT ⊢
    rw [if_neg h]
    clear h
    go_enter Try.func235, Try.ntmps235
    go_wp2_with (go_at_call 170; refine HT.out.mono ?_; rintro e w' ⟨rfl, rfl⟩)
    go_ret2
    exact ⟨rfl, Below.refl _ _⟩
end Go.Proofs.Ytffcgblionlhhaa
