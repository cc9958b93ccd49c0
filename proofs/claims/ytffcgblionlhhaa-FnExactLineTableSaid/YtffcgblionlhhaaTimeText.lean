/-
  CONTRACTS: spec.l4Two, spec.l4Text: the text of a time.
-/
import Derived.Test.YtffcgblionlhhaaRetStr
import Derived.Test.YtffcgblionlhhaaMa
import Derived.Test.YtffcgblionlhhaaTimeP
import Derived.WalkSpells
import Derived.Laws.Concat
import Derived.BigQuiet
import Derived.Below
import Derived.IntWalk
namespace Go.Proofs.Ytffcgblionlhhaa
open Go.RowKit Go.Lib
set_option linter.unusedVariables false

theorem ten_slice (r : Nat) (h : r < 10) : ∀ W, (Instr.slice 9 (.string { data := #[48, 49, 50, 51, 52, 53, 54, 55, 56, 57] }) (some (.int .i64 (r : Int))) (some (.int .i64 ((r : Int) + 1))) none).run Try.prog W = .ok (.string ⟨#[digC r]⟩) W := fun W => by
  rw [run_slice_string (h := Try.underlying9) (h0 := by omega) (h1 := by omega) (h2 := by show (r : Int) + 1 ≤ 10; omega)]
  have := ten_at ⟨r, h⟩
  congr 2
  exact congrArg ByteArray.mk (Array.toList_inj.1 (by simpa [digC] using this))

theorem l4Two_any (n : Nat) (w : World) (h : n < 100) : Calls Try.prog 233 #[.int .i64 (n : Int)] w fun e w' => e = .returned (.string (twoC n)) ∧ Below w.heap.size w w' := by
  obtain ⟨a, b, ha, hb, rfl⟩ : ∃ a b : Nat, a < 10 ∧ b < 10 ∧ n = 10 * a + b := ⟨n / 10, n % 10, by omega, by omega, by omega⟩
  have e1 : (10 * (a : Int) + (b : Int)).tdiv 10 = (a : Int) := by rw [Int.tdiv_eq_ediv_of_nonneg (by omega)]; omega
  have e2 : (10 * (a : Int) + (b : Int)).tmod 10 = (b : Int) := by rw [Int.tmod_eq_emod_of_nonneg (by omega)]; omega
  have wa : IntKind.i64.wrap (a : Int) = (a : Int) := IntWalk.i64_in _ (by omega)
  have wb : IntKind.i64.wrap (b : Int) = (b : Int) := IntWalk.i64_in _ (by omega)
  have wa1 : IntKind.i64.wrap ((a : Int) + 1) = (a : Int) + 1 := IntWalk.i64_in _ (by omega)
  have wb1 : IntKind.i64.wrap ((b : Int) + 1) = (b : Int) + 1 := IntWalk.i64_in _ (by omega)
  have HE : Hid (twoC (10 * a + b) = ⟨#[digC a, digC b]⟩) := by
    show _ = _
    unfold twoC
    rw [show (10 * a + b) / 10 = a by omega, show (10 * a + b) % 10 = b by omega]
  have hs1 := ten_slice a ha
  have hs2 := ten_slice b hb
  have hadd : ∀ W, (Op.stringOp .add ⟨#[digC a]⟩ ⟨#[digC b]⟩).run Try.prog W = .ok (.string ⟨#[digC a, digC b]⟩) W := fun W => run_string_add_lists W [digC a] [digC b] (by simp) (by simp)
  generalize digC a = p at *
  generalize digC b = q at *
  go_enter Try.func233, Try.ntmps233
  go_wp2_with fail
  go_quiet (fail)
  go_wp2_with fail
  go_ret
  exact ⟨by rw [HE.out]; rfl, Dr.below ⟨_, rfl⟩⟩

theorem l4Text_any (t : Nat) (w : World) (h : t ≤ 1799) : Calls Try.prog 188 #[.int .i64 (t : Int)] w fun e w' => e = .returned (.string (timeC t)) ∧ Below w.heap.size w w' := by
  obtain ⟨a, b, ha, hb, rfl⟩ : ∃ a b : Nat, a < 30 ∧ b < 60 ∧ t = 60 * a + b := ⟨t / 60, t % 60, by omega, by omega, by omega⟩
  have e1 : (60 * (a : Int) + (b : Int)).tdiv 60 = (a : Int) := by rw [Int.tdiv_eq_ediv_of_nonneg (by omega)]; omega
  have e2 : (60 * (a : Int) + (b : Int)).tmod 60 = (b : Int) := by rw [Int.tmod_eq_emod_of_nonneg (by omega)]; omega
  have wa : IntKind.i64.wrap (a : Int) = (a : Int) := IntWalk.i64_in _ (by omega)
  have wb : IntKind.i64.wrap (b : Int) = (b : Int) := IntWalk.i64_in _ (by omega)
  have HE : Hid (timeC (60 * a + b) = ⟨#[digC (a / 10), digC (a % 10), 58, digC (b / 10), digC (b % 10)]⟩) := by
    show _ = _
    unfold timeC
    rw [show (60 * a + b) / 60 = a by omega, show (60 * a + b) % 60 = b by omega]
  have H1 := Lib.hid (fun W => l4Two_any a W (by omega))
  have H2 := Lib.hid (fun W => l4Two_any b W (by omega))
  have hadd1 : ∀ W, (Op.stringOp .add (twoC a) ⟨#[58]⟩).run Try.prog W = .ok (.string ⟨#[digC (a / 10), digC (a % 10), 58]⟩) W := fun W => run_string_add_lists W [digC (a / 10), digC (a % 10)] [58] (by simp) (by simp)
  have hadd2 : ∀ W, (Op.stringOp .add ⟨#[digC (a / 10), digC (a % 10), 58]⟩ (twoC b)).run Try.prog W = .ok (.string ⟨#[digC (a / 10), digC (a % 10), 58, digC (b / 10), digC (b % 10)]⟩) W := fun W => run_string_add_lists W [digC (a / 10), digC (a % 10), 58] [digC (b / 10), digC (b % 10)] (by simp) (by simp)
  generalize twoC a = p at *
  generalize twoC b = q at *
  go_enter Try.func188, Try.ntmps188
  go_wp2_with fail
  go_at_call 233
  refine (H1.out _).mono ?_
  rintro e w1 ⟨rfl, hb1⟩
  have HB1 := Lib.hid hb1
  clear hb1
  go_wp2_with fail
  go_at_call 233
  refine (H2.out _).mono ?_
  rintro e w2 ⟨rfl, hb2⟩
  have HB2 : Hid (Below w.heap.size w w2) := HB1.out.trans (hb2.mono HB1.out.size)
  clear hb2
  go_wp2_with fail
  go_ret
  exact ⟨by rw [HE.out]; rfl, HB2.out⟩

end Go.Proofs.Ytffcgblionlhhaa
