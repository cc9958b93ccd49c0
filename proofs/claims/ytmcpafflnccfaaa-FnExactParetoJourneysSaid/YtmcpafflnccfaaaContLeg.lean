/-
  CONTRACTS: slices.Index and slices.Contains over legs.
-/
import Derived.Test.YtmcpafflnccfaaaLegX
import Derived.Test.YtmcpafflnccfaaaMa
import Derived.Test.YtmcpafflnccfaaaMb
import Derived.BigQuiet
import Derived.Deep.QuietTactic
import Derived.Laws.StructEq
namespace Go.Proofs.Ytmcpafflnccfaaa
open Go.RowKit
set_option linter.unusedVariables false

def legEqB (x y : LegD) : Bool := x.trip == y.trip && (x.frm == y.frm && (x.dst == y.dst && (x.dep == y.dep && x.arr == y.arr)))
theorem legEqB_iff (x y : LegD) : legEqB x y = true ↔ x = y := by
  cases x; cases y
  simp [legEqB]
theorem eqlLeg (x y : LegD) (w : World) : (binOp .eql 62 (.agg #[.int .i64 x.trip, .int .i64 x.frm, .int .i64 x.dst, .int .i64 x.dep, .int .i64 x.arr]) (.agg #[.int .i64 y.trip, .int .i64 y.frm, .int .i64 y.dst, .int .i64 y.dep, .int .i64 y.arr])).run Try.prog w = .ok (.bool (legEqB x y)) w := by
  have u3 := Try.underlying3
  have hS : Try.prog.underlying 62 = some (.struct (Try.prog.fieldsOf 62)) := by kernel_rfl
  have hp : Try.prog.stoodInHeld 62 = false := by kernel_rfl
  rw [run_eql_struct, show (10000 : Nat) = 9999 + 1 from rfl, run_equalIn_agg w 9999 62 _ _ hS hp]
  simp only [Program.fieldsOf, Try.underlying62]
  go_simp
  unfold legEqB
  by_cases h0 : x.trip = y.trip <;> by_cases h1 : x.frm = y.frm <;> by_cases h2 : x.dst = y.dst <;> by_cases h3 : x.dep = y.dep <;> by_cases h4 : x.arr = y.arr <;> simp [h0, h1, h2, h3, h4]
theorem neqLeg (x y : LegD) (w : World) : (binOp .neq 62 (.agg #[.int .i64 x.trip, .int .i64 x.frm, .int .i64 x.dst, .int .i64 x.dep, .int .i64 x.arr]) (.agg #[.int .i64 y.trip, .int .i64 y.frm, .int .i64 y.dst, .int .i64 y.dep, .int .i64 y.arr])).run Try.prog w = .ok (.bool (!legEqB x y)) w := by
  have h := eqlLeg x y w
  rw [run_eql_struct] at h
  rw [run_neq_struct]
  cases hr : (Op.equalIn 10000 62 (.agg #[.int .i64 x.trip, .int .i64 x.frm, .int .i64 x.dst, .int .i64 x.dep, .int .i64 x.arr]) (.agg #[.int .i64 y.trip, .int .i64 y.frm, .int .i64 y.dst, .int .i64 y.dep, .int .i64 y.arr])).run Try.prog w with
  | ok b w' => rw [hr] at h; simp at h ⊢; exact ⟨by rw [h.1], h.2⟩
  | halt a b => rw [hr] at h; simp [Result.andThen] at h
theorem guardLeg (op : BinOp) (a b : Operand) (xs ys : Array Value) (w : World) : (eqGuard op 62 a b (.agg xs) (.agg ys)).run Try.prog w = .ok () w := run_eqGuard_agg w op _ a b xs ys (by kernel_rfl)
set_option maxRecDepth 100000 in
set_option maxHeartbeats 2000000 in
theorem indexLeg_any (v : Value) (xs : List LegD) (x : LegD) (w : World) (hr : LegsAt w v xs) :
    Calls Try.prog 120 #[v, legV x] w fun e w' => e = .returned (.int .i64 (fstIdx x xs)) ∧ Below w.heap.size w w' := by
  have HR := Lib.hid hr
  obtain ⟨a, c, rfl, hcl, hcm, -⟩ := legs_open hr
  unfold legV
  clear hr
  go_enter Try.func120, Try.ntmps120
  go_wp2_with fail
  go_loopw [8] (fun i wr => ∃ k : Nat, k ≤ xs.length ∧ i = .int .i64 k ∧ Hid (x ∉ xs.take k) ∧ wr.cell? ⟨w.heap.size, 0, none⟩ = some (.int .i64 x.trip) ∧ wr.cell? ⟨w.heap.size, 1, none⟩ = some (.int .i64 x.frm) ∧ wr.cell? ⟨w.heap.size, 2, none⟩ = some (.int .i64 x.dst) ∧ wr.cell? ⟨w.heap.size, 3, none⟩ = some (.int .i64 x.dep) ∧ wr.cell? ⟨w.heap.size, 4, none⟩ = some (.int .i64 x.arr) ∧ Hid (Below w.heap.size w wr)) (fun i _ => xs.length - (RowKit.intOf i).toNat)
  case atStart => exact ⟨0, Nat.zero_le _, rfl, by show _ ∉ _; simp, by go_simp, by go_simp, by go_simp, by go_simp, by go_simp, (Below.refl _ _).alloc (Nat.le_refl _) _⟩
  case round =>
    obtain ⟨k, hk, rfl, HN, p0, p1, p2, p3, p4, HB⟩ := hrel
    by_cases hlt : k < xs.length
    · obtain ⟨g, go, rfl, hgb, y0, y1, y2, y3, y4⟩ := leg_at (HR.out.below rfl HB.out) k hlt
      have hk1 : (k : Int) < (xs.length : Int) := by omega
      by_cases he : xs[k] = x
      · have HF := Lib.hid (fstIdx_hit k hlt he HN.out)
        have hb : legEqB x xs[k] = true := (legEqB_iff _ _).2 he.symm
        clear he
        generalize xs[k] = y at *
        have hE := eqlLeg x y
        have hGd := guardLeg
        rw [hb] at hE
        clear hb HN
        go_wp2_with fail
        go_quiet (fail)
        go_wp2_with fail
        go_ret
        exact ⟨ret_int HF.out.symm, HB.out.trans ((Dr.below ⟨_, rfl⟩).mono (by have := HB.out.size; omega))⟩
      · have HK2 : Hid (k + 1 ≤ xs.length) := hlt
        have HN2 := Lib.hid (not_take_succ hlt HN.out he)
        have hb : legEqB x xs[k] = false := by
          cases hq : legEqB x xs[k] with
          | false => rfl
          | true => exact absurd ((legEqB_iff _ _).1 hq).symm he
        clear he
        generalize xs[k] = y at *
        have hE := eqlLeg x y
        have hGd := guardLeg
        rw [hb] at hE
        clear hb HN
        go_wp2_with fail
        go_quiet (fail)
        go_wp2_with fail
        go_roundw
        case rel => exact ⟨k + 1, HK2.out, by go_num, HN2, p0, p1, p2, p3, p4, HB.out.trans ((Dr.below ⟨_, rfl⟩).mono (by have := HB.out.size; omega))⟩
        case measure => have := HK2.out; simp [RowKit.intOf]; omega
    · have hkl : xs.length ≤ k := by omega
      have HF := Lib.hid (fstIdx_none (not_take_all hkl HN.out))
      have hk1 : ¬ (k : Int) < (xs.length : Int) := by omega
      go_wp2_with fail
      go_ret
      exact ⟨ret_int HF.out.symm, HB.out⟩
theorem containsLeg_any (v : Value) (xs : List LegD) (x : LegD) (w : World) (hr : LegsAt w v xs) :
    Calls Try.prog 82 #[v, legV x] w fun e w' => e = .returned (.bool (decide (x ∈ xs))) ∧ Below w.heap.size w w' := by
  have HI := Lib.hid (fun W (h : Below w.heap.size w W) => indexLeg_any v xs x W (hr.below rfl h))
  obtain ⟨a, c, rfl⟩ := LegS_open hr
  clear hr
  have HB : Hid (decide (x ∈ xs) = decide (0 ≤ fstIdx x xs)) := by
    show _ = _
    have := fstIdx_neg x xs
    by_cases h : x ∈ xs
    · have h0 : 0 ≤ fstIdx x xs := by
        by_cases g : fstIdx x xs < 0
        · exact absurd h (this.1 g)
        · omega
      simp [h, h0]
    · have h0 : ¬ 0 ≤ fstIdx x xs := by have := this.2 h; omega
      simp [h, h0]
  unfold legV at *
  generalize fstIdx x xs = f at *
  go_enter Try.func82, Try.ntmps82
  go_wp2_with fail
  go_at_call 120
  refine (HI.out _ ((Below.refl _ _).alloc (Nat.le_refl _) _)).mono ?_
  rintro e w1 ⟨rfl, hb⟩
  have HB1 : Hid (Below w.heap.size w w1) := ((Below.refl _ _).alloc (Nat.le_refl _) _).trans (hb.mono (by simp))
  clear hb
  go_wp2_with fail
  go_ret
  exact ⟨ret_bool (by rw [HB.out]), HB1.out⟩
end Go.Proofs.Ytmcpafflnccfaaa
