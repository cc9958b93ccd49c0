import Derived.Test.YtemejcbilhcebaaFitP
import Derived.Test.YtemejcbilhcebaaShelf
namespace Go.Proofs.Ytemejcbilhcebaa
open Go.RowKit
set_option linter.unusedVariables false

theorem isListed_any (v : Value) (xs : List Int) (d : Int) (w : World) (hr : RowAt w v (ints xs)) (hs : xs.Pairwise (· < ·)) (hl : xs.length ≤ 1048576) :
    Calls Try.prog 69 #[v, .int .i64 d] w fun e w' => e = .returned (.bool (inB d xs)) ∧ ∃ q, w' = w.drewN q := by
  obtain ⟨a, c, rfl, hc, hm, HC⟩ := ints_open hr
  clear hr
  have HB : Hid (Calls Try.prog 104 #[.slice a xs.length c, .int .i64 d] w fun e w' => (∃ z, e = .returned (.tuple #[.int .i64 z, .bool (inB d xs)])) ∧ ∃ q, w' = w.drewN q) := by
    show Calls _ _ _ _ _
    cases xs with
    | nil => exact (Try.slices_BinarySearch_int_empty a c d w).mono fun e w' ⟨he, hw⟩ => ⟨⟨0, he⟩, 0, hw⟩
    | cons x l =>
      obtain ⟨b, off, rfl, _, _⟩ := HC.out 0 (by simp)
      have := Try.slices_BinarySearch_int b off (x :: l).length c (x :: l) d w (Nat.le_refl _) (by omega) (fun j hj => by
        obtain ⟨b', off', hab, _, hcx⟩ := HC.out j hj
        obtain ⟨rfl, rfl⟩ : b = b' ∧ off = off' := by simpa using hab
        simpa [List.getD, List.getElem?_eq_getElem hj] using hcx) (by rw [List.take_length]; exact hs.imp (fun h => Int.le_of_lt h))
      have e : (x :: l).contains d = inB d (x :: l) := by rw [Bool.eq_iff_iff, inB_iff]; simp
      rw [List.take_length, e] at this
      exact this.mono fun e w' ⟨he, hw⟩ => ⟨⟨_, he⟩, hw⟩
  clear HC hs
  go_enter Try.func69, Try.ntmps69
  go_wp2_with fail
  go_at_call 104
  refine HB.out.mono ?_
  rintro e w1 ⟨⟨z, rfl⟩, q, rfl⟩
  go_wp2_with fail
  go_ret
  exact ⟨rfl, q, rfl⟩

theorem seven {j : Nat} (h : j < 7) : j = 0 ∨ j = 1 ∨ j = 2 ∨ j = 3 ∨ j = 4 ∨ j = 5 ∨ j = 6 := by omega
theorem ix0 (x0 x1 x2 x3 x4 x5 x6 : Value) (w : World) : (Instr.index 125 (.agg #[x0, x1, x2, x3, x4, x5, x6]) (.int .i64 0)).run Try.prog w = .ok x0 w := by kernel_rfl
theorem ix1 (x0 x1 x2 x3 x4 x5 x6 : Value) (w : World) : (Instr.index 125 (.agg #[x0, x1, x2, x3, x4, x5, x6]) (.int .i64 1)).run Try.prog w = .ok x1 w := by kernel_rfl
theorem ix2 (x0 x1 x2 x3 x4 x5 x6 : Value) (w : World) : (Instr.index 125 (.agg #[x0, x1, x2, x3, x4, x5, x6]) (.int .i64 2)).run Try.prog w = .ok x2 w := by kernel_rfl
theorem ix3 (x0 x1 x2 x3 x4 x5 x6 : Value) (w : World) : (Instr.index 125 (.agg #[x0, x1, x2, x3, x4, x5, x6]) (.int .i64 3)).run Try.prog w = .ok x3 w := by kernel_rfl
theorem ix4 (x0 x1 x2 x3 x4 x5 x6 : Value) (w : World) : (Instr.index 125 (.agg #[x0, x1, x2, x3, x4, x5, x6]) (.int .i64 4)).run Try.prog w = .ok x4 w := by kernel_rfl
theorem ix5 (x0 x1 x2 x3 x4 x5 x6 : Value) (w : World) : (Instr.index 125 (.agg #[x0, x1, x2, x3, x4, x5, x6]) (.int .i64 5)).run Try.prog w = .ok x5 w := by kernel_rfl
theorem ix6 (x0 x1 x2 x3 x4 x5 x6 : Value) (w : World) : (Instr.index 125 (.agg #[x0, x1, x2, x3, x4, x5, x6]) (.int .i64 6)).run Try.prog w = .ok x6 w := by kernel_rfl
theorem size_setCell' (w : World) (p : Addr) (u : Value) : (w.setCell p u).heap.size = w.heap.size := by simp [World.setCell]

def SurAt (w : World) (b : Nat) (days : List Int) (lo : Int) (k : Nat) : Prop := (∀ j : Nat, j < 7 → w.cell? ⟨b, j, none⟩ = some (.int .i64 (sur days lo j k))) ∧ ∀ o, w.frozen? ⟨b, o, none⟩ = false
theorem surAt_new (w : World) (t : TypeId) (days : List Int) (lo : Int) : SurAt (w.alloc (.cells #[.int .i64 0, .int .i64 0, .int .i64 0, .int .i64 0, .int .i64 0, .int .i64 0, .int .i64 0] t)) w.heap.size days lo 0 := by
  refine ⟨fun j hj => ?_, fun o => by go_simp⟩
  rcases seven hj with rfl | rfl | rfl | rfl | rfl | rfl | rfl <;> simp only [sur] <;> go_simp
theorem surAt_set {w : World} {b : Nat} {days : List Int} {lo : Int} {k j : Nat} (hj : j < 7) (h : SurAt w b days lo k) (he : (lo + (k : Int)) % 7 = (j : Int)) (z : Int) (hz : sur days lo j (k + 1) = z) : SurAt (w.setCell ⟨b, j, none⟩ (.int .i64 z)) b days lo (k + 1) := by
  refine ⟨fun i hi => ?_, fun o => ?_⟩
  · by_cases e : i = j
    · subst e
      rw [set_same (h.1 i hi), hz]
    · rw [set_other (fun g => e g.symm), h.1 i hi, sur_other (by omega)]
  · simpa using h.2 o

set_option maxRecDepth 100000 in
set_option maxHeartbeats 4000000 in
theorem usualWeekdays_any (v : Value) (lo hi : Int) (days : List Int) (w : World) (hr : RowAt w v (ints days)) (hl : 0 ≤ lo ∧ lo ≤ hi ∧ hi ≤ 3650) (hs : days.Pairwise (· < ·)) (hn : days.length ≤ 1048576) :
    Calls Try.prog 68 #[.int .i64 lo, .int .i64 hi, v] w fun e w' => e = .returned (.int .i64 (fitW lo hi days)) ∧ Below w.heap.size w w' := by
  have HL := Lib.hid (fun W (h : Below w.heap.size w W) d => isListed_any v days d W (hr.below rfl h) hs hn)
  obtain ⟨a, c, rfl, _⟩ := ints_open hr
  clear hr hs
  obtain ⟨n1, n2, n3⟩ := hl
  go_enter Try.func68, Try.ntmps68
  go_wp2_with fail
  go_loopw [8] (fun i wr => ∃ k : Nat, i = .int .i64 (lo + (k : Int)) ∧ lo + (k : Int) ≤ hi + 1 ∧ Hid (SurAt wr w.heap.size days lo k) ∧ Hid (Below w.heap.size w wr) ∧ w.heap.size < wr.heap.size) (fun i _ => (3651 - RowKit.intOf i).toNat)
  case atStart => exact ⟨0, by simp, by omega, surAt_new w _ days lo, (Below.refl _ _).alloc (Nat.le_refl _) _, by simp⟩
  case round =>
    obtain ⟨k, rfl, hk, HS, HB, hz⟩ := hrel
    by_cases hlt : lo + (k : Int) ≤ hi
    rotate_left
    · have HE : Hid (fitN lo hi = k) := by show _ = _; unfold fitN; omega
      have c0 : wr.cell? ⟨w.heap.size, 0, none⟩ = some (.int .i64 (sur days lo 0 k)) := HS.out.1 0 (by omega)
      have c1 : wr.cell? ⟨w.heap.size, 1, none⟩ = some (.int .i64 (sur days lo 1 k)) := HS.out.1 1 (by omega)
      have c2 : wr.cell? ⟨w.heap.size, 2, none⟩ = some (.int .i64 (sur days lo 2 k)) := HS.out.1 2 (by omega)
      have c3 : wr.cell? ⟨w.heap.size, 3, none⟩ = some (.int .i64 (sur days lo 3 k)) := HS.out.1 3 (by omega)
      have c4 : wr.cell? ⟨w.heap.size, 4, none⟩ = some (.int .i64 (sur days lo 4 k)) := HS.out.1 4 (by omega)
      have c5 : wr.cell? ⟨w.heap.size, 5, none⟩ = some (.int .i64 (sur days lo 5 k)) := HS.out.1 5 (by omega)
      have c6 : wr.cell? ⟨w.heap.size, 6, none⟩ = some (.int .i64 (sur days lo 6 k)) := HS.out.1 6 (by omega)
      have hgt : hi < lo + (k : Int) := by omega
      clear hlt
      have i0 := fun w => ix0 (.int .i64 (sur days lo 0 k)) (.int .i64 (sur days lo 1 k)) (.int .i64 (sur days lo 2 k)) (.int .i64 (sur days lo 3 k)) (.int .i64 (sur days lo 4 k)) (.int .i64 (sur days lo 5 k)) (.int .i64 (sur days lo 6 k)) w
      have i1 := fun w => ix1 (.int .i64 (sur days lo 0 k)) (.int .i64 (sur days lo 1 k)) (.int .i64 (sur days lo 2 k)) (.int .i64 (sur days lo 3 k)) (.int .i64 (sur days lo 4 k)) (.int .i64 (sur days lo 5 k)) (.int .i64 (sur days lo 6 k)) w
      have i2 := fun w => ix2 (.int .i64 (sur days lo 0 k)) (.int .i64 (sur days lo 1 k)) (.int .i64 (sur days lo 2 k)) (.int .i64 (sur days lo 3 k)) (.int .i64 (sur days lo 4 k)) (.int .i64 (sur days lo 5 k)) (.int .i64 (sur days lo 6 k)) w
      have i3 := fun w => ix3 (.int .i64 (sur days lo 0 k)) (.int .i64 (sur days lo 1 k)) (.int .i64 (sur days lo 2 k)) (.int .i64 (sur days lo 3 k)) (.int .i64 (sur days lo 4 k)) (.int .i64 (sur days lo 5 k)) (.int .i64 (sur days lo 6 k)) w
      have i4 := fun w => ix4 (.int .i64 (sur days lo 0 k)) (.int .i64 (sur days lo 1 k)) (.int .i64 (sur days lo 2 k)) (.int .i64 (sur days lo 3 k)) (.int .i64 (sur days lo 4 k)) (.int .i64 (sur days lo 5 k)) (.int .i64 (sur days lo 6 k)) w
      have i5 := fun w => ix5 (.int .i64 (sur days lo 0 k)) (.int .i64 (sur days lo 1 k)) (.int .i64 (sur days lo 2 k)) (.int .i64 (sur days lo 3 k)) (.int .i64 (sur days lo 4 k)) (.int .i64 (sur days lo 5 k)) (.int .i64 (sur days lo 6 k)) w
      have i6 := fun w => ix6 (.int .i64 (sur days lo 0 k)) (.int .i64 (sur days lo 1 k)) (.int .i64 (sur days lo 2 k)) (.int .i64 (sur days lo 3 k)) (.int .i64 (sur days lo 4 k)) (.int .i64 (sur days lo 5 k)) (.int .i64 (sur days lo 6 k)) w
      go_wp2_with fail
      go_loop [9, 34] (fun u i => ∃ m : Nat, m ≤ 7 ∧ i = .int .i64 m ∧ u = .int .i64 (usu days lo k m)) (fun _ i => 7 - (RowKit.intOf i).toNat)
      case atStart => exact ⟨0, by omega, rfl, by simp [usu]⟩
      case round =>
        obtain ⟨m, hm, rfl, rfl⟩ := hrel
        by_cases hm7 : m < 7
        rotate_left
        · obtain rfl : m = 7 := by omega
          go_wp2_with fail
          go_ret
          exact ⟨ret_int (by rw [fitW, HE.out]), HB.out⟩
        obtain ⟨m1, HM1⟩ : ∃ m1 : Nat, Hid (m1 = m + 1) := ⟨_, rfl⟩
        have hm1 : m1 ≤ 7 := by have := HM1.out; omega
        by_cases hp : 0 < sur days lo m k
        · have hb := usu_bd days lo k m
          have HY : Hid (usu days lo k (m + 1) = bits .or .i64 (usu days lo k m) (2 ^ m)) := by show _ = _; rw [or_pow m hm7 _ hb.1 hb.2]; exact usu_yes hp
          clear hb
          rcases seven hm7 with rfl | rfl | rfl | rfl | rfl | rfl | rfl
          all_goals
            push_cast at hp
            go_wp2_with fail
            go_round
            case rel => exact ⟨m1, by omega, by rw [HM1.out]; go_num, by rw [HM1.out, HY.out]; rfl⟩
            case measure => simp [RowKit.intOf]
        · have HY : Hid (usu days lo k (m + 1) = usu days lo k m) := usu_no hp
          have hp' : sur days lo m k ≤ 0 := by omega
          clear hp
          rcases seven hm7 with rfl | rfl | rfl | rfl | rfl | rfl | rfl
          all_goals
            push_cast at hp'
            go_wp2_with fail
            go_round
            case rel => exact ⟨m1, by omega, by rw [HM1.out]; go_num, by rw [HM1.out, HY.out]⟩
            case measure => simp [RowKit.intOf]
    · have hd0 : 0 ≤ lo + (k : Int) := by omega
      have hd1 : lo + (k : Int) ≤ 3650 := by omega
      obtain ⟨j, hj7, HJ⟩ : ∃ j : Nat, j < 7 ∧ Hid ((lo + (k : Int)) % 7 = (j : Int)) := ⟨((lo + (k : Int)) % 7).toNat, by omega, by show _ = _; omega⟩
      have HW : Hid (∀ W : World, Calls Try.prog 103 #[.int .i64 (lo + (k : Int))] W fun e w' => e = .returned (.int .i64 (j : Int)) ∧ W = w') := fun W => by
        have := weekdayOf_any (lo + (k : Int)) W hd0 hd1
        rw [HJ.out] at this
        exact this
      have hc := HS.out.1 j hj7
      have hf := HS.out.2
      have HBd := Lib.hid (sur_bd days lo j k)
      by_cases hin : inB (lo + (k : Int)) days = true
      · have HZ := Lib.hid (sur_in HJ.out hin)
        go_wp2_with fail
        go_at_call 69
        refine (HL.out _ HB.out _).mono ?_
        rintro e w1 ⟨rfl, q, rfl⟩
        rw [hin]
        obtain ⟨s, HSs⟩ : ∃ s, Hid (s = sur days lo j k) := ⟨_, rfl⟩
        rw [← HSs.out] at hc
        have b0 : -3651 ≤ s := by have := HBd.out; rw [HSs.out]; omega
        have b1 : s ≤ 3651 := by have := HBd.out; rw [HSs.out]; omega
        go_wp2_with fail
        go_at_call 103
        refine (HW.out _).mono ?_
        rintro e w1 ⟨rfl, rfl⟩
        go_wp2_with fail
        go_roundw
        case rel => exact ⟨k + 1, by rw [show lo + ((k + 1 : Nat) : Int) = lo + (k : Int) + 1 by omega], by omega, surAt_set hj7 HS.out HJ.out _ (by rw [HZ.out, HSs.out]), (below_drewN HB.out q).setCell (p := ⟨w.heap.size, j, none⟩) (Nat.le_refl _) _, by rw [size_setCell']; exact hz⟩
        case measure => simp [RowKit.intOf]; omega
      · have hin' : inB (lo + (k : Int)) days = false := by simpa using hin
        have HZ := Lib.hid (sur_out HJ.out hin')
        go_wp2_with fail
        go_at_call 69
        refine (HL.out _ HB.out _).mono ?_
        rintro e w1 ⟨rfl, q, rfl⟩
        rw [hin']
        obtain ⟨s, HSs⟩ : ∃ s, Hid (s = sur days lo j k) := ⟨_, rfl⟩
        rw [← HSs.out] at hc
        have b0 : -3651 ≤ s := by have := HBd.out; rw [HSs.out]; omega
        have b1 : s ≤ 3651 := by have := HBd.out; rw [HSs.out]; omega
        go_wp2_with fail
        go_at_call 103
        refine (HW.out _).mono ?_
        rintro e w1 ⟨rfl, rfl⟩
        go_wp2_with fail
        go_roundw
        case rel => exact ⟨k + 1, by rw [show lo + ((k + 1 : Nat) : Int) = lo + (k : Int) + 1 by omega], by omega, surAt_set hj7 HS.out HJ.out _ (by rw [HZ.out, HSs.out]), (below_drewN HB.out q).setCell (p := ⟨w.heap.size, j, none⟩) (Nat.le_refl _) _, by rw [size_setCell']; exact hz⟩
        case measure => simp [RowKit.intOf]; omega
end Go.Proofs.Ytemejcbilhcebaa
