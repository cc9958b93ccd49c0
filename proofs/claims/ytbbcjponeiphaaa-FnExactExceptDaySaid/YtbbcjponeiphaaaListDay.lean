/-
  CONTRACT: impl.listDay: an ascending list with or without one day, in new memory.
-/
import Derived.Test.YtbbcjponeiphaaaInsert
import Derived.Test.YtbbcjponeiphaaaExcP
namespace Go.Proofs.Ytbbcjponeiphaaa
open Go.RowKit
set_option linter.unusedVariables false

theorem Clone_any (v : Value) (xs : List Int) (w : World) (hr : RowAt w v (ints xs)) (hl : xs.length ≤ 1048576) :
    Calls Try.prog 150 #[v] w fun e w' => ∃ v', e = .returned v' ∧ w'.ownsRow w.heap.size 3 1 v' xs.length (ints xs) ∧ Below w.heap.size w w' := by
  obtain ⟨a, c, rfl, hc, hm, HC⟩ := ints_open hr
  cases a with
  | none =>
    have h0 : xs = [] := by
      cases xs with
      | nil => rfl
      | cons x l => obtain ⟨b, off, h, _⟩ := HC.out 0 (by simp); simp at h
    subst h0
    exact (Try.slices_Clone_int_nil 0 c w).mono fun e w' ⟨he, hw⟩ => ⟨_, he, by rw [hw]; exact World.ownsRow_nil _ _ _ _, by rw [hw]; exact Below.refl _ _⟩
  | some ad =>
    cases xs with
    | nil => exact (Try.slices_Clone_int_zero ad c w).mono fun e w' ⟨v', he, ho, _, hb⟩ => ⟨v', he, ho, hb⟩
    | cons x l =>
      obtain ⟨b, off, hab, _, _⟩ := HC.out 0 (by simp)
      obtain rfl : ad = ⟨b, off, none⟩ := by simpa using hab
      have := Try.slices_Clone_int b off (x :: l).length c (x :: l) w (Nat.le_refl _) (by omega) (fun j hj => by
        obtain ⟨b', off', hab, _, hcx⟩ := HC.out j hj
        obtain ⟨rfl, rfl⟩ : b = b' ∧ off = off' := by simpa using hab
        simpa [List.getD, List.getElem?_eq_getElem hj] using hcx)
      rw [List.take_length] at this
      exact this.mono fun e w' ⟨v', he, ho, _, hb⟩ => ⟨v', he, ho, hb⟩

theorem Search_any (v : Value) (xs : List Int) (d : Int) (w : World) (hr : RowAt w v (ints xs)) (hs : xs.Pairwise (· < ·)) (hl : xs.length ≤ 1048576) :
    Calls Try.prog 151 #[v, .int .i64 d] w fun e w' => e = .returned (.tuple #[.int .i64 ((xs.countP (· < d) : Nat) : Int), .bool (inB d xs)]) ∧ ∃ q, w' = w.drewN q := by
  obtain ⟨a, c, rfl, hc, hm, HC⟩ := ints_open hr
  cases xs with
  | nil => exact (Try.slices_BinarySearch_int_empty a c d w).mono fun e w' ⟨he, hw⟩ => ⟨he, 0, hw⟩
  | cons x l =>
    obtain ⟨b, off, rfl, _, _⟩ := HC.out 0 (by simp)
    have := Try.slices_BinarySearch_int b off (x :: l).length c (x :: l) d w (Nat.le_refl _) (by omega) (fun j hj => by
      obtain ⟨b', off', hab, _, hcx⟩ := HC.out j hj
      obtain ⟨rfl, rfl⟩ : b = b' ∧ off = off' := by simpa using hab
      simpa [List.getD, List.getElem?_eq_getElem hj] using hcx) (by rw [List.take_length]; exact hs.imp (fun h => Int.le_of_lt h))
    have e : (x :: l).contains d = inB d (x :: l) := by rw [Bool.eq_iff_iff, inB_iff]; simp
    rw [List.take_length, e] at this
    exact this

set_option maxHeartbeats 1000000 in
theorem listDay_any (v : Value) (xs : List Int) (d : Int) (b : Bool) (w : World) (hr : RowAt w v (ints xs)) (hs : xs.Pairwise (· < ·)) (hl : xs.length ≤ 1048576) :
    Calls Try.prog 95 #[v, .int .i64 d, .bool b] w fun e w' => ∃ v', e = .returned v' ∧ IntsIn w.heap.size w'.heap.size w' v' (exL xs d b) ∧ Below w.heap.size w w' := by
  have HCl := Lib.hid (Clone_any v xs w hr hl)
  obtain ⟨a, c, rfl, _⟩ := ints_open hr
  have HS := Lib.hid hs
  have hk0 : xs.countP (· < d) ≤ xs.length := List.countP_le_length
  clear hr hs
  go_enter Try.func95, Try.ntmps95
  go_wp2_with fail
  go_at_call 150
  refine HCl.out.mono ?_
  rintro e w1 ⟨v1, rfl, ho1, hb1⟩
  obtain ⟨a1, c1, rfl⟩ := own_shape ho1
  have HSe := Lib.hid (Search_any _ xs d w1 (rowAt_own ho1) HS.out hl)
  have HO1 := Lib.hid ho1
  have HB1 := Lib.hid hb1
  have hz1 : w.heap.size ≤ w1.heap.size := hb1.size
  clear ho1 hb1
  obtain ⟨k, HK⟩ : ∃ k, Hid (k = xs.countP (· < d)) := ⟨_, rfl⟩
  have hk : k ≤ xs.length := by rw [HK.out]; exact hk0
  clear hk0
  rw [← HK.out] at HSe
  go_wp2_with fail
  go_at_call 151
  refine HSe.out.mono ?_
  rintro e w2 ⟨rfl, q, hq⟩
  have hb2 : Below w1.heap.size w1 w2 := by rw [hq]; exact below_drewN (Below.refl _ _) q
  have HO2 := Lib.hid (own_later HO1.out hb2)
  have HB2 : Hid (Below w.heap.size w w2) := HB1.out.trans (hb2.mono hz1)
  have hz2 : w.heap.size ≤ w2.heap.size := by have := hb2.size; omega
  clear hb2 hq HSe
  by_cases hin : d ∈ xs
  · have HI := Lib.hid (inB_yes hin)
    cases b with
    | true =>
      have HE := Lib.hid (exL_have HS.out hin)
      clear hin
      rw [HI.out]
      go_wp2_with fail
      go_ret
      exact ⟨_, rfl, by rw [HE.out]; exact IntsIn.mk HO2.out, HB2.out⟩
    | false =>
      have HE := Lib.hid (exL_cut HS.out hin)
      rw [← HK.out] at HE
      have HD := Lib.hid (Delete_own _ xs k w.heap.size w2 HO2.out HE.out.1)
      have hk1 : k < xs.length := HE.out.1
      clear hin
      rw [HI.out]
      go_wp2_with fail
      go_at_call 153
      refine HD.out.mono ?_
      rintro e w3 ⟨v3, rfl, ho3, _, hb3⟩
      go_wp2_with fail
      go_ret
      refine ⟨_, rfl, ?_, HB2.out.trans hb3⟩
      rw [← HE.out.2]
      exact IntsIn.mk (by rw [show (xs.take k ++ xs.drop (k + 1)).length = xs.length - 1 by simp; omega]; exact ho3)
  · have HI := Lib.hid (inB_no hin)
    cases b with
    | false =>
      have HE := Lib.hid (exL_none HS.out hin)
      clear hin
      rw [HI.out]
      go_wp2_with fail
      go_ret
      exact ⟨_, rfl, by rw [HE.out]; exact IntsIn.mk HO2.out, HB2.out⟩
    | true =>
      have HE := Lib.hid (exL_add HS.out hin)
      rw [← HK.out] at HE
      have HIn := Lib.hid (Insert_own _ xs d k w.heap.size w2.heap.size (w2.alloc (.cells #[.int .i64 d] 3)) (own_later HO2.out ((Below.refl _ _).alloc (Nat.le_refl _) _)) hk (fullRow_alloc0 w2 _) (fun e => by have := (HO2.out.lt _ e).2; omega) (by simp; omega) hl)
      clear hin
      rw [HI.out]
      go_wp2_with fail
      go_at_call 152
      refine HIn.out.mono ?_
      rintro e w3 ⟨v3, rfl, ho3, _, hb3⟩
      go_wp2_with fail
      go_ret
      refine ⟨_, rfl, ?_, (HB2.out.alloc (by omega) _).trans hb3⟩
      rw [← HE.out]
      exact IntsIn.mk (by rw [show (xs.take k ++ d :: xs.drop k).length = xs.length + 1 by simp; omega]; exact ho3)
end Go.Proofs.Ytbbcjponeiphaaa
