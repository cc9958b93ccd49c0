/-
  CONTRACTS: spec.l4Parse, spec.ParseTime, impl.ofDigits, impl.ParseTime: the time whose text a string is, if there is one.
-/
import Derived.Test.YtenbplehiaofmaaTimeImpl
namespace Go.Proofs.Ytenbplehiaofmaa
open Go.RowKit
set_option linter.unusedVariables false

theorem str_ne_no {a b : ByteArray} (h : a = b) : (a.toList == b.toList) = true := by subst h; simp
theorem str_ne_yes {a b : ByteArray} (h : a ≠ b) : (a.toList == b.toList) = false := by
  rw [Bool.eq_false_iff]
  intro g
  have e := eq_of_beq g
  rw [Go.ByteArray.toList_eq, Go.ByteArray.toList_eq] at e
  exact h (by cases a; cases b; simp at e; rw [e])

theorem ofDigits_any (x y : UInt8) (w : World) : Calls Try.prog 57 #[.int .u8 (x.toNat : Int), .int .u8 (y.toNat : Int)] w fun e w' => e = .returned (.int .i64 (((x.toNat + 208) % 256 * 10 + (y.toNat + 208) % 256 : Nat) : Int)) ∧ ∃ m, w' = w.drewN m := by
  have hx := x.toNat_lt
  have hy := y.toNat_lt
  generalize x.toNat = a at *
  generalize y.toNat = b at *
  have e1 : IntKind.u8.wrap ((a : Int) - 48) = (((a + 208) % 256 : Nat) : Int) := by rw [IntKind.wrap_u8]; omega
  have e2 : IntKind.u8.wrap ((b : Int) - 48) = (((b + 208) % 256 : Nat) : Int) := by rw [IntKind.wrap_u8]; omega
  have h1 : (a + 208) % 256 < 256 := by omega
  have h2 : (b + 208) % 256 < 256 := by omega
  generalize (a + 208) % 256 = p at *
  generalize (b + 208) % 256 = q at *
  go_enter Try.func57, Try.ntmps57
  go_wp2_with fail
  go_ret
  exact ⟨rfl, 0, rfl⟩

/-- the number that the program makes of five bytes -/
def implT (s : ByteArray) (h : s.size = 5) : Nat := ((s[0].toNat + 208) % 256 * 10 + (s[1].toNat + 208) % 256) * 60 + ((s[3].toNat + 208) % 256 * 10 + (s[4].toNat + 208) % 256)
theorem implT_of {s : ByteArray} {t : Nat} (h : ReadsAs s t) (h5 : s.size = 5) : implT s h5 = t := by
  obtain ⟨b0, b1, b3, b4⟩ := h.bytes h5
  unfold implT
  rw [b0, b1, b3, b4]
  have := digs_of h.1
  omega

/-- what the program asks at the end -/
theorem reads_ways {s : ByteArray} (x : Int) : (TimeOk x ∧ ReadsAs s x.toNat) ∨ (TimeOk x ∧ timeC x.toNat ≠ s) ∨ ¬ TimeOk x := by
  by_cases h : TimeOk x
  · by_cases h2 : timeC x.toNat = s
    · exact .inl ⟨h, by unfold TimeOk at h; omega, h2.symm⟩
    · exact .inr (.inl ⟨h, h2⟩)
  · exact .inr (.inr h)

theorem implParse_size (s : ByteArray) (w : World) (hs : s.size ≤ maxLen) (h5 : s.size ≠ 5) : Calls Try.prog 28 #[.string s] w fun e w' => e = .returned (.tuple #[.int .i64 0, .bool false]) ∧ Below w.heap.size w w' := by
  unfold maxLen at hs
  go_enter Try.func28, Try.ntmps28
  go_wp2_with fail
  go_ret2
  exact ⟨rfl, Below.refl _ _⟩
theorem implParse_five (s : ByteArray) (w : World) (h5 : s.size = 5) : Calls Try.prog 28 #[.string s] w fun e w' => e = .returned (.tuple (if TimeOk (implT s h5) ∧ ReadsAs s (implT s h5) then #[.int .i64 (implT s h5), .bool true] else #[.int .i64 0, .bool false])) ∧ Below w.heap.size w w' := by
  have H1 := Lib.hid (fun W => ofDigits_any s[0] s[1] W)
  have H2 := Lib.hid (fun W => ofDigits_any s[3] s[4] W)
  have hT : implT s h5 = ((s[0].toNat + 208) % 256 * 10 + (s[1].toNat + 208) % 256) * 60 + ((s[3].toNat + 208) % 256 * 10 + (s[4].toNat + 208) % 256) := rfl
  have b0 : (s[0].toNat + 208) % 256 * 10 + (s[1].toNat + 208) % 256 < 3000 := by omega
  have b3 : (s[3].toNat + 208) % 256 * 10 + (s[4].toNat + 208) % 256 < 3000 := by omega
  generalize (s[0].toNat + 208) % 256 * 10 + (s[1].toNat + 208) % 256 = x at *
  generalize (s[3].toNat + 208) % 256 * 10 + (s[4].toNat + 208) % 256 = y at *
  rw [hT]
  clear hT
  have e : ((x : Int) * 60 + (y : Int)) = ((x * 60 + y : Nat) : Int) := by push_cast; rfl
  rcases reads_ways (s := s) ((x * 60 + y : Nat) : Int) with ⟨h1, h2⟩ | ⟨h1, h2⟩ | h1
  · rw [Int.toNat_natCast] at h2
    rw [if_pos ⟨h1, h2⟩]
    have HF : Hid (∀ W, Calls Try.prog 26 #[.int .i64 ((x : Int) * 60 + (y : Int))] W fun e w' => e = .returned (.tuple #[.string (timeC (x * 60 + y)), .bool true]) ∧ Below W.heap.size W w') := fun W => by
      have := implFormatTime_any ((x : Int) * 60 + (y : Int)) W
      rwa [e, timeB_yes h1, if_pos h1, Int.toNat_natCast, ← e] at this
    have hne := str_ne_no h2.2.symm
    clear h1 h2 e
    generalize timeC (x * 60 + y) = tx at *
    go_enter Try.func28, Try.ntmps28
    go_wp2_with fail
    go_quiet ((go_at_call 57; exact Calls.quiet_of (H1.out _)))
    have HB1 : Hid (Below w.heap.size w (w.drewN nq)) := Dr.below ⟨_, rfl⟩
    generalize w.drewN nq = w1 at *
    go_wp2_with fail
    go_quiet ((go_at_call 57; exact Calls.quiet_of (H2.out _)))
    have HB2 : Hid (Below w.heap.size w (w1.drewN nq)) := HB1.out.trans ((show Below w1.heap.size w1 (w1.drewN nq) from Dr.below ⟨_, rfl⟩).mono HB1.out.size)
    generalize w1.drewN nq = w2 at *
    clear HB1
    go_wp2_with fail
    go_at_call 26
    refine (HF.out _).mono ?_
    rintro e w3 ⟨rfl, hb⟩
    have HB3 : Hid (Below w.heap.size w w3) := HB2.out.trans (hb.mono HB2.out.size)
    clear hb
    go_wp2_with fail
    go_ret2
    exact ⟨by first | rfl | (push_cast; rfl), HB3.out⟩
  · rw [Int.toNat_natCast] at h2
    rw [if_neg (fun g => h2 g.2.2.symm)]
    have HF : Hid (∀ W, Calls Try.prog 26 #[.int .i64 ((x : Int) * 60 + (y : Int))] W fun e w' => e = .returned (.tuple #[.string (timeC (x * 60 + y)), .bool true]) ∧ Below W.heap.size W w') := fun W => by
      have := implFormatTime_any ((x : Int) * 60 + (y : Int)) W
      rwa [e, timeB_yes h1, if_pos h1, Int.toNat_natCast, ← e] at this
    have hne := str_ne_yes h2
    clear h1 h2 e
    generalize timeC (x * 60 + y) = tx at *
    go_enter Try.func28, Try.ntmps28
    go_wp2_with fail
    go_quiet ((go_at_call 57; exact Calls.quiet_of (H1.out _)))
    have HB1 : Hid (Below w.heap.size w (w.drewN nq)) := Dr.below ⟨_, rfl⟩
    generalize w.drewN nq = w1 at *
    go_wp2_with fail
    go_quiet ((go_at_call 57; exact Calls.quiet_of (H2.out _)))
    have HB2 : Hid (Below w.heap.size w (w1.drewN nq)) := HB1.out.trans ((show Below w1.heap.size w1 (w1.drewN nq) from Dr.below ⟨_, rfl⟩).mono HB1.out.size)
    generalize w1.drewN nq = w2 at *
    clear HB1
    go_wp2_with fail
    go_at_call 26
    refine (HF.out _).mono ?_
    rintro e w3 ⟨rfl, hb⟩
    have HB3 : Hid (Below w.heap.size w w3) := HB2.out.trans (hb.mono HB2.out.size)
    clear hb
    go_wp2_with fail
    go_ret2
    exact ⟨by first | rfl | (push_cast; rfl), HB3.out⟩
  · rw [if_neg (fun g => h1 g.1)]
    have HF : Hid (∀ W, Calls Try.prog 26 #[.int .i64 ((x : Int) * 60 + (y : Int))] W fun e w' => e = .returned (.tuple #[.string ⟨#[]⟩, .bool false]) ∧ Below W.heap.size W w') := fun W => by
      have := implFormatTime_any ((x : Int) * 60 + (y : Int)) W
      rwa [e, timeB_no h1, if_neg h1, ← e] at this
    clear h1 e
    go_enter Try.func28, Try.ntmps28
    go_wp2_with fail
    go_quiet ((go_at_call 57; exact Calls.quiet_of (H1.out _)))
    have HB1 : Hid (Below w.heap.size w (w.drewN nq)) := Dr.below ⟨_, rfl⟩
    generalize w.drewN nq = w1 at *
    go_wp2_with fail
    go_quiet ((go_at_call 57; exact Calls.quiet_of (H2.out _)))
    have HB2 : Hid (Below w.heap.size w (w1.drewN nq)) := HB1.out.trans ((show Below w1.heap.size w1 (w1.drewN nq) from Dr.below ⟨_, rfl⟩).mono HB1.out.size)
    generalize w1.drewN nq = w2 at *
    clear HB1
    go_wp2_with fail
    go_at_call 26
    refine (HF.out _).mono ?_
    rintro e w3 ⟨rfl, hb⟩
    have HB3 : Hid (Below w.heap.size w w3) := HB2.out.trans (hb.mono HB2.out.size)
    clear hb
    go_wp2_with fail
    go_ret2
    exact ⟨by first | rfl | (push_cast; rfl), HB3.out⟩

/-- the number that the model makes of five bytes -/
def specT (s : ByteArray) (h : s.size = 5) : Int := (((s[0].toNat : Int) - 48) * 10 + (s[1].toNat : Int) - 48) * 60 + ((s[3].toNat : Int) - 48) * 10 + (s[4].toNat : Int) - 48
theorem specT_of {s : ByteArray} {t : Nat} (h : ReadsAs s t) (h5 : s.size = 5) : specT s h5 = (t : Int) := by
  obtain ⟨b0, b1, b3, b4⟩ := h.bytes h5
  unfold specT
  rw [b0, b1, b3, b4]
  have := digs_of h.1
  omega
theorem specParse_size (s : ByteArray) (w : World) (hs : s.size ≤ maxLen) (h5 : s.size ≠ 5) : Calls Try.prog 56 #[.string s] w fun e w' => e = .returned (.tuple #[.int .i64 0, .bool false]) ∧ Below w.heap.size w w' := by
  unfold maxLen at hs
  go_enter Try.func56, Try.ntmps56
  go_wp2_with fail
  go_ret2
  exact ⟨rfl, Below.refl _ _⟩
set_option maxRecDepth 100000 in
set_option maxHeartbeats 1000000 in
theorem specParse_five (s : ByteArray) (w : World) (h5 : s.size = 5) : Calls Try.prog 56 #[.string s] w fun e w' => e = .returned (.tuple (if TimeOk (specT s h5) ∧ ReadsAs s (specT s h5).toNat then #[.int .i64 (specT s h5), .bool true] else #[.int .i64 0, .bool false])) ∧ Below w.heap.size w w' := by
  have hT : specT s h5 = (((s[0].toNat : Int) - 48) * 10 + (s[1].toNat : Int) - 48) * 60 + ((s[3].toNat : Int) - 48) * 10 + (s[4].toNat : Int) - 48 := rfl
  have b0 := s[0].toNat_lt
  have b1 := s[1].toNat_lt
  have b3 := s[3].toNat_lt
  have b4 := s[4].toNat_lt
  have HX := Lib.hid (fun t W => l4Time_any t W)
  have hw : -10000000 < specT s h5 ∧ specT s h5 < 10000000 := by rw [hT]; omega
  clear HX
  rcases reads_ways (s := s) (specT s h5) with ⟨h1, h2⟩ | ⟨h1, h2⟩ | h1
  · rw [if_pos ⟨h1, h2⟩]
    have HX := Lib.hid (fun W => l4Time_any (specT s h5) W)
    rw [timeB_yes h1] at HX
    have HTx : Hid (∀ W, Calls Try.prog 54 #[.int .i64 (specT s h5)] W fun e w' => e = .returned (.string (timeC (specT s h5).toNat)) ∧ Below W.heap.size W w') := fun W => by
      have := l4Text_any (specT s h5).toNat W (by unfold TimeOk at h1; omega)
      rwa [Int.toNat_of_nonneg h1.1] at this
    have hne := str_ne_no h2.2.symm
    clear h1 h2
    generalize timeC (specT s h5).toNat = tx at *
    rw [hT] at *
    clear hT hw
    go_enter Try.func56, Try.ntmps56
    go_wp2_with fail
    go_quiet (fail)
    have HB1 : Hid (Below w.heap.size w (w.drewN nq)) := Dr.below ⟨_, rfl⟩
    generalize w.drewN nq = w1 at *
    go_wp2_with (first | (go_at_call 53; refine (HX.out _).mono ?_; rintro e w' ⟨rfl, rfl⟩) | (go_at_call 54; refine (HTx.out _).mono ?_; rintro e w2 ⟨rfl, hb⟩))
    go_ret2
    exact ⟨rfl, HB1.out.trans (hb.mono HB1.out.size)⟩
  · rw [if_neg (fun g => h2 g.2.2.symm)]
    have HX := Lib.hid (fun W => l4Time_any (specT s h5) W)
    rw [timeB_yes h1] at HX
    have HTx : Hid (∀ W, Calls Try.prog 54 #[.int .i64 (specT s h5)] W fun e w' => e = .returned (.string (timeC (specT s h5).toNat)) ∧ Below W.heap.size W w') := fun W => by
      have := l4Text_any (specT s h5).toNat W (by unfold TimeOk at h1; omega)
      rwa [Int.toNat_of_nonneg h1.1] at this
    have hne := str_ne_yes h2
    clear h1 h2
    generalize timeC (specT s h5).toNat = tx at *
    rw [hT] at *
    clear hT hw
    go_enter Try.func56, Try.ntmps56
    go_wp2_with fail
    go_quiet (fail)
    have HB1 : Hid (Below w.heap.size w (w.drewN nq)) := Dr.below ⟨_, rfl⟩
    generalize w.drewN nq = w1 at *
    go_wp2_with (first | (go_at_call 53; refine (HX.out _).mono ?_; rintro e w' ⟨rfl, rfl⟩) | (go_at_call 54; refine (HTx.out _).mono ?_; rintro e w2 ⟨rfl, hb⟩))
    go_ret2
    exact ⟨rfl, HB1.out.trans (hb.mono HB1.out.size)⟩
  · rw [if_neg (fun g => h1 g.1)]
    have HX := Lib.hid (fun W => l4Time_any (specT s h5) W)
    rw [timeB_no h1] at HX
    clear h1
    rw [hT] at *
    clear hT hw
    go_enter Try.func56, Try.ntmps56
    go_wp2_with fail
    go_quiet (fail)
    have HB1 : Hid (Below w.heap.size w (w.drewN nq)) := Dr.below ⟨_, rfl⟩
    generalize w.drewN nq = w1 at *
    go_wp2_with (go_at_call 53; refine (HX.out _).mono ?_; rintro e w' ⟨rfl, rfl⟩)
    go_ret2
    exact ⟨rfl, HB1.out⟩

theorem specParseTime_of {s : ByteArray} {r : Value} {w : World} (h : Calls Try.prog 56 #[.string s] w fun e w' => e = .returned r ∧ Below w.heap.size w w') (x : Int) (b : Bool) (hr : r = .tuple #[.int .i64 x, .bool b]) :
    Calls Try.prog 27 #[.string s] w fun e w' => e = .returned (.tuple #[.int .i64 x, .bool b]) ∧ Below w.heap.size w w' := by
  subst hr
  have H := Lib.hid h
  clear h
  go_enter Try.func27, Try.ntmps27
  go_wp2_with (go_at_call 56; refine H.out.mono ?_; rintro e w' ⟨rfl, hb⟩)
  go_ret2
  exact ⟨rfl, hb⟩

theorem bothParseTime (s : ByteArray) (hs : s.size ≤ maxLen) : ∃ (r : Int) (b : Bool), ∀ w : World, (Calls Try.prog 27 #[.string s] w fun e w' => e = .returned (.tuple #[.int .i64 r, .bool b]) ∧ Below w.heap.size w w') ∧
    Calls Try.prog 28 #[.string s] w fun e w' => e = .returned (.tuple #[.int .i64 r, .bool b]) ∧ Below w.heap.size w w' := by
  by_cases h5 : s.size = 5
  · by_cases h : ∃ t, ReadsAs s t
    · obtain ⟨t, ht⟩ := h
      refine ⟨(t : Int), true, fun w => ⟨specParseTime_of (specParse_five s w h5) _ _ ?_, (implParse_five s w h5).mono fun e w' ⟨he, hw⟩ => ⟨he.trans ?_, hw⟩⟩⟩
      · rw [specT_of ht h5, Int.toNat_natCast, if_pos ⟨⟨by omega, by have := ht.1; omega⟩, ht⟩]
      · rw [implT_of ht h5, if_pos ⟨⟨by omega, by have := ht.1; omega⟩, ht⟩]
    · refine ⟨0, false, fun w => ⟨specParseTime_of (specParse_five s w h5) _ _ ?_, (implParse_five s w h5).mono fun e w' ⟨he, hw⟩ => ⟨he.trans ?_, hw⟩⟩⟩
      · rw [if_neg fun g => h ⟨_, g.2⟩]
      · rw [if_neg fun g => h ⟨_, g.2⟩]
  · exact ⟨0, false, fun w => ⟨specParseTime_of (specParse_size s w hs h5) _ _ rfl, implParse_size s w hs h5⟩⟩
end Go.Proofs.Ytenbplehiaofmaa
