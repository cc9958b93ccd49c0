/-
  What spec.StopNumber and impl.StopNumber both return.
-/
import Derived.Test.YticmghmidnboaaaIsValidNetwork
namespace Go.Proofs.Yticmghmidnboaaa
open Go.RowKit
set_option linter.unusedVariables false

/-- the boxed network's two slices, for the walk -/
theorem net_open {w : World} {v : Value} {n : NetD} (h : NetAt w v n) : ∃ a c a' c', v = .agg #[.slice a n.stops.length c, .slice a' n.lines.length c'] ∧ RowAt w (.slice a n.stops.length c) (strs n.stops) ∧ LinesAt w (.slice a' n.lines.length c') n.lines := by
  obtain ⟨sv, lv, rfl, hss, hll⟩ := h
  obtain ⟨a, c, rfl, _⟩ := strs_open hss
  obtain ⟨a', c', rfl, _⟩ := lines_open hll
  exact ⟨a, c, a', c', rfl, hss, hll⟩

theorem indexStr_any (v : Value) (xs : List ByteArray) (name : ByteArray) (w : World) (hr : RowAt w v (strs xs)) :
    Calls Try.prog 101 #[v, .string name] w fun e w' => e = .returned (.int .i64 (fstIdx name xs)) ∧ w = w' := by
  obtain ⟨a, c, rfl, hc, hm, HC⟩ := strs_open hr
  clear hr
  go_enter Try.func101, Try.ntmps101
  go_wp2
  go_loop [8] (fun i => ∃ k : Nat, k ≤ xs.length ∧ i = .int .i64 k ∧ Hid (name ∉ xs.take k)) (fun i => xs.length - (RowKit.intOf i).toNat)
  case atStart => exact ⟨0, Nat.zero_le _, rfl, by show _ ∉ _; simp⟩
  case round =>
    obtain ⟨k, hk, rfl, HN⟩ := hrel
    by_cases hlt : k < xs.length
    · obtain ⟨b, off, rfl, _, hcx⟩ := HC.out k hlt
      by_cases he : xs[k] = name
      · have HF := Lib.hid (fstIdx_hit k hlt he HN.out)
        have hb : (name.toList == xs[k].toList) = true := by rw [bytes_eq]; simp [he]
        clear he
        generalize xs[k] = y at *
        go_wp2
        go_ret
        exact ⟨ret_int HF.out.symm, rfl⟩
      · have HN2 := Lib.hid (not_take_succ hlt HN.out he)
        have hb : (name.toList == xs[k].toList) = false := by rw [bytes_eq]; simp; exact fun e => he e.symm
        clear he
        generalize xs[k] = y at *
        go_wp2
        go_round
        case rel => exact ⟨k + 1, by omega, by go_num, HN2⟩
        case measure => simp [RowKit.intOf]; omega
    · have HF := Lib.hid (fstIdx_none (not_take_all (by omega) HN.out))
      go_wp2
      go_ret
      exact ⟨ret_int HF.out.symm, rfl⟩

theorem indexInt_any (v : Value) (xs : List Int) (x : Int) (w : World) (hr : RowAt w v (ints xs)) :
    Calls Try.prog 81 #[v, .int .i64 x] w fun e w' => e = .returned (.int .i64 (fstIdx x xs)) ∧ w = w' := by
  obtain ⟨a, c, rfl, hc, hm, HC⟩ := ints_open hr
  clear hr
  go_enter Try.func81, Try.ntmps81
  go_wp2
  go_loop [8] (fun i => ∃ k : Nat, k ≤ xs.length ∧ i = .int .i64 k ∧ Hid (x ∉ xs.take k)) (fun i => xs.length - (RowKit.intOf i).toNat)
  case atStart => exact ⟨0, Nat.zero_le _, rfl, by show _ ∉ _; simp⟩
  case round =>
    obtain ⟨k, hk, rfl, HN⟩ := hrel
    by_cases hlt : k < xs.length
    · obtain ⟨b, off, rfl, _, hcx⟩ := HC.out k hlt
      by_cases he : xs[k] = x
      · have HF := Lib.hid (fstIdx_hit k hlt he HN.out)
        have hb : (x == xs[k]) = true := by simp [he]
        clear he
        generalize xs[k] = y at *
        go_wp2
        go_ret
        exact ⟨ret_int HF.out.symm, rfl⟩
      · have HN2 := Lib.hid (not_take_succ hlt HN.out he)
        have hb : (x == xs[k]) = false := by simp; exact fun e => he e.symm
        clear he
        generalize xs[k] = y at *
        go_wp2
        go_round
        case rel => exact ⟨k + 1, by omega, by go_num, HN2⟩
        case measure => simp [RowKit.intOf]; omega
    · have HF := Lib.hid (fstIdx_none (not_take_all (by omega) HN.out))
      go_wp2
      go_ret
      exact ⟨ret_int HF.out.symm, rfl⟩

theorem foundAt_yes (r : Int) (w : World) (h : 0 ≤ r) : Calls Try.prog 83 #[.int .i64 r] w fun e w' => e = .returned (.tuple #[.int .i64 r, .bool true]) ∧ w = w' := by
  go_enter Try.func83, Try.ntmps83
  go_wp2
  go_ret2
  exact ⟨rfl, rfl⟩
theorem foundAt_no (r : Int) (w : World) (h : r < 0) : Calls Try.prog 83 #[.int .i64 r] w fun e w' => e = .returned (.tuple #[.int .i64 0, .bool false]) ∧ w = w' := by
  go_enter Try.func83, Try.ntmps83
  go_wp2
  go_ret2
  exact ⟨rfl, rfl⟩

/-- a place that may be none, as the functions return it -/
def FoundR (ok : Prop) (r : Int) (e : Ending) : Prop := (ok ∧ 0 ≤ r ∧ e = .returned (.tuple #[.int .i64 r, .bool true])) ∨ (¬ (ok ∧ 0 ≤ r) ∧ e = .returned (.tuple #[.int .i64 0, .bool false]))
theorem FoundR.both {P : Program} {f f' : FuncId} {A : Type} {args : A → Array Value} {R : A → World → Prop} {ok : Prop} {r : Int} (h : ∀ v w, R v w → Calls P f (args v) w fun e w' => FoundR ok r e ∧ Below w.heap.size w w') (h' : ∀ v w, R v w → Calls P f' (args v) w fun e w' => FoundR ok r e ∧ Below w.heap.size w w') :
    ∃ (q : Int) (b : Bool), ∀ v w, R v w → Calls P f (args v) w (fun e w' => e = .returned (.tuple #[.int .i64 q, .bool b]) ∧ Below w.heap.size w w') ∧ Calls P f' (args v) w (fun e w' => e = .returned (.tuple #[.int .i64 q, .bool b]) ∧ Below w.heap.size w w') := by
  by_cases hok : ok ∧ 0 ≤ r
  · refine ⟨r, true, fun v w g => ⟨(h v w g).mono fun e w' ⟨he, hw⟩ => ⟨?_, hw⟩, (h' v w g).mono fun e w' ⟨he, hw⟩ => ⟨?_, hw⟩⟩⟩
    all_goals
      rcases he with ⟨_, _, he⟩ | ⟨hn, _⟩
      · exact he
      · exact absurd hok hn
  · refine ⟨0, false, fun v w g => ⟨(h v w g).mono fun e w' ⟨he, hw⟩ => ⟨?_, hw⟩, (h' v w g).mono fun e w' ⟨he, hw⟩ => ⟨?_, hw⟩⟩⟩
    all_goals
      rcases he with ⟨h1, h2, _⟩ | ⟨_, he⟩
      · exact absurd ⟨h1, h2⟩ hok
      · exact he

theorem specStopNumber_any (v : Value) (n : NetD) (name : ByteArray) (w : World) (hr : NetAt w v n) (hf : NetFits n) :
    Calls Try.prog 47 #[v, .string name] w fun e w' => FoundR (NetGood n) (fstIdx name n.stops) e ∧ Below w.heap.size w w' := by
  have HG := Lib.hid (fun W (h : Below w.heap.size w W) => l2Good_any v n W (hr.below rfl h) hf)
  obtain ⟨a, c, a', c', rfl, hss, hll⟩ := net_open hr
  have HF := Lib.hid (fun W (h : Below w.heap.size w W) => l2Find_any _ n.stops name W (hss.below rfl h))
  clear hss hll hr
  by_cases hg : NetGood n
  · rw [netB_yes hg] at HG
    have HGo := Lib.hid hg
    clear hg
    go_enter Try.func47, Try.ntmps47
    go_wp2_with fail
    go_at_call 74
    refine (HG.out _ ((Below.refl _ _).alloc (Nat.le_refl _) _)).mono ?_
    rintro e w1 ⟨rfl, hb1⟩
    have HB1 : Hid (Below w.heap.size w w1) := ((Below.refl _ _).alloc (Nat.le_refl _) _).trans (hb1.mono (by simp))
    have p0 : w1.cell? ⟨w.heap.size, 0, none⟩ = some (.slice a n.stops.length c) := bkeep hb1 (by go_simp)
    clear hb1
    by_cases hi : fstIdx name n.stops < 0
    · go_wp2_with (go_at_call 100; refine (HF.out _ HB1.out).mono ?_; rintro e w2 ⟨rfl, rfl⟩)
      go_ret2
      exact ⟨.inr ⟨fun h => by omega, rfl⟩, HB1.out⟩
    · go_wp2_with (go_at_call 100; refine (HF.out _ HB1.out).mono ?_; rintro e w2 ⟨rfl, rfl⟩)
      go_ret2
      exact ⟨.inl ⟨HGo.out, by omega, rfl⟩, HB1.out⟩
  · rw [netB_no hg] at HG
    have HGo := Lib.hid hg
    clear hg
    go_enter Try.func47, Try.ntmps47
    go_wp2_with fail
    go_at_call 74
    refine (HG.out _ ((Below.refl _ _).alloc (Nat.le_refl _) _)).mono ?_
    rintro e w1 ⟨rfl, hb1⟩
    go_wp2_with fail
    go_ret2
    exact ⟨.inr ⟨fun h => HGo.out h.1, rfl⟩, ((Below.refl _ _).alloc (Nat.le_refl _) _).trans (hb1.mono (by simp))⟩

theorem implStopNumber_any (v : Value) (n : NetD) (name : ByteArray) (w : World) (hr : NetAt w v n) (hf : NetFits n) :
    Calls Try.prog 48 #[v, .string name] w fun e w' => FoundR (NetGood n) (fstIdx name n.stops) e ∧ Below w.heap.size w w' := by
  have HG := Lib.hid (fun W (h : Below w.heap.size w W) => implValid_any v n W (hr.below rfl h) hf)
  obtain ⟨a, c, a', c', rfl, hss, hll⟩ := net_open hr
  have HF := Lib.hid (fun W (h : Below w.heap.size w W) => indexStr_any _ n.stops name W (hss.below rfl h))
  clear hss hll hr
  by_cases hg : NetGood n
  · rw [netB_yes hg] at HG
    have HGo := Lib.hid hg
    clear hg
    go_enter Try.func48, Try.ntmps48
    go_wp2_with fail
    go_at_call 29
    refine (HG.out _ ((Below.refl _ _).alloc (Nat.le_refl _) _)).mono ?_
    rintro e w1 ⟨rfl, hb1⟩
    have HB1 : Hid (Below w.heap.size w w1) := ((Below.refl _ _).alloc (Nat.le_refl _) _).trans (hb1.mono (by simp))
    have p0 : w1.cell? ⟨w.heap.size, 0, none⟩ = some (.slice a n.stops.length c) := bkeep hb1 (by go_simp)
    clear hb1
    by_cases hi : fstIdx name n.stops < 0
    · go_wp2_with (first | (go_at_call 101; refine (HF.out _ HB1.out).mono ?_; rintro e w2 ⟨rfl, rfl⟩) | (go_at_call 83; refine (foundAt_no _ _ hi).mono ?_; rintro e w2 ⟨rfl, rfl⟩))
      go_ret2
      exact ⟨.inr ⟨fun h => by omega, rfl⟩, HB1.out⟩
    · have hi' : 0 ≤ fstIdx name n.stops := by omega
      clear hi
      go_wp2_with (first | (go_at_call 101; refine (HF.out _ HB1.out).mono ?_; rintro e w2 ⟨rfl, rfl⟩) | (go_at_call 83; refine (foundAt_yes _ _ hi').mono ?_; rintro e w2 ⟨rfl, rfl⟩))
      go_ret2
      exact ⟨.inl ⟨HGo.out, hi', rfl⟩, HB1.out⟩
  · rw [netB_no hg] at HG
    have HGo := Lib.hid hg
    clear hg
    go_enter Try.func48, Try.ntmps48
    go_wp2_with fail
    go_at_call 29
    refine (HG.out _ ((Below.refl _ _).alloc (Nat.le_refl _) _)).mono ?_
    rintro e w1 ⟨rfl, hb1⟩
    go_wp2_with fail
    go_ret2
    exact ⟨.inr ⟨fun h => HGo.out h.1, rfl⟩, ((Below.refl _ _).alloc (Nat.le_refl _) _).trans (hb1.mono (by simp))⟩

theorem bothStopNumber (n : NetD) (hf : NetFits n) (hs : NetSmall n) (name : ByteArray) (w1 : name.size ≤ maxLen) : ∃ (r : Int) (b : Bool), ∀ (v : Value) (w : World), NetAt w v n →
    Calls Try.prog 47 #[v, .string name] w (fun e w' => e = .returned (.tuple #[.int .i64 r, .bool b]) ∧ Below w.heap.size w w') ∧ Calls Try.prog 48 #[v, .string name] w (fun e w' => e = .returned (.tuple #[.int .i64 r, .bool b]) ∧ Below w.heap.size w w') :=
  FoundR.both (args := fun v => #[v, .string name]) (R := fun v w => NetAt w v n) (fun v w h => specStopNumber_any v n name w h hf) (fun v w h => implStopNumber_any v n name w h hf)
end Go.Proofs.Yticmghmidnboaaa
