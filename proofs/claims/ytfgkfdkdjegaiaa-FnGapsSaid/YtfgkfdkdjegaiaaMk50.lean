/-
  JOINED TEXTS, each under its own namespace line: Unevenness, RInts, GapsFact.
-/
import Derived.Test.YtfgkfdkdjegaiaaEvenTimes
import Derived.Test.YtfgkfdkdjegaiaaSquares
import Derived.Test.YtfgkfdkdjegaiaaDrawPass
namespace Go.Proofs.Ytfgkfdkdjegaiaa
open Go.RowKit
set_option linter.unusedVariables false
set_option linter.unusedSimpArgs false

theorem unB_ev (n : NetD) (p : Int) (xs : List PatternD) (stop : Int) : unB n p xs stop = evB ((prF n p xs stop).length : Int) p := by
  cases hs : servB n p xs stop with
  | false =>
    have := servB_no hs
    rw [gpF_len] at this
    have h2 : evB ((prF n p xs stop).length : Int) p = false := evB_no (fun h => by omega)
    rw [h2]; unfold unB; rw [hs]; rfl
  | true =>
    have h1 := servB_yes hs
    have h2 := prF_p h1
    unfold unB evB
    rw [hs]
    have e1 : decide (1 ≤ p ∧ p ≤ 60) = true := decide_eq_true h2
    rw [e1]
    simp only [Bool.true_and]
    congr 1
    simp; omega
theorem unF_yes {n : NetD} {p : Int} {xs : List PatternD} {stop : Int} (h : unB n p xs stop = true) : unF n p xs stop = sqs (gpF n p xs stop) - sqs (gaps (evenL (prF n p xs stop).length p) p) := by unfold unF; rw [h]; rfl
theorem unF_no {n : NetD} {p : Int} {xs : List PatternD} {stop : Int} (h : unB n p xs stop = false) : unF n p xs stop = 0 := by unfold unF; rw [h]; rfl
theorem even_good {c : Nat} {p : Int} (hp : 1 ≤ p ∧ p ≤ 60) : (∀ x ∈ evenL c p, 0 ≤ x ∧ x ≤ 60) ∧ (∀ x ∈ gaps (evenL c p) p, 0 ≤ x ∧ x ≤ 60) := by
  constructor
  · intro x hx; have := evenL_mem hp.1 x hx; omega
  · intro x hx
    have := gaps_mem (evenL_sorted (c := c) (p := p) (by omega)) (evenL_mem hp.1) x hx
    omega
theorem sqs_bound {xs : List Int} (hl : xs.length ≤ 3) (h : ∀ x ∈ xs, 0 ≤ x ∧ x ≤ 60) : 0 ≤ sqs xs ∧ sqs xs ≤ 10800 := by have := sqs_in xs h; omega

set_option maxRecDepth 100000 in
set_option maxHeartbeats 4000000 in
theorem implUnevenness_any (nv lv : Value) (n : NetD) (p : Int) (xs : List PatternD) (stop : Int) (w : World) (hr : NetAt w nv n) (hw : PatternsAt w lv xs) (hf : NetFits n) (hs : NetSmall n) :
    Calls Try.prog 26 #[nv, .int .i64 p, lv, .int .i64 stop] w fun e w' => e = .returned (.tuple #[.int .i64 (unF n p xs stop), .bool (unB n p xs stop)]) ∧ Below w.heap.size w w' := by
  have HR := Lib.hid (fun W (hW : Below w.heap.size w W) => servedRests_any nv lv n p xs stop W (hr.below rfl hW) (hw.below rfl hW) hf hs)
  obtain ⟨a, c, a', c', rfl, -, -⟩ := net_open hr
  obtain ⟨b, d, rfl⟩ := PatternS_open hw
  clear hr hw hf hs
  have hlen3 := prF_len n p xs stop
  have HEv := Lib.hid (fun W => implEvenTimes_any ((prF n p xs stop).length : Int) p W)
  cases hu : unB n p xs stop with
  | false =>
    rw [← unB_ev, hu] at HEv
    rw [unF_no hu]
    clear hu
    go_enter Try.func26, Try.ntmps26
    go_wp2_with fail
    go_at_call 63
    refine (HR.out _ ((Below.refl _ _).alloc (Nat.le_refl _) _)).mono ?_
    rintro e w1 ⟨⟨v2, rfl, ho2⟩, hb1⟩
    have HB1 : Hid (Below w.heap.size w w1 ∧ w.heap.size < w1.heap.size) := ⟨((Below.refl _ _).alloc (Nat.le_refl _) _).trans (hb1.mono (by simp)), by have := hb1.size; simp at this; omega⟩
    have p0 : w1.cell? ⟨w.heap.size, 0, none⟩ = some (.slice a n.stops.length c) := bkeep hb1 (by go_simp)
    have p1 : w1.cell? ⟨w.heap.size, 1, none⟩ = some (.slice a' n.lines.length c') := bkeep hb1 (by go_simp)
    clear hb1
    obtain ⟨_, _, rfl⟩ := own_shape ho2
    clear ho2 p0 p1 HR
    go_wp2_with fail
    go_at_call 38
    refine (HEv.out _).mono ?_
    rintro e w2 ⟨⟨v2, rfl, ho2⟩, hb2⟩
    have HB2 : Hid (Below w.heap.size w w2) := HB1.out.1.trans (hb2.mono HB1.out.1.size)
    obtain ⟨_, _, rfl⟩ := own_shape ho2
    clear ho2 hb2
    go_wp2_with fail
    go_ret2
    exact ⟨rfl, HB2.out⟩
  | true =>
    have hev : evB ((prF n p xs stop).length : Int) p = true := by rw [← unB_ev, hu]
    rw [evF_yes hev, hev] at HEv
    have hp := (evB_iff.1 hev).1
    have hg := even_good (c := (prF n p xs stop).length) hp
    have HS1 := Lib.hid (fun v W (h : RowAt W v (ints (prF n p xs stop))) => squaredGaps_any v (prF n p xs stop) p W h (by omega) prF_good.1 prF_good.2 gpF_good)
    have HS2 := Lib.hid (fun v W (h : RowAt W v (ints (evenL (prF n p xs stop).length p))) => squaredGaps_any v _ p W h (by rw [evenL_len]; omega) hg.1 (fun _ => by omega) hg.2)
    have hq1 := sqs_bound (xs := gpF n p xs stop) (by rw [gpF_len]; omega) gpF_good
    have hq2 := sqs_bound (xs := gaps (evenL (prF n p xs stop).length p) p) (by rw [gaps_len, evenL_len]; omega) hg.2
    rw [unF_yes hu]
    rw [show gaps (prF n p xs stop) p = gpF n p xs stop from rfl] at HS1
    generalize sqs (gpF n p xs stop) = q1 at *
    generalize sqs (gaps (evenL (prF n p xs stop).length p) p) = q2 at *
    generalize evenL (prF n p xs stop).length p = ev at *
    have hqw : IntKind.i64.wrap (q1 - q2) = q1 - q2 := IntWalk.i64_in _ (by omega)
    clear hu hev hg
    go_enter Try.func26, Try.ntmps26
    go_wp2_with fail
    go_at_call 63
    refine (HR.out _ ((Below.refl _ _).alloc (Nat.le_refl _) _)).mono ?_
    rintro e w1 ⟨⟨v2, rfl, ho2⟩, hb1⟩
    have HB1 : Hid (Below w.heap.size w w1 ∧ w.heap.size < w1.heap.size) := ⟨((Below.refl _ _).alloc (Nat.le_refl _) _).trans (hb1.mono (by simp)), by have := hb1.size; simp at this; omega⟩
    have p0 : w1.cell? ⟨w.heap.size, 0, none⟩ = some (.slice a n.stops.length c) := bkeep hb1 (by go_simp)
    have p1 : w1.cell? ⟨w.heap.size, 1, none⟩ = some (.slice a' n.lines.length c') := bkeep hb1 (by go_simp)
    clear hb1
    have HRow1 := Lib.hid (rowAt_own ho2)
    obtain ⟨_, _, rfl⟩ := own_shape ho2
    clear ho2 p0 p1 HR
    go_wp2_with fail
    go_at_call 38
    refine (HEv.out _).mono ?_
    rintro e w2 ⟨⟨v2, rfl, ho2⟩, hb2⟩
    have HB2 : Hid (Below w.heap.size w w2) := HB1.out.1.trans (hb2.mono HB1.out.1.size)
    have HRow2 := Lib.hid (rowAt_own ho2)
    have HC1 := Lib.hid (HS1.out _ w2 (HRow1.out.below rfl hb2))
    have HC2 : Hid (∀ W, Below w2.heap.size w2 W → _) := fun W h => HS2.out _ W (HRow2.out.below rfl h)
    obtain ⟨_, _, rfl⟩ := own_shape ho2
    clear ho2 hb2 HRow1 HRow2 HS1 HS2 HEv
    go_wp2_with fail
    go_at_call 65
    refine HC1.out.mono ?_
    rintro e w3 ⟨rfl, hb3⟩
    have HB3 : Hid (Below w.heap.size w w3) := HB2.out.trans (hb3.mono HB2.out.size)
    have HC3 := Lib.hid (HC2.out w3 hb3)
    clear hb3 HC1 HC2 HB1 HB2
    go_wp2_with fail
    go_at_call 65
    refine HC3.out.mono ?_
    rintro e w4 ⟨rfl, hb4⟩
    have HB4 : Hid (Below w.heap.size w w4) := HB3.out.trans (hb4.mono HB3.out.size)
    clear hb4 HC3
    go_wp2_with fail
    go_ret2
    exact ⟨rfl, HB4.out⟩

set_option maxRecDepth 100000 in
set_option maxHeartbeats 4000000 in
theorem specUnevenness_any (nv lv : Value) (n : NetD) (p : Int) (xs : List PatternD) (stop : Int) (w : World) (hr : NetAt w nv n) (hw : PatternsAt w lv xs) (hf : NetFits n) (hs : NetSmall n) :
    Calls Try.prog 27 #[nv, .int .i64 p, lv, .int .i64 stop] w fun e w' => e = .returned (.tuple #[.int .i64 (unF n p xs stop), .bool (unB n p xs stop)]) ∧ Below w.heap.size w w' := by
  have HR := Lib.hid (fun W (hW : Below w.heap.size w W) => specGapsAt_any nv lv n p xs stop W (hr.below rfl hW) (hw.below rfl hW) hf hs)
  obtain ⟨a, c, a', c', rfl, -, -⟩ := net_open hr
  obtain ⟨b, d, rfl⟩ := PatternS_open hw
  clear hr hw hf hs
  have hlen3 := prF_len n p xs stop
  have hgl := gpF_len n p xs stop
  cases hu : unB n p xs stop with
  | false =>
    rw [unF_no hu]
    have hev : evB ((prF n p xs stop).length : Int) p = false := by rw [← unB_ev, hu]
    have hni : askG n p xs stop = true → ¬ (1 ≤ ((gpF n p xs stop).length : Int) ∧ ((gpF n p xs stop).length : Int) ≤ p) := fun ha h => by
      have hp := (askG_iff ha).1.2.1
      rw [hgl] at h
      rw [evB_iff.2 ⟨hp, h⟩] at hev; exact Bool.noConfusion hev
    clear hu hev
    cases ha : askG n p xs stop with
    | false =>
      rw [ha] at HR
      clear ha hni hgl
      go_enter Try.func27, Try.ntmps27
      go_wp2_with fail
      go_at_call 18
      refine (HR.out _ ((Below.refl _ _).alloc (Nat.le_refl _) _)).mono ?_
      rintro e w1 ⟨⟨v2, rfl, ho2⟩, hb1⟩
      have HB1 : Hid (Below w.heap.size w w1 ∧ w.heap.size < w1.heap.size) := ⟨((Below.refl _ _).alloc (Nat.le_refl _) _).trans (hb1.mono (by simp)), by have := hb1.size; simp at this; omega⟩
      have p0 : w1.cell? ⟨w.heap.size, 0, none⟩ = some (.slice a n.stops.length c) := bkeep hb1 (by go_simp)
      have p1 : w1.cell? ⟨w.heap.size, 1, none⟩ = some (.slice a' n.lines.length c') := bkeep hb1 (by go_simp)
      clear hb1
      obtain ⟨_, _, rfl⟩ := own_shape ho2
      clear ho2 p0 p1 HR
      go_wp2_with fail
      go_ret2
      exact ⟨rfl, HB1.out.1⟩
    | true =>
      rw [ha] at HR
      have HIn := Lib.hid (fun W => l1In_no ((gpF n p xs stop).length : Int) 1 p W (hni ha))
      clear ha hni hgl
      go_enter Try.func27, Try.ntmps27
      go_wp2_with fail
      go_at_call 18
      refine (HR.out _ ((Below.refl _ _).alloc (Nat.le_refl _) _)).mono ?_
      rintro e w1 ⟨⟨v2, rfl, ho2⟩, hb1⟩
      have HB1 : Hid (Below w.heap.size w w1 ∧ w.heap.size < w1.heap.size) := ⟨((Below.refl _ _).alloc (Nat.le_refl _) _).trans (hb1.mono (by simp)), by have := hb1.size; simp at this; omega⟩
      have p0 : w1.cell? ⟨w.heap.size, 0, none⟩ = some (.slice a n.stops.length c) := bkeep hb1 (by go_simp)
      have p1 : w1.cell? ⟨w.heap.size, 1, none⟩ = some (.slice a' n.lines.length c') := bkeep hb1 (by go_simp)
      clear hb1
      obtain ⟨_, _, rfl⟩ := own_shape ho2
      clear ho2 p0 p1 HR
      go_wp2_with fail
      go_at_call 66
      refine (HIn.out _).mono ?_
      rintro e w2 ⟨rfl, rfl⟩
      go_wp2_with fail
      go_ret2
      exact ⟨rfl, HB1.out.1⟩
  | true =>
    have hev : evB ((prF n p xs stop).length : Int) p = true := by rw [← unB_ev, hu]
    obtain ⟨hp, hin⟩ := evB_iff.1 hev
    have ha : askG n p xs stop = true := prF_ask (by omega)
    rw [ha] at HR
    have hg := even_good (c := (prF n p xs stop).length) hp
    have HIn := Lib.hid (fun W => l1In_yes ((gpF n p xs stop).length : Int) 1 p W (by rw [hgl]; exact hin))
    have HS1 := Lib.hid (fun v W (h : RowAt W v (ints (gpF n p xs stop))) => l10Squares_any v (gpF n p xs stop) W h (by rw [gpF_len]; omega) gpF_good)
    have HE := Lib.hid (fun W => l10Even_any (gpF n p xs stop).length p W hp (by rw [hgl]; exact hin.2))
    have HG := Lib.hid (fun v W (h : RowAt W v (ints (evenL (gpF n p xs stop).length p))) => l10Gaps_any v _ p W h (by rw [evenL_len, gpF_len]; omega) (by rw [hgl]; exact hg.1) (fun _ => by omega))
    have HS2 := Lib.hid (fun v W (h : RowAt W v (ints (gaps (evenL (gpF n p xs stop).length p) p))) => l10Squares_any v _ W h (by rw [gaps_len, evenL_len, gpF_len]; omega) (by rw [hgl]; exact hg.2))
    have hq1 := sqs_bound (xs := gpF n p xs stop) (by rw [gpF_len]; omega) gpF_good
    have hq2 := sqs_bound (xs := gaps (evenL (gpF n p xs stop).length p) p) (by rw [gaps_len, evenL_len, gpF_len]; omega) (by rw [hgl]; exact hg.2)
    rw [unF_yes hu, ← hgl]
    clear hu hev hg ha hgl hin
    generalize sqs (gpF n p xs stop) = q1 at *
    generalize sqs (gaps (evenL (gpF n p xs stop).length p) p) = q2 at *
    have hqw : IntKind.i64.wrap (q1 - q2) = q1 - q2 := IntWalk.i64_in _ (by omega)
    go_enter Try.func27, Try.ntmps27
    go_wp2_with fail
    go_at_call 18
    refine (HR.out _ ((Below.refl _ _).alloc (Nat.le_refl _) _)).mono ?_
    rintro e w1 ⟨⟨v2, rfl, ho2⟩, hb1⟩
    have HB1 : Hid (Below w.heap.size w w1 ∧ w.heap.size < w1.heap.size) := ⟨((Below.refl _ _).alloc (Nat.le_refl _) _).trans (hb1.mono (by simp)), by have := hb1.size; simp at this; omega⟩
    have p0 : w1.cell? ⟨w.heap.size, 0, none⟩ = some (.slice a n.stops.length c) := bkeep hb1 (by go_simp)
    have p1 : w1.cell? ⟨w.heap.size, 1, none⟩ = some (.slice a' n.lines.length c') := bkeep hb1 (by go_simp)
    clear hb1
    have HRow1 := Lib.hid (rowAt_own ho2)
    have HC1 := Lib.hid (HS1.out _ w1 HRow1.out)
    obtain ⟨_, _, rfl⟩ := own_shape ho2
    clear ho2 p0 p1 HR HRow1 HS1
    go_wp2_with fail
    go_at_call 66
    refine (HIn.out _).mono ?_
    rintro e w2 ⟨rfl, rfl⟩
    go_wp2_with fail
    go_at_call 67
    refine HC1.out.mono ?_
    rintro e w3 ⟨rfl, hb3⟩
    have HB3 : Hid (Below w.heap.size w w3) := HB1.out.1.trans (hb3.mono HB1.out.1.size)
    clear hb3 HC1 HB1 HIn
    go_wp2_with fail
    go_at_call 68
    refine (HE.out w3).mono ?_
    rintro e w4 ⟨⟨v4, rfl, ho4⟩, hb4⟩
    have HB4 : Hid (Below w.heap.size w w4) := HB3.out.trans (hb4.mono HB3.out.size)
    have HC4 := Lib.hid (HG.out v4 w4 (rowAt_own ho4))
    obtain ⟨_, _, rfl⟩ := own_shape ho4
    clear ho4 hb4 HB3 HE HG
    go_wp2_with fail
    go_at_call 58
    refine HC4.out.mono ?_
    rintro e w5 ⟨⟨v5, rfl, ho5⟩, hb5⟩
    have HB5 : Hid (Below w.heap.size w w5) := HB4.out.trans (hb5.mono HB4.out.size)
    have HC5 := Lib.hid (HS2.out v5 w5 (rowAt_own ho5))
    obtain ⟨_, _, rfl⟩ := own_shape ho5
    clear ho5 hb5 HB4 HS2 HC4
    go_wp2_with fail
    go_at_call 67
    refine HC5.out.mono ?_
    rintro e w6 ⟨rfl, hb6⟩
    have HB6 : Hid (Below w.heap.size w w6) := HB5.out.trans (hb6.mono HB5.out.size)
    clear hb6 HC5
    go_wp2_with fail
    go_ret2
    exact ⟨rfl, HB6.out⟩

theorem bothUnevenness (n : NetD) (hf : NetFits n) (hs : NetSmall n) (p : Int) (w1 : (Lit.int .i64 p).wf = true) (xs : List PatternD) (hwf : PatternsFit xs) (hxs : PatternsSmall xs) (stop : Int) (w2 : (Lit.int .i64 stop).wf = true) : ∃ (r : Int) (b : Bool), ∀ (nv lv : Value) (w : World), NetAt w nv n → PatternsAt w lv xs →
    (Calls Try.prog 27 #[nv, .int .i64 p, lv, .int .i64 stop] w fun e w' => e = .returned (.tuple #[.int .i64 r, .bool b]) ∧ Below w.heap.size w w') ∧
    Calls Try.prog 26 #[nv, .int .i64 p, lv, .int .i64 stop] w fun e w' => e = .returned (.tuple #[.int .i64 r, .bool b]) ∧ Below w.heap.size w w' :=
  ⟨_, _, fun nv lv w h h' => ⟨specUnevenness_any nv lv n p xs stop w h h' hf hs, implUnevenness_any nv lv n p xs stop w h h' hf hs⟩⟩
end Go.Proofs.Ytfgkfdkdjegaiaa

namespace Go.Proofs.Ytfgkfdkdjegaiaa
open Go.RowKit
set_option linter.unusedVariables false
set_option linter.unusedSimpArgs false

set_option maxRecDepth 100000 in
theorem rBig_any (a : Option Addr) (n c : Nat) (w : World) (hn : n ≤ maxLen) :
    (65536 < n → Calls Try.prog 15 #[.slice a n c] w fun e w' => e = .returned (.bool true) ∧ w = w') ∧
    (n ≤ 65536 → Calls Try.prog 15 #[.slice a n c] w fun e w' => e = .returned (.bool false) ∧ w = w') := by
  unfold maxLen at hn
  constructor
  · intro h
    have hd : decide ((65536 : Int) < (n : Int)) = true := by simp; omega
    go_enter Try.func15, Try.ntmps15
    go_wp2
    go_ret
    exact ⟨by simp, rfl⟩
  · intro h
    have hd : decide ((65536 : Int) < (n : Int)) = false := by simp; omega
    go_enter Try.func15, Try.ntmps15
    go_wp2
    go_ret
    exact ⟨by simp, rfl⟩

set_option maxRecDepth 100000 in
set_option maxHeartbeats 2000000 in
theorem rInts_any (v u : Value) (xs : List Int) (w : World) (hv : RowAt w v (ints xs)) (hu : RowAt w u (ints xs)) :
    Calls Try.prog 19 #[v, u] w fun e w' => e = .returned (.bool true) ∧ Below w.heap.size w w' := by
  obtain ⟨a, c, rfl, hl1, hl2, HX⟩ := ints_open hv
  obtain ⟨a2, c2, rfl, _, _, HY⟩ := ints_open hu
  have hl : xs.length ≤ 9223372036854775807 := by omega
  clear hv hu hl1 hl2
  go_enter Try.func19, Try.ntmps19
  go_wp2_with fail
  go_loopw [5] (fun i wr => ∃ k : Nat, k ≤ xs.length ∧ i = .int .i64 (k : Int) ∧ Hid (Below w.heap.size w wr)) (fun i _ => xs.length - (RowKit.intOf i).toNat)
  case atStart => exact ⟨0, Nat.zero_le _, rfl, Below.refl _ _⟩
  case round =>
    obtain ⟨k, hk, rfl, HB⟩ := hrel
    by_cases hlt : k < xs.length
    · obtain ⟨b, off, rfl, hbl, y0⟩ := HX.out k hlt
      have hx0 := bkeep HB.out y0
      obtain ⟨b2, off2, rfl, hbl2, z0⟩ := HY.out k hlt
      have hy0 := bkeep HB.out z0
      clear y0 z0
      generalize xs[k] = y at *
      go_wp2_with (go_quiet (fail))
      go_roundw
      case rel => exact ⟨k + 1, by omega, by go_num, below_drewN HB.out _⟩
      case measure => simp [RowKit.intOf]; omega
    · have hkl : k = xs.length := by omega
      subst hkl
      go_wp2_with fail
      go_ret
      exact ⟨rfl, HB.out⟩

theorem sum_take (xs : List Int) (k : Nat) (h : k < xs.length) : (xs.take (k + 1)).sum = (xs.take k).sum + xs[k] := by
  rw [List.take_succ_eq_append_getElem h, List.sum_append]; simp
theorem sum_in : ∀ (xs : List Int), (∀ x ∈ xs, 0 ≤ x ∧ x ≤ 60) → 0 ≤ xs.sum ∧ xs.sum ≤ 60 * xs.length
  | [], _ => by simp
  | x :: xs, h => by
    have h1 := h x (by simp)
    have h2 := sum_in xs (fun y hy => h y (by simp [hy]))
    simp only [List.sum_cons, List.length_cons]
    push_cast
    omega
set_option maxRecDepth 100000 in
set_option maxHeartbeats 4000000 in
theorem rSum_any (v : Value) (xs : List Int) (w : World) (hr : RowAt w v (ints xs)) (hl : xs.length ≤ 1000) (hb : ∀ x ∈ xs, 0 ≤ x ∧ x ≤ 60) :
    Calls Try.prog 24 #[v] w fun e w' => e = .returned (.int .i64 xs.sum) ∧ Below w.heap.size w w' := by
  obtain ⟨a, c, rfl, hc, hm, HC⟩ := ints_open hr
  have HB0 := Lib.hid hb
  clear hr hb
  go_enter Try.func24, Try.ntmps24
  go_wp2_with fail
  go_loopw [3, 4] (fun s q wr => ∃ k : Nat, k ≤ xs.length ∧ q = .int .i64 k ∧ s = .int .i64 (xs.take k).sum ∧ Hid (Below w.heap.size w wr)) (fun _ q _ => xs.length - (RowKit.intOf q).toNat)
  case atStart => exact ⟨0, Nat.zero_le _, rfl, by simp, Below.refl _ _⟩
  case round =>
    obtain ⟨k, hk, rfl, rfl, HB⟩ := hrel
    have hbd := sum_in (xs.take k) (fun x hx => HB0.out x (List.mem_of_mem_take hx))
    have hlen : (xs.take k).length ≤ 1000 := by simp; omega
    by_cases hlt : k < xs.length
    · obtain ⟨b, off, rfl, hbl, hcx⟩ := HC.out k hlt
      have hcx := bkeep HB.out hcx
      have hx := HB0.out _ (List.getElem_mem hlt)
      have HS := Lib.hid (sum_take xs k hlt)
      have hk1 : (k : Int) < (xs.length : Int) := by omega
      generalize (xs.take k).sum = s0 at *
      generalize xs[k] = x at *
      have hw2 : IntKind.i64.wrap (s0 + x) = s0 + x := IntWalk.i64_in _ (by omega)
      clear hbd hlen
      go_wp2_with (go_quiet (fail))
      go_roundw
      case rel => exact ⟨k + 1, by omega, by go_num, by rw [HS.out], HB⟩
      case measure => simp [RowKit.intOf]; omega
    · have he : xs.take k = xs := List.take_of_length_le (by omega)
      have HS : Hid ((xs.take k).sum = xs.sum) := by show _ = _; rw [he]
      clear he
      go_wp2_with fail
      go_ret
      exact ⟨ret_int HS.out, HB.out⟩

set_option maxRecDepth 100000 in
set_option maxHeartbeats 4000000 in
theorem rHas_any (v : Value) (xs : List Int) (x : Int) (w : World) (hr : RowAt w v (ints xs)) (hx : x ∈ xs) :
    Calls Try.prog 25 #[v, .int .i64 x] w fun e w' => e = .returned (.bool true) ∧ Below w.heap.size w w' := by
  obtain ⟨a, c, rfl, hc, hm, HC⟩ := ints_open hr
  obtain ⟨j, hj, he⟩ := List.getElem_of_mem hx
  have HE := Lib.hid he
  clear hr he hx
  go_enter Try.func25, Try.ntmps25
  go_wp2_with fail
  go_loopw [5] (fun i wr => ∃ k : Nat, k ≤ j ∧ i = .int .i64 (k : Int) ∧ Hid (Below w.heap.size w wr)) (fun i _ => xs.length - (RowKit.intOf i).toNat)
  case atStart => exact ⟨0, Nat.zero_le _, rfl, Below.refl _ _⟩
  case round =>
    obtain ⟨k, hk, rfl, HB⟩ := hrel
    have hlt : k < xs.length := by omega
    obtain ⟨b, off, rfl, hbl, y0⟩ := HC.out k hlt
    have hx0 := bkeep HB.out y0
    clear y0
    have hk1 : (k : Int) < (xs.length : Int) := by omega
    by_cases hxe : xs[k] = x
    · rw [hxe] at hx0
      clear hxe
      go_wp2_with (go_quiet (fail))
      go_ret
      exact ⟨rfl, HB.out⟩
    · have hkj : k < j := by
        rcases Nat.lt_or_ge k j with h | h
        · exact h
        · exact absurd (by have := HE.out; obtain rfl : k = j := by omega
                           exact this) hxe
      have hd : (xs[k] == x) = false := by simpa using hxe
      generalize xs[k] = y at *
      clear hxe
      go_wp2_with (go_quiet (fail))
      go_roundw
      case rel => exact ⟨k + 1, by omega, by go_num, HB⟩
      case measure => simp [RowKit.intOf]; omega
end Go.Proofs.Ytfgkfdkdjegaiaa

namespace Go.Proofs.Ytfgkfdkdjegaiaa
open Go.RowKit
set_option linter.unusedVariables false
set_option linter.unusedSimpArgs false

theorem lineTot_le : ∀ (ls : List LineD), (∀ l ∈ ls, AnyLn l) → lineTot ls ≤ 36 * ls.length
  | [], _ => by simp [lineTot]
  | l :: ls, h => by
    have h1 := h l (by simp)
    have h2 := lineTot_le ls (fun x hx => h x (by simp [hx]))
    have h3 : lineSz l ≤ 36 := by have := h1.1; have := h1.2.1; have := h1.2.2.1; unfold lineSz; omega
    unfold lineTot at *
    simp only [List.map_cons, List.sum_cons, List.length_cons]
    omega
theorem any_fits {d : NetD} (h1 : d.stops.length ≤ 8 ∧ ∀ s ∈ d.stops, s.size ≤ 20) (h2 : d.lines.length ≤ 12) (h3 : ∀ l ∈ d.lines, AnyLn l) : NetFits d ∧ NetSmall d := by
  refine ⟨⟨fun s hs => by have := h1.2 s hs; unfold maxLen; omega, fun l hl => anyLn_fits (h3 l hl)⟩, by omega, by omega, fun l hl => ?_, ?_⟩
  · have h := h3 l hl
    have := h.1; have := h.2.1; have := h.2.2.1
    unfold LineSmall; omega
  · have := lineTot_le d.lines h3; omega

theorem gp_facts (n : NetD) (p : Int) (xs : List PatternD) (stop : Int) :
    ((gpF n p xs stop).length = (prF n p xs stop).length ∧ (gpF n p xs stop).length ≤ 3 ∧ (∀ x ∈ gpF n p xs stop, 0 ≤ x ∧ x ≤ 60)) ∧ (askG n p xs stop = true → patsB n p xs = true) ∧
    (servB n p xs stop = decide (0 < (gpF n p xs stop).length)) ∧ 0 ≤ unF n p xs stop ∧
    (servB n p xs stop = true → (gpF n p xs stop).sum = p ∧ (lgF n p xs stop).1 ∈ gpF n p xs stop ∧ (∀ x ∈ gpF n p xs stop, x ≤ (lgF n p xs stop).1) ∧ (lgF n p xs stop).2 ∈ prF n p xs stop ∧ dwF n p xs stop = (sqs (gpF n p xs stop), p)) := by
  have hl := gpF_len n p xs stop
  have h3 := prF_len n p xs stop
  refine ⟨⟨hl, by omega, gpF_good⟩, fun h => patsB_yes (askG_iff h).1, by unfold servB; rw [hl], ?_, fun h => ?_⟩
  · unfold unF
    split
    · rename_i h
      have hs : servB n p xs stop = true := by
        unfold unB at h; simp only [Bool.and_eq_true] at h; exact h.1
      exact unev_nonneg (servB_yes hs)
    · exact Int.le_refl _
  · have hp := servB_yes h
    have hg : 0 < (gpF n p xs stop).length := by omega
    rw [lgF_yes h, dwF_yes h]
    refine ⟨?_, lgV_mem hg, fun x hx => lgV_max x hx, ?_, rfl⟩
    · unfold gpF; exact gaps_sum hp
    · have hi := lgI_lt hg
      have hi2 : lgI (gpF n p xs stop) < (prF n p xs stop).length := by omega
      simp only
      rw [List.getD, List.getElem?_eq_getElem hi2]
      exact List.getElem_mem _
end Go.Proofs.Ytfgkfdkdjegaiaa
