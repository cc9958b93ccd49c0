/-
  CONTRACTS: Unevenness; both sides.
-/
import Derived.Test.YtfgkfdkdjegaiaaEvenTimes
namespace Go.Proofs.Ytfgkfdkdjegaiaa
open Go.RowKit
set_option linter.unusedVariables false
set_option linter.unusedSimpArgs false

theorem unB_ev (n : NetD) (p : Int) (xs : List PatternD) (stop : Int) : unB n p xs stop = evB ((prF n p xs stop).length : Int) p := by
  cases hs : servB n p xs stop with
  | false =>
    have := servB_no hs
    rw [gpF_len] at this
    have h2 : evB ((prF n p xs stop).length : Int) p = false := evB_no (fun h => by omega)
    rw [h2]; unfold unB; rw [hs]; rfl
  | true =>
    have h1 := servB_yes hs
    have h2 := prF_p h1
    unfold unB evB
    rw [hs]
    have e1 : decide (1 ≤ p ∧ p ≤ 60) = true := decide_eq_true h2
    rw [e1]
    simp only [Bool.true_and]
    congr 1
    simp; omega
theorem unF_yes {n : NetD} {p : Int} {xs : List PatternD} {stop : Int} (h : unB n p xs stop = true) : unF n p xs stop = sqs (gpF n p xs stop) - sqs (gaps (evenL (prF n p xs stop).length p) p) := by unfold unF; rw [h]; rfl
theorem unF_no {n : NetD} {p : Int} {xs : List PatternD} {stop : Int} (h : unB n p xs stop = false) : unF n p xs stop = 0 := by unfold unF; rw [h]; rfl
theorem even_good {c : Nat} {p : Int} (hp : 1 ≤ p ∧ p ≤ 60) : (∀ x ∈ evenL c p, 0 ≤ x ∧ x ≤ 60) ∧ (∀ x ∈ gaps (evenL c p) p, 0 ≤ x ∧ x ≤ 60) := by
  constructor
  · intro x hx; have := evenL_mem hp.1 x hx; omega
  · intro x hx
    have := gaps_mem (evenL_sorted (c := c) (p := p) (by omega)) (evenL_mem hp.1) x hx
    omega
theorem sqs_bound {xs : List Int} (hl : xs.length ≤ 3) (h : ∀ x ∈ xs, 0 ≤ x ∧ x ≤ 60) : 0 ≤ sqs xs ∧ sqs xs ≤ 10800 := by have := sqs_in xs h; omega

set_option maxRecDepth 100000 in
set_option maxHeartbeats 4000000 in
theorem implUnevenness_any (nv lv : Value) (n : NetD) (p : Int) (xs : List PatternD) (stop : Int) (w : World) (hr : NetAt w nv n) (hw : PatternsAt w lv xs) (hf : NetFits n) (hs : NetSmall n) :
    Calls Try.prog 26 #[nv, .int .i64 p, lv, .int .i64 stop] w fun e w' => e = .returned (.tuple #[.int .i64 (unF n p xs stop), .bool (unB n p xs stop)]) ∧ Below w.heap.size w w' := by
  have HR := Lib.hid (fun W (hW : Below w.heap.size w W) => servedRests_any nv lv n p xs stop W (hr.below rfl hW) (hw.below rfl hW) hf hs)
  obtain ⟨a, c, a', c', rfl, -, -⟩ := net_open hr
  obtain ⟨b, d, rfl⟩ := PatternS_open hw
  clear hr hw hf hs
  have hlen3 := prF_len n p xs stop
  have HEv := Lib.hid (fun W => implEvenTimes_any ((prF n p xs stop).length : Int) p W)
  cases hu : unB n p xs stop with
  | false =>
    rw [← unB_ev, hu] at HEv
    rw [unF_no hu]
    clear hu
    go_enter Try.func26, Try.ntmps26
    go_wp2_with fail
    go_at_call 63
    refine (HR.out _ ((Below.refl _ _).alloc (Nat.le_refl _) _)).mono ?_
    rintro e w1 ⟨⟨v2, rfl, ho2⟩, hb1⟩
    have HB1 : Hid (Below w.heap.size w w1 ∧ w.heap.size < w1.heap.size) := ⟨((Below.refl _ _).alloc (Nat.le_refl _) _).trans (hb1.mono (by simp)), by have := hb1.size; simp at this; omega⟩
    have p0 : w1.cell? ⟨w.heap.size, 0, none⟩ = some (.slice a n.stops.length c) := bkeep hb1 (by go_simp)
    have p1 : w1.cell? ⟨w.heap.size, 1, none⟩ = some (.slice a' n.lines.length c') := bkeep hb1 (by go_simp)
    clear hb1
    obtain ⟨_, _, rfl⟩ := own_shape ho2
    clear ho2 p0 p1 HR
    go_wp2_with fail
    go_at_call 38
    refine (HEv.out _).mono ?_
    rintro e w2 ⟨⟨v2, rfl, ho2⟩, hb2⟩
    have HB2 : Hid (Below w.heap.size w w2) := HB1.out.1.trans (hb2.mono HB1.out.1.size)
    obtain ⟨_, _, rfl⟩ := own_shape ho2
    clear ho2 hb2
    go_wp2_with fail
    go_ret2
    exact ⟨rfl, HB2.out⟩
  | true =>
    have hev : evB ((prF n p xs stop).length : Int) p = true := by rw [← unB_ev, hu]
    rw [evF_yes hev, hev] at HEv
    have hp := (evB_iff.1 hev).1
    have hg := even_good (c := (prF n p xs stop).length) hp
    have HS1 := Lib.hid (fun v W (h : RowAt W v (ints (prF n p xs stop))) => squaredGaps_any v (prF n p xs stop) p W h (by omega) prF_good.1 prF_good.2 gpF_good)
    have HS2 := Lib.hid (fun v W (h : RowAt W v (ints (evenL (prF n p xs stop).length p))) => squaredGaps_any v _ p W h (by rw [evenL_len]; omega) hg.1 (fun _ => by omega) hg.2)
    have hq1 := sqs_bound (xs := gpF n p xs stop) (by rw [gpF_len]; omega) gpF_good
    have hq2 := sqs_bound (xs := gaps (evenL (prF n p xs stop).length p) p) (by rw [gaps_len, evenL_len]; omega) hg.2
    rw [unF_yes hu]
    rw [show gaps (prF n p xs stop) p = gpF n p xs stop from rfl] at HS1
    generalize sqs (gpF n p xs stop) = q1 at *
    generalize sqs (gaps (evenL (prF n p xs stop).length p) p) = q2 at *
    generalize evenL (prF n p xs stop).length p = ev at *
    have hqw : IntKind.i64.wrap (q1 - q2) = q1 - q2 := IntWalk.i64_in _ (by omega)
    clear hu hev hg
    go_enter Try.func26, Try.ntmps26
    go_wp2_with fail
    go_at_call 63
    refine (HR.out _ ((Below.refl _ _).alloc (Nat.le_refl _) _)).mono ?_
    rintro e w1 ⟨⟨v2, rfl, ho2⟩, hb1⟩
    have HB1 : Hid (Below w.heap.size w w1 ∧ w.heap.size < w1.heap.size) := ⟨((Below.refl _ _).alloc (Nat.le_refl _) _).trans (hb1.mono (by simp)), by have := hb1.size; simp at this; omega⟩
    have p0 : w1.cell? ⟨w.heap.size, 0, none⟩ = some (.slice a n.stops.length c) := bkeep hb1 (by go_simp)
    have p1 : w1.cell? ⟨w.heap.size, 1, none⟩ = some (.slice a' n.lines.length c') := bkeep hb1 (by go_simp)
    clear hb1
    have HRow1 := Lib.hid (rowAt_own ho2)
    obtain ⟨_, _, rfl⟩ := own_shape ho2
    clear ho2 p0 p1 HR
    go_wp2_with fail
    go_at_call 38
    refine (HEv.out _).mono ?_
    rintro e w2 ⟨⟨v2, rfl, ho2⟩, hb2⟩
    have HB2 : Hid (Below w.heap.size w w2) := HB1.out.1.trans (hb2.mono HB1.out.1.size)
    have HRow2 := Lib.hid (rowAt_own ho2)
    have HC1 := Lib.hid (HS1.out _ w2 (HRow1.out.below rfl hb2))
    have HC2 : Hid (∀ W, Below w2.heap.size w2 W → _) := fun W h => HS2.out _ W (HRow2.out.below rfl h)
    obtain ⟨_, _, rfl⟩ := own_shape ho2
    clear ho2 hb2 HRow1 HRow2 HS1 HS2 HEv
    go_wp2_with fail
    go_at_call 65
    refine HC1.out.mono ?_
    rintro e w3 ⟨rfl, hb3⟩
    have HB3 : Hid (Below w.heap.size w w3) := HB2.out.trans (hb3.mono HB2.out.size)
    have HC3 := Lib.hid (HC2.out w3 hb3)
    clear hb3 HC1 HC2 HB1 HB2
    go_wp2_with fail
    go_at_call 65
    refine HC3.out.mono ?_
    rintro e w4 ⟨rfl, hb4⟩
    have HB4 : Hid (Below w.heap.size w w4) := HB3.out.trans (hb4.mono HB3.out.size)
    clear hb4 HC3
    go_wp2_with fail
    go_ret2
    exact ⟨rfl, HB4.out⟩

set_option maxRecDepth 100000 in
set_option maxHeartbeats 4000000 in
theorem specUnevenness_any (nv lv : Value) (n : NetD) (p : Int) (xs : List PatternD) (stop : Int) (w : World) (hr : NetAt w nv n) (hw : PatternsAt w lv xs) (hf : NetFits n) (hs : NetSmall n) :
    Calls Try.prog 27 #[nv, .int .i64 p, lv, .int .i64 stop] w fun e w' => e = .returned (.tuple #[.int .i64 (unF n p xs stop), .bool (unB n p xs stop)]) ∧ Below w.heap.size w w' := by
  have HR := Lib.hid (fun W (hW : Below w.heap.size w W) => specGapsAt_any nv lv n p xs stop W (hr.below rfl hW) (hw.below rfl hW) hf hs)
  obtain ⟨a, c, a', c', rfl, -, -⟩ := net_open hr
  obtain ⟨b, d, rfl⟩ := PatternS_open hw
  clear hr hw hf hs
  have hlen3 := prF_len n p xs stop
  have hgl := gpF_len n p xs stop
  cases hu : unB n p xs stop with
  | false =>
    rw [unF_no hu]
    have hev : evB ((prF n p xs stop).length : Int) p = false := by rw [← unB_ev, hu]
    have hni : askG n p xs stop = true → ¬ (1 ≤ ((gpF n p xs stop).length : Int) ∧ ((gpF n p xs stop).length : Int) ≤ p) := fun ha h => by
      have hp := (askG_iff ha).1.2.1
      rw [hgl] at h
      rw [evB_iff.2 ⟨hp, h⟩] at hev; exact Bool.noConfusion hev
    clear hu hev
    cases ha : askG n p xs stop with
    | false =>
      rw [ha] at HR
      clear ha hni hgl
      go_enter Try.func27, Try.ntmps27
      go_wp2_with fail
      go_at_call 18
      refine (HR.out _ ((Below.refl _ _).alloc (Nat.le_refl _) _)).mono ?_
      rintro e w1 ⟨⟨v2, rfl, ho2⟩, hb1⟩
      have HB1 : Hid (Below w.heap.size w w1 ∧ w.heap.size < w1.heap.size) := ⟨((Below.refl _ _).alloc (Nat.le_refl _) _).trans (hb1.mono (by simp)), by have := hb1.size; simp at this; omega⟩
      have p0 : w1.cell? ⟨w.heap.size, 0, none⟩ = some (.slice a n.stops.length c) := bkeep hb1 (by go_simp)
      have p1 : w1.cell? ⟨w.heap.size, 1, none⟩ = some (.slice a' n.lines.length c') := bkeep hb1 (by go_simp)
      clear hb1
      obtain ⟨_, _, rfl⟩ := own_shape ho2
      clear ho2 p0 p1 HR
      go_wp2_with fail
      go_ret2
      exact ⟨rfl, HB1.out.1⟩
    | true =>
      rw [ha] at HR
      have HIn := Lib.hid (fun W => l1In_no ((gpF n p xs stop).length : Int) 1 p W (hni ha))
      clear ha hni hgl
      go_enter Try.func27, Try.ntmps27
      go_wp2_with fail
      go_at_call 18
      refine (HR.out _ ((Below.refl _ _).alloc (Nat.le_refl _) _)).mono ?_
      rintro e w1 ⟨⟨v2, rfl, ho2⟩, hb1⟩
      have HB1 : Hid (Below w.heap.size w w1 ∧ w.heap.size < w1.heap.size) := ⟨((Below.refl _ _).alloc (Nat.le_refl _) _).trans (hb1.mono (by simp)), by have := hb1.size; simp at this; omega⟩
      have p0 : w1.cell? ⟨w.heap.size, 0, none⟩ = some (.slice a n.stops.length c) := bkeep hb1 (by go_simp)
      have p1 : w1.cell? ⟨w.heap.size, 1, none⟩ = some (.slice a' n.lines.length c') := bkeep hb1 (by go_simp)
      clear hb1
      obtain ⟨_, _, rfl⟩ := own_shape ho2
      clear ho2 p0 p1 HR
      go_wp2_with fail
      go_at_call 66
      refine (HIn.out _).mono ?_
      rintro e w2 ⟨rfl, rfl⟩
      go_wp2_with fail
      go_ret2
      exact ⟨rfl, HB1.out.1⟩
  | true =>
    have hev : evB ((prF n p xs stop).length : Int) p = true := by rw [← unB_ev, hu]
    obtain ⟨hp, hin⟩ := evB_iff.1 hev
    have ha : askG n p xs stop = true := prF_ask (by omega)
    rw [ha] at HR
    have hg := even_good (c := (prF n p xs stop).length) hp
    have HIn := Lib.hid (fun W => l1In_yes ((gpF n p xs stop).length : Int) 1 p W (by rw [hgl]; exact hin))
    have HS1 := Lib.hid (fun v W (h : RowAt W v (ints (gpF n p xs stop))) => l10Squares_any v (gpF n p xs stop) W h (by rw [gpF_len]; omega) gpF_good)
    have HE := Lib.hid (fun W => l10Even_any (gpF n p xs stop).length p W hp (by rw [hgl]; exact hin.2))
    have HG := Lib.hid (fun v W (h : RowAt W v (ints (evenL (gpF n p xs stop).length p))) => l10Gaps_any v _ p W h (by rw [evenL_len, gpF_len]; omega) (by rw [hgl]; exact hg.1) (fun _ => by omega))
    have HS2 := Lib.hid (fun v W (h : RowAt W v (ints (gaps (evenL (gpF n p xs stop).length p) p))) => l10Squares_any v _ W h (by rw [gaps_len, evenL_len, gpF_len]; omega) (by rw [hgl]; exact hg.2))
    have hq1 := sqs_bound (xs := gpF n p xs stop) (by rw [gpF_len]; omega) gpF_good
    have hq2 := sqs_bound (xs := gaps (evenL (gpF n p xs stop).length p) p) (by rw [gaps_len, evenL_len, gpF_len]; omega) (by rw [hgl]; exact hg.2)
    rw [unF_yes hu, ← hgl]
    clear hu hev hg ha hgl hin
    generalize sqs (gpF n p xs stop) = q1 at *
    generalize sqs (gaps (evenL (gpF n p xs stop).length p) p) = q2 at *
    have hqw : IntKind.i64.wrap (q1 - q2) = q1 - q2 := IntWalk.i64_in _ (by omega)
    go_enter Try.func27, Try.ntmps27
    go_wp2_with fail
    go_at_call 18
    refine (HR.out _ ((Below.refl _ _).alloc (Nat.le_refl _) _)).mono ?_
    rintro e w1 ⟨⟨v2, rfl, ho2⟩, hb1⟩
    have HB1 : Hid (Below w.heap.size w w1 ∧ w.heap.size < w1.heap.size) := ⟨((Below.refl _ _).alloc (Nat.le_refl _) _).trans (hb1.mono (by simp)), by have := hb1.size; simp at this; omega⟩
    have p0 : w1.cell? ⟨w.heap.size, 0, none⟩ = some (.slice a n.stops.length c) := bkeep hb1 (by go_simp)
    have p1 : w1.cell? ⟨w.heap.size, 1, none⟩ = some (.slice a' n.lines.length c') := bkeep hb1 (by go_simp)
    clear hb1
    have HRow1 := Lib.hid (rowAt_own ho2)
    have HC1 := Lib.hid (HS1.out _ w1 HRow1.out)
    obtain ⟨_, _, rfl⟩ := own_shape ho2
    clear ho2 p0 p1 HR HRow1 HS1
    go_wp2_with fail
    go_at_call 66
    refine (HIn.out _).mono ?_
    rintro e w2 ⟨rfl, rfl⟩
    go_wp2_with fail
    go_at_call 67
    refine HC1.out.mono ?_
    rintro e w3 ⟨rfl, hb3⟩
    have HB3 : Hid (Below w.heap.size w w3) := HB1.out.1.trans (hb3.mono HB1.out.1.size)
    clear hb3 HC1 HB1 HIn
    go_wp2_with fail
    go_at_call 68
    refine (HE.out w3).mono ?_
    rintro e w4 ⟨⟨v4, rfl, ho4⟩, hb4⟩
    have HB4 : Hid (Below w.heap.size w w4) := HB3.out.trans (hb4.mono HB3.out.size)
    have HC4 := Lib.hid (HG.out v4 w4 (rowAt_own ho4))
    obtain ⟨_, _, rfl⟩ := own_shape ho4
    clear ho4 hb4 HB3 HE HG
    go_wp2_with fail
    go_at_call 58
    refine HC4.out.mono ?_
    rintro e w5 ⟨⟨v5, rfl, ho5⟩, hb5⟩
    have HB5 : Hid (Below w.heap.size w w5) := HB4.out.trans (hb5.mono HB4.out.size)
    have HC5 := Lib.hid (HS2.out v5 w5 (rowAt_own ho5))
    obtain ⟨_, _, rfl⟩ := own_shape ho5
    clear ho5 hb5 HB4 HS2 HC4
    go_wp2_with fail
    go_at_call 67
    refine HC5.out.mono ?_
    rintro e w6 ⟨rfl, hb6⟩
    have HB6 : Hid (Below w.heap.size w w6) := HB5.out.trans (hb6.mono HB5.out.size)
    clear hb6 HC5
    go_wp2_with fail
    go_ret2
    exact ⟨rfl, HB6.out⟩

theorem bothUnevenness (n : NetD) (hf : NetFits n) (hs : NetSmall n) (p : Int) (w1 : (Lit.int .i64 p).wf = true) (xs : List PatternD) (hwf : PatternsFit xs) (hxs : PatternsSmall xs) (stop : Int) (w2 : (Lit.int .i64 stop).wf = true) : ∃ (r : Int) (b : Bool), ∀ (nv lv : Value) (w : World), NetAt w nv n → PatternsAt w lv xs →
    (Calls Try.prog 27 #[nv, .int .i64 p, lv, .int .i64 stop] w fun e w' => e = .returned (.tuple #[.int .i64 r, .bool b]) ∧ Below w.heap.size w w') ∧
    Calls Try.prog 26 #[nv, .int .i64 p, lv, .int .i64 stop] w fun e w' => e = .returned (.tuple #[.int .i64 r, .bool b]) ∧ Below w.heap.size w w' :=
  ⟨_, _, fun nv lv w h h' => ⟨specUnevenness_any nv lv n p xs stop w h h' hf hs, implUnevenness_any nv lv n p xs stop w h h' hf hs⟩⟩
end Go.Proofs.Ytfgkfdkdjegaiaa
