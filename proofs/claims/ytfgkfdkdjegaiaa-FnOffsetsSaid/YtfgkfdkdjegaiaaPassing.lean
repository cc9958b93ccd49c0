import Derived.Test.YtfgkfdkdjegaiaaRests
import Derived.Test.YtfgkfdkdjegaiaaGaps
import Derived.Test.YtfgkfdkdjegaiaaMk02
namespace Go.Proofs.Ytfgkfdkdjegaiaa
open Go.RowKit
set_option linter.unusedVariables false
set_option linter.unusedSimpArgs false

theorem prF_good {n : NetD} {p : Int} {xs : List PatternD} {stop : Int} : (∀ x ∈ prF n p xs stop, 0 ≤ x ∧ x ≤ 60) ∧ (0 < (prF n p xs stop).length → 0 ≤ p ∧ p ≤ 60) := by
  constructor
  · intro x hx
    have h1 := prF_mem x hx
    have h2 := prF_p (n := n) (p := p) (xs := xs) (stop := stop) (by rw [List.length_pos_iff]; intro e; rw [e] at hx; simp at hx)
    omega
  · intro h; have := prF_p h; omega
theorem prF_true {n : NetD} {p : Int} {xs : List PatternD} {stop : Int} (h : askG n p xs stop = true) : prF n p xs stop = restS n p xs stop := by unfold prF; rw [h]; rfl
theorem prF_false {n : NetD} {p : Int} {xs : List PatternD} {stop : Int} (h : askG n p xs stop = false) : prF n p xs stop = [] := by unfold prF; rw [h]; rfl
theorem empty_st {B : Nat} (w : World) (hB : B ≤ w.heap.size) : StAns B [] false (.returned (.tuple #[.slice (some ⟨w.heap.size, 0, none⟩) 0 0, .bool false])) (w.alloc (.cells #[] 3)) := ⟨_, rfl, row_new w B hB⟩

set_option maxRecDepth 100000 in
set_option maxHeartbeats 4000000 in
theorem l10Asked_any (nv lv : Value) (n : NetD) (p : Int) (xs : List PatternD) (stop : Int) (w : World) (hr : NetAt w nv n) (hw : PatternsAt w lv xs) (hf : NetFits n) (hs : NetSmall n) :
    Calls Try.prog 57 #[nv, .int .i64 p, lv, .int .i64 stop] w fun e w' => e = .returned (.bool (askG n p xs stop)) ∧ Below w.heap.size w w' := by
  have HG := Lib.hid (fun W (hW : Below w.heap.size w W) => l10Good_any nv lv n p xs W (hr.below rfl hW) (hw.below rfl hW) hf)
  have hsz := hs.1
  obtain ⟨a, c, a', c', rfl, -, -⟩ := net_open hr
  obtain ⟨b, d, rfl⟩ := PatternS_open hw
  have hlw : IntKind.i64.wrap ((n.stops.length : Int) - 1) = (n.stops.length : Int) - 1 := IntWalk.i64_in _ (by omega)
  clear hr hw hf hs
  cases hg : patsB n p xs with
  | false =>
    rw [hg] at HG
    have ha : askG n p xs stop = false := by unfold askG; rw [hg]; rfl
    rw [ha]
    clear hg ha
    go_enter Try.func57, Try.ntmps57
    go_wp2_with fail
    go_at_call 83
    refine (HG.out _ ((Below.refl _ _).alloc (Nat.le_refl _) _)).mono ?_
    rintro e w1 ⟨rfl, hb1⟩
    have HB1 : Hid (Below w.heap.size w w1) := ((Below.refl _ _).alloc (Nat.le_refl _) _).trans (hb1.mono (by simp))
    clear hb1 HG
    go_wp2_with fail
    go_ret
    exact ⟨rfl, HB1.out⟩
  | true =>
    rw [hg] at HG
    by_cases hin : 0 ≤ stop ∧ stop ≤ (n.stops.length : Int) - 1
    · have ha : askG n p xs stop = true := askG_yes (patsB_iff hg) hin.1 (by omega)
      have HIn := Lib.hid (fun W => l1In_yes stop 0 ((n.stops.length : Int) - 1) W hin)
      rw [ha]
      clear hg ha hin
      go_enter Try.func57, Try.ntmps57
      go_wp2_with fail
      go_at_call 83
      refine (HG.out _ ((Below.refl _ _).alloc (Nat.le_refl _) _)).mono ?_
      rintro e w1 ⟨rfl, hb1⟩
      have HB1 : Hid (Below w.heap.size w w1) := ((Below.refl _ _).alloc (Nat.le_refl _) _).trans (hb1.mono (by simp))
      have p0 : w1.cell? ⟨w.heap.size, 0, none⟩ = some (.slice a n.stops.length c) := bkeep hb1 (by go_simp)
      clear hb1 HG
      go_wp2_with fail
      go_at_call 66
      refine (HIn.out _).mono ?_
      rintro e w2 ⟨rfl, rfl⟩
      go_wp2_with fail
      go_ret
      exact ⟨rfl, HB1.out⟩
    · have ha : askG n p xs stop = false := askG_no (fun h => hin ⟨h.2.1, by omega⟩)
      have HIn := Lib.hid (fun W => l1In_no stop 0 ((n.stops.length : Int) - 1) W hin)
      rw [ha]
      clear hg ha hin
      go_enter Try.func57, Try.ntmps57
      go_wp2_with fail
      go_at_call 83
      refine (HG.out _ ((Below.refl _ _).alloc (Nat.le_refl _) _)).mono ?_
      rintro e w1 ⟨rfl, hb1⟩
      have HB1 : Hid (Below w.heap.size w w1) := ((Below.refl _ _).alloc (Nat.le_refl _) _).trans (hb1.mono (by simp))
      have p0 : w1.cell? ⟨w.heap.size, 0, none⟩ = some (.slice a n.stops.length c) := bkeep hb1 (by go_simp)
      clear hb1 HG
      go_wp2_with fail
      go_at_call 66
      refine (HIn.out _).mono ?_
      rintro e w2 ⟨rfl, rfl⟩
      go_wp2_with fail
      go_ret
      exact ⟨rfl, HB1.out⟩

set_option maxRecDepth 100000 in
set_option maxHeartbeats 4000000 in
theorem specGapsAt_any (nv lv : Value) (n : NetD) (p : Int) (xs : List PatternD) (stop : Int) (w : World) (hr : NetAt w nv n) (hw : PatternsAt w lv xs) (hf : NetFits n) (hs : NetSmall n) :
    Calls Try.prog 18 #[nv, .int .i64 p, lv, .int .i64 stop] w fun e w' => StAns w.heap.size (gpF n p xs stop) (askG n p xs stop) e w' ∧ Below w.heap.size w w' := by
  have HA := Lib.hid (fun W (hW : Below w.heap.size w W) => l10Asked_any nv lv n p xs stop W (hr.below rfl hW) (hw.below rfl hW) hf hs)
  have HR := Lib.hid (fun h W (hW : Below w.heap.size w W) => l10Rests_any nv lv n p xs stop W (hr.below rfl hW) (hw.below rfl hW) h)
  obtain ⟨a, c, a', c', rfl, -, -⟩ := net_open hr
  obtain ⟨b, d, rfl⟩ := PatternS_open hw
  clear hr hw hf hs
  cases ha : askG n p xs stop with
  | false =>
    rw [ha] at HA
    rw [show gpF n p xs stop = [] by unfold gpF; rw [prF_false ha]; rfl]
    clear ha HR
    go_enter Try.func18, Try.ntmps18
    go_wp2_with fail
    go_at_call 57
    refine (HA.out _ ((Below.refl _ _).alloc (Nat.le_refl _) _)).mono ?_
    rintro e w1 ⟨rfl, hb1⟩
    have HB1 : Hid (Below w.heap.size w w1 ∧ w.heap.size < w1.heap.size) := ⟨((Below.refl _ _).alloc (Nat.le_refl _) _).trans (hb1.mono (by simp)), by have := hb1.size; simp at this; omega⟩
    have p0 : w1.cell? ⟨w.heap.size, 0, none⟩ = some (.slice a n.stops.length c) := bkeep hb1 (by go_simp)
    have p1 : w1.cell? ⟨w.heap.size, 1, none⟩ = some (.slice a' n.lines.length c') := bkeep hb1 (by go_simp)
    clear HA
    clear hb1
    go_wp2_with fail
    go_ret2
    exact ⟨empty_st _ HB1.out.1.size, HB1.out.1.alloc HB1.out.1.size _⟩
  | true =>
    rw [ha] at HA
    have hgood := askG_iff ha
    have HR := Lib.hid (HR.out hgood.1)
    have HPr := Lib.hid (prF_true ha)
    go_enter Try.func18, Try.ntmps18
    go_wp2_with fail
    go_at_call 57
    refine (HA.out _ ((Below.refl _ _).alloc (Nat.le_refl _) _)).mono ?_
    rintro e w1 ⟨rfl, hb1⟩
    have HB1 : Hid (Below w.heap.size w w1 ∧ w.heap.size < w1.heap.size) := ⟨((Below.refl _ _).alloc (Nat.le_refl _) _).trans (hb1.mono (by simp)), by have := hb1.size; simp at this; omega⟩
    have p0 : w1.cell? ⟨w.heap.size, 0, none⟩ = some (.slice a n.stops.length c) := bkeep hb1 (by go_simp)
    have p1 : w1.cell? ⟨w.heap.size, 1, none⟩ = some (.slice a' n.lines.length c') := bkeep hb1 (by go_simp)
    clear HA
    clear hb1
    clear ha hgood
    go_wp2_with fail
    go_at_call 59
    refine (HR.out _ HB1.out.1).mono ?_
    rintro e w2 ⟨⟨v2, rfl, ho2⟩, hb2⟩
    have HB2 : Hid (Below w.heap.size w w2 ∧ w.heap.size < w2.heap.size) := ⟨HB1.out.1.trans (hb2.mono HB1.out.1.size), by have := hb2.size; have := HB1.out.2; omega⟩
    rw [← HPr.out] at ho2
    have hle : w.heap.size ≤ w1.heap.size := HB1.out.1.size
    clear hb2 p0 p1
    have HGp := Lib.hid (l10Gaps_any v2 (prF n p xs stop) p w2 (rowAt_own ho2) (by have := prF_len n p xs stop; omega) prF_good.1 prF_good.2)
    obtain ⟨_, _, rfl⟩ := own_shape ho2
    clear ho2
    go_wp2_with fail
    go_at_call 58
    refine HGp.out.mono ?_
    rintro e w3 ⟨⟨v3, rfl, ho3⟩, hb3⟩
    have HB3 : Hid (Below w.heap.size w w3) := HB2.out.1.trans (hb3.mono HB2.out.1.size)
    have hle : w.heap.size ≤ w2.heap.size := HB2.out.1.size
    have HX := Lib.hid (own_base ho3 hle)
    clear ho3 hb3
    go_wp2_with fail
    go_ret2
    exact ⟨⟨_, rfl, HX.out⟩, HB3.out⟩

set_option maxRecDepth 100000 in
set_option maxHeartbeats 4000000 in
theorem implPassingRests_any (nv lv : Value) (n : NetD) (p : Int) (xs : List PatternD) (stop : Int) (w : World) (hr : NetAt w nv n) (hw : PatternsAt w lv xs) (hf : NetFits n) (hs : NetSmall n) :
    Calls Try.prog 21 #[nv, .int .i64 p, lv, .int .i64 stop] w fun e w' => StAns w.heap.size (prF n p xs stop) (askG n p xs stop) e w' ∧ Below w.heap.size w w' := by
  have HA := Lib.hid (fun W (hW : Below w.heap.size w W) => implPats_any nv lv n p xs W (hr.below rfl hW) (hw.below rfl hW) hf)
  have HR := Lib.hid (fun h W (hW : Below w.heap.size w W) => restsAt_any nv lv n p xs stop W (hr.below rfl hW) (hw.below rfl hW) h)
  obtain ⟨a, c, a', c', rfl, -, -⟩ := net_open hr
  obtain ⟨b, d, rfl⟩ := PatternS_open hw
  clear hr hw hf hs
  cases hg : patsB n p xs with
  | false =>
    rw [hg] at HA
    have ha : askG n p xs stop = false := by unfold askG; rw [hg]; rfl
    rw [ha, prF_false ha]
    clear ha hg HR
    go_enter Try.func21, Try.ntmps21
    go_wp2_with fail
    go_at_call 20
    refine (HA.out _ ((Below.refl _ _).alloc (Nat.le_refl _) _)).mono ?_
    rintro e w1 ⟨rfl, hb1⟩
    have HB1 : Hid (Below w.heap.size w w1 ∧ w.heap.size < w1.heap.size) := ⟨((Below.refl _ _).alloc (Nat.le_refl _) _).trans (hb1.mono (by simp)), by have := hb1.size; simp at this; omega⟩
    have p0 : w1.cell? ⟨w.heap.size, 0, none⟩ = some (.slice a n.stops.length c) := bkeep hb1 (by go_simp)
    have p1 : w1.cell? ⟨w.heap.size, 1, none⟩ = some (.slice a' n.lines.length c') := bkeep hb1 (by go_simp)
    clear HA
    clear hb1
    go_wp2_with fail
    go_ret2
    exact ⟨empty_st _ HB1.out.1.size, HB1.out.1.alloc HB1.out.1.size _⟩
  | true =>
    rw [hg] at HA
    have hgood := patsB_iff hg
    by_cases h0 : stop < 0
    · have ha : askG n p xs stop = false := askG_no (fun h => by omega)
      rw [ha, prF_false ha]
      have hd0 : decide (stop < 0) = true := decide_eq_true h0
      clear ha hg HR hgood
      go_enter Try.func21, Try.ntmps21
      go_wp2_with fail
      go_at_call 20
      refine (HA.out _ ((Below.refl _ _).alloc (Nat.le_refl _) _)).mono ?_
      rintro e w1 ⟨rfl, hb1⟩
      have HB1 : Hid (Below w.heap.size w w1 ∧ w.heap.size < w1.heap.size) := ⟨((Below.refl _ _).alloc (Nat.le_refl _) _).trans (hb1.mono (by simp)), by have := hb1.size; simp at this; omega⟩
      have p0 : w1.cell? ⟨w.heap.size, 0, none⟩ = some (.slice a n.stops.length c) := bkeep hb1 (by go_simp)
      have p1 : w1.cell? ⟨w.heap.size, 1, none⟩ = some (.slice a' n.lines.length c') := bkeep hb1 (by go_simp)
      clear HA
      clear hb1
      go_wp2_with fail
      go_ret2
      exact ⟨empty_st _ HB1.out.1.size, HB1.out.1.alloc HB1.out.1.size _⟩
    · have hd0 : decide (stop < 0) = false := decide_eq_false h0
      by_cases h1 : (n.stops.length : Int) ≤ stop
      · have ha : askG n p xs stop = false := askG_no (fun h => by omega)
        rw [ha, prF_false ha]
        have hd1 : decide ((n.stops.length : Int) ≤ stop) = true := decide_eq_true h1
        clear ha hg HR hgood
        go_enter Try.func21, Try.ntmps21
        go_wp2_with fail
        go_at_call 20
        refine (HA.out _ ((Below.refl _ _).alloc (Nat.le_refl _) _)).mono ?_
        rintro e w1 ⟨rfl, hb1⟩
        have HB1 : Hid (Below w.heap.size w w1 ∧ w.heap.size < w1.heap.size) := ⟨((Below.refl _ _).alloc (Nat.le_refl _) _).trans (hb1.mono (by simp)), by have := hb1.size; simp at this; omega⟩
        have p0 : w1.cell? ⟨w.heap.size, 0, none⟩ = some (.slice a n.stops.length c) := bkeep hb1 (by go_simp)
        have p1 : w1.cell? ⟨w.heap.size, 1, none⟩ = some (.slice a' n.lines.length c') := bkeep hb1 (by go_simp)
        clear HA
        clear hb1
        go_wp2_with fail
        go_ret2
        exact ⟨empty_st _ HB1.out.1.size, HB1.out.1.alloc HB1.out.1.size _⟩
      · have hd1 : decide ((n.stops.length : Int) ≤ stop) = false := decide_eq_false h1
        have ha : askG n p xs stop = true := askG_yes hgood (by omega) (by omega)
        have HR := Lib.hid (HR.out hgood)
        rw [ha, prF_true ha]
        clear ha hg hgood
        go_enter Try.func21, Try.ntmps21
        go_wp2_with fail
        go_at_call 20
        refine (HA.out _ ((Below.refl _ _).alloc (Nat.le_refl _) _)).mono ?_
        rintro e w1 ⟨rfl, hb1⟩
        have HB1 : Hid (Below w.heap.size w w1 ∧ w.heap.size < w1.heap.size) := ⟨((Below.refl _ _).alloc (Nat.le_refl _) _).trans (hb1.mono (by simp)), by have := hb1.size; simp at this; omega⟩
        have p0 : w1.cell? ⟨w.heap.size, 0, none⟩ = some (.slice a n.stops.length c) := bkeep hb1 (by go_simp)
        have p1 : w1.cell? ⟨w.heap.size, 1, none⟩ = some (.slice a' n.lines.length c') := bkeep hb1 (by go_simp)
        clear HA
        clear hb1
        go_wp2_with fail
        go_at_call 62
        refine (HR.out _ HB1.out.1).mono ?_
        rintro e w2 ⟨⟨v2, rfl, ho2⟩, hb2⟩
        have HB2 : Hid (Below w.heap.size w w2) := HB1.out.1.trans (hb2.mono HB1.out.1.size)
        have hle : w.heap.size ≤ w1.heap.size := HB1.out.1.size
        have HX := Lib.hid (own_base ho2 hle)
        clear ho2 hb2
        go_wp2_with fail
        go_ret2
        exact ⟨⟨_, rfl, HX.out⟩, HB2.out⟩

set_option maxRecDepth 100000 in
set_option maxHeartbeats 4000000 in
theorem servedRests_any (nv lv : Value) (n : NetD) (p : Int) (xs : List PatternD) (stop : Int) (w : World) (hr : NetAt w nv n) (hw : PatternsAt w lv xs) (hf : NetFits n) (hs : NetSmall n) :
    Calls Try.prog 63 #[nv, .int .i64 p, lv, .int .i64 stop] w fun e w' => StAns w.heap.size (prF n p xs stop) (servB n p xs stop) e w' ∧ Below w.heap.size w w' := by
  have HR := Lib.hid (fun W (hW : Below w.heap.size w W) => implPassingRests_any nv lv n p xs stop W (hr.below rfl hW) (hw.below rfl hW) hf hs)
  obtain ⟨a, c, a', c', rfl, -, -⟩ := net_open hr
  obtain ⟨b, d, rfl⟩ := PatternS_open hw
  clear hr hw hf hs
  unfold servB
  go_enter Try.func63, Try.ntmps63
  go_wp2_with fail
  go_at_call 21
  refine (HR.out _ ((Below.refl _ _).alloc (Nat.le_refl _) _)).mono ?_
  rintro e w1 ⟨⟨v2, rfl, ho2⟩, hb1⟩
  have HB1 : Hid (Below w.heap.size w w1 ∧ w.heap.size < w1.heap.size) := ⟨((Below.refl _ _).alloc (Nat.le_refl _) _).trans (hb1.mono (by simp)), by have := hb1.size; simp at this; omega⟩
  have p0 : w1.cell? ⟨w.heap.size, 0, none⟩ = some (.slice a n.stops.length c) := bkeep hb1 (by go_simp)
  have p1 : w1.cell? ⟨w.heap.size, 1, none⟩ = some (.slice a' n.lines.length c') := bkeep hb1 (by go_simp)
  clear hb1
  obtain ⟨_, _, rfl⟩ := own_shape ho2
  have hle : w.heap.size ≤ (w.alloc (.cells #[.slice a n.stops.length c, .slice a' n.lines.length c'] 27)).heap.size := by simp
  have HX := Lib.hid (own_base ho2 hle)
  clear ho2 p0 p1 HR
  go_wp2_with fail
  go_ret2
  exact ⟨⟨_, rfl, HX.out⟩, HB1.out.1⟩

end Go.Proofs.Ytfgkfdkdjegaiaa
