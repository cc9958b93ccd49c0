import Derived.Test.YtfgkfdkdjegaiaaSquares
import Derived.OrdersHeld
import Derived.Deep.RegionHeld
import Derived.Deep.RegionLaw
namespace Go.Proofs.Ytfgkfdkdjegaiaa
open Go.RowKit
set_option linter.unusedVariables false
set_option linter.unusedSimpArgs false

theorem servB_yes {n : NetD} {p : Int} {xs : List PatternD} {stop : Int} (h : servB n p xs stop = true) : 0 < (prF n p xs stop).length := by unfold servB at h; exact of_decide_eq_true h
theorem servB_len {n : NetD} {p : Int} {xs : List PatternD} {stop : Int} (h : 0 < (prF n p xs stop).length) : servB n p xs stop = true := by unfold servB; exact decide_eq_true h
theorem gpF_len (n : NetD) (p : Int) (xs : List PatternD) (stop : Int) : (gpF n p xs stop).length = (prF n p xs stop).length := by unfold gpF; exact gaps_len _ _
theorem servB_no {n : NetD} {p : Int} {xs : List PatternD} {stop : Int} (h : servB n p xs stop = false) : (gpF n p xs stop).length = 0 := by unfold servB at h; have := of_decide_eq_false h; rw [gpF_len]; omega
theorem lgF_yes {n : NetD} {p : Int} {xs : List PatternD} {stop : Int} (h : servB n p xs stop = true) : lgF n p xs stop = (lgV (gpF n p xs stop), (prF n p xs stop).getD (lgI (gpF n p xs stop)) 0) := by unfold lgF; rw [h]; rfl
theorem lgF_no {n : NetD} {p : Int} {xs : List PatternD} {stop : Int} (h : servB n p xs stop = false) : lgF n p xs stop = (0, 0) := by unfold lgF; rw [h]; rfl

set_option maxRecDepth 100000 in
set_option maxHeartbeats 4000000 in
theorem implLargestGap_any (nv lv : Value) (n : NetD) (p : Int) (xs : List PatternD) (stop : Int) (w : World) (hr : NetAt w nv n) (hw : PatternsAt w lv xs) (hf : NetFits n) (hs : NetSmall n) :
    Calls Try.prog 22 #[nv, .int .i64 p, lv, .int .i64 stop] w fun e w' => e = .returned (.tuple #[.int .i64 (lgF n p xs stop).1, .int .i64 (lgF n p xs stop).2, .bool (servB n p xs stop)]) ∧ Below w.heap.size w w' := by
  have HR := Lib.hid (fun W (hW : Below w.heap.size w W) => servedRests_any nv lv n p xs stop W (hr.below rfl hW) (hw.below rfl hW) hf hs)
  obtain ⟨a, c, a', c', rfl, -, -⟩ := net_open hr
  obtain ⟨b, d, rfl⟩ := PatternS_open hw
  clear hr hw hf hs
  cases hs : servB n p xs stop with
  | false =>
    rw [hs] at HR
    rw [lgF_no hs]
    clear hs
    go_enter Try.func22, Try.ntmps22
    go_wp2_with fail
    go_at_call 63
    refine (HR.out _ ((Below.refl _ _).alloc (Nat.le_refl _) _)).mono ?_
    rintro e w1 ⟨⟨v2, rfl, ho2⟩, hb1⟩
    have HB1 : Hid (Below w.heap.size w w1 ∧ w.heap.size < w1.heap.size) := ⟨((Below.refl _ _).alloc (Nat.le_refl _) _).trans (hb1.mono (by simp)), by have := hb1.size; simp at this; omega⟩
    have p0 : w1.cell? ⟨w.heap.size, 0, none⟩ = some (.slice a n.stops.length c) := bkeep hb1 (by go_simp)
    have p1 : w1.cell? ⟨w.heap.size, 1, none⟩ = some (.slice a' n.lines.length c') := bkeep hb1 (by go_simp)
    clear hb1
    obtain ⟨_, _, rfl⟩ := own_shape ho2
    clear ho2 p0 p1 HR
    go_wp2_with fail
    go_ret3
    exact ⟨rfl, HB1.out.1⟩
  | true =>
    rw [hs] at HR
    rw [lgF_yes hs]
    go_enter Try.func22, Try.ntmps22
    go_wp2_with fail
    go_at_call 63
    refine (HR.out _ ((Below.refl _ _).alloc (Nat.le_refl _) _)).mono ?_
    rintro e w1 ⟨⟨v2, rfl, ho2⟩, hb1⟩
    have HB1 : Hid (Below w.heap.size w w1 ∧ w.heap.size < w1.heap.size) := ⟨((Below.refl _ _).alloc (Nat.le_refl _) _).trans (hb1.mono (by simp)), by have := hb1.size; simp at this; omega⟩
    have p0 : w1.cell? ⟨w.heap.size, 0, none⟩ = some (.slice a n.stops.length c) := bkeep hb1 (by go_simp)
    have p1 : w1.cell? ⟨w.heap.size, 1, none⟩ = some (.slice a' n.lines.length c') := bkeep hb1 (by go_simp)
    clear hb1
    have HC := Lib.hid (largestGap_any v2 (prF n p xs stop) p w1 (rowAt_own ho2) (servB_yes hs) (by have := prF_len n p xs stop; omega) prF_good.1 prF_good.2)
    obtain ⟨_, _, rfl⟩ := own_shape ho2
    clear ho2 p0 p1 HR hs
    go_wp2_with fail
    go_at_call 64
    refine HC.out.mono ?_
    rintro e w2 ⟨rfl, hb2⟩
    have HB2 : Hid (Below w.heap.size w w2) := HB1.out.1.trans (hb2.mono HB1.out.1.size)
    clear hb2 HC
    go_wp2_with fail
    go_ret3
    exact ⟨rfl, HB2.out⟩

set_option maxRecDepth 100000 in
set_option maxHeartbeats 4000000 in
theorem specLargestGap_any (nv lv : Value) (n : NetD) (p : Int) (xs : List PatternD) (stop : Int) (w : World) (hr : NetAt w nv n) (hw : PatternsAt w lv xs) (hf : NetFits n) (hs : NetSmall n) :
    Calls Try.prog 54 #[nv, .int .i64 p, lv, .int .i64 stop] w fun e w' => e = .returned (.tuple #[.int .i64 (lgF n p xs stop).1, .int .i64 (lgF n p xs stop).2, .bool (servB n p xs stop)]) ∧ Below w.heap.size w w' := by
  have HR := Lib.hid (fun W (hW : Below w.heap.size w W) => specGapsAt_any nv lv n p xs stop W (hr.below rfl hW) (hw.below rfl hW) hf hs)
  have HRs := Lib.hid (fun h W (hW : Below w.heap.size w W) => l10Rests_any nv lv n p xs stop W (hr.below rfl hW) (hw.below rfl hW) h)
  obtain ⟨a, c, a', c', rfl, -, -⟩ := net_open hr
  obtain ⟨b, d, rfl⟩ := PatternS_open hw
  clear hr hw hf hs
  cases hs : servB n p xs stop with
  | false =>
    rw [lgF_no hs]
    have hl0 := servB_no hs
    clear hs
    cases ha : askG n p xs stop with
    | false =>
      rw [ha] at HR
      clear ha
      go_enter Try.func54, Try.ntmps54
      go_wp2_with fail
      go_at_call 18
      refine (HR.out _ ((Below.refl _ _).alloc (Nat.le_refl _) _)).mono ?_
      rintro e w1 ⟨⟨v2, rfl, ho2⟩, hb1⟩
      have HB1 : Hid (Below w.heap.size w w1 ∧ w.heap.size < w1.heap.size) := ⟨((Below.refl _ _).alloc (Nat.le_refl _) _).trans (hb1.mono (by simp)), by have := hb1.size; simp at this; omega⟩
      have p0 : w1.cell? ⟨w.heap.size, 0, none⟩ = some (.slice a n.stops.length c) := bkeep hb1 (by go_simp)
      have p1 : w1.cell? ⟨w.heap.size, 1, none⟩ = some (.slice a' n.lines.length c') := bkeep hb1 (by go_simp)
      clear hb1
      obtain ⟨_, _, rfl⟩ := own_shape ho2
      clear ho2 p0 p1 HR
      go_wp2_with fail
      go_ret3
      exact ⟨rfl, HB1.out.1⟩
    | true =>
      rw [ha] at HR
      clear ha
      go_enter Try.func54, Try.ntmps54
      go_wp2_with fail
      go_at_call 18
      refine (HR.out _ ((Below.refl _ _).alloc (Nat.le_refl _) _)).mono ?_
      rintro e w1 ⟨⟨v2, rfl, ho2⟩, hb1⟩
      have HB1 : Hid (Below w.heap.size w w1 ∧ w.heap.size < w1.heap.size) := ⟨((Below.refl _ _).alloc (Nat.le_refl _) _).trans (hb1.mono (by simp)), by have := hb1.size; simp at this; omega⟩
      have p0 : w1.cell? ⟨w.heap.size, 0, none⟩ = some (.slice a n.stops.length c) := bkeep hb1 (by go_simp)
      have p1 : w1.cell? ⟨w.heap.size, 1, none⟩ = some (.slice a' n.lines.length c') := bkeep hb1 (by go_simp)
      clear hb1
      rw [hl0] at ho2
      obtain ⟨_, _, rfl⟩ := own_shape ho2
      clear ho2 p0 p1 HR hl0
      go_wp2_with fail
      go_ret3
      exact ⟨rfl, HB1.out.1⟩
  | true =>
    rw [lgF_yes hs]
    have ha := prF_ask (servB_yes hs)
    rw [ha] at HR
    have hl0 : 0 < (gpF n p xs stop).length := by rw [gpF_len]; exact servB_yes hs
    have hl1 : ((gpF n p xs stop).length == 0) = false := by simp; intro e; rw [e] at hl0; simp at hl0
    have hl2 : (((gpF n p xs stop).length : Int) == 0) = false := by rw [beq_eq_false_iff_ne]; omega
    obtain ⟨V, hV⟩ : ∃ V, lgV (gpF n p xs stop) = V := ⟨_, rfl⟩
    obtain ⟨I, hI⟩ : ∃ I, lgI (gpF n p xs stop) = I := ⟨_, rfl⟩
    rw [hV, hI]
    obtain ⟨R0, hR0⟩ : ∃ R, (prF n p xs stop).getD I 0 = R := ⟨_, rfl⟩
    rw [hR0]
    have HR0 := Lib.hid hR0
    have HVI := Lib.hid (And.intro hV hI)
    clear hR0 hV
    have HRs := Lib.hid (HRs.out (askG_iff ha).1)
    have HPr := Lib.hid (prF_true ha)
    have hIl : I < (prF n p xs stop).length := by rw [← gpF_len, ← hI]; exact lgI_lt hl0
    clear ha hI
    go_enter Try.func54, Try.ntmps54
    go_wp2_with fail
    go_at_call 18
    refine (HR.out _ ((Below.refl _ _).alloc (Nat.le_refl _) _)).mono ?_
    rintro e w1 ⟨⟨v2, rfl, ho2⟩, hb1⟩
    have HB1 : Hid (Below w.heap.size w w1 ∧ w.heap.size < w1.heap.size) := ⟨((Below.refl _ _).alloc (Nat.le_refl _) _).trans (hb1.mono (by simp)), by have := hb1.size; simp at this; omega⟩
    have p0 : w1.cell? ⟨w.heap.size, 0, none⟩ = some (.slice a n.stops.length c) := bkeep hb1 (by go_simp)
    have p1 : w1.cell? ⟨w.heap.size, 1, none⟩ = some (.slice a' n.lines.length c') := bkeep hb1 (by go_simp)
    clear hb1
    have HC := Lib.hid (l10Largest_any v2 (gpF n p xs stop) w1 (rowAt_own ho2) (by rw [gpF_len]; exact servB_yes hs))
    rw [HVI.out.1, HVI.out.2] at HC
    obtain ⟨_, _, rfl⟩ := own_shape ho2
    clear ho2 HR hs
    go_wp2_with fail
    go_at_call 74
    refine HC.out.mono ?_
    rintro e w2 ⟨rfl, hb2⟩
    have HB2 : Hid (Below w.heap.size w w2 ∧ w.heap.size < w2.heap.size) := ⟨HB1.out.1.trans (hb2.mono HB1.out.1.size), by have := hb2.size; have := HB1.out.2; omega⟩
    have p0 := bkeep hb2 p0
    have p1 := bkeep hb2 p1
    clear hb2 HC
    have hI0 : (0 : Int) ≤ (I : Int) := by omega
    have hI1 : (I : Int) < ((prF n p xs stop).length : Int) := by omega
    go_wp2_with fail
    refine wp_region_held_drew (S := (fun w' => w'.cell? ⟨w.heap.size, 0, none⟩ = some (.slice a n.stops.length c) ∧ w'.cell? ⟨w.heap.size, 1, none⟩ = some (.slice a' n.lines.length c') ∧ Below w2.heap.size w2 w')) (by kernel_rfl) ?_ (fun hHeld => ?_)
    · exact ⟨p0, p1, (Below.refl _ _).drew⟩
    refine wpAnyH_take (i := 0) (v := ?_) (by simp only [List.getElem?_toArray, List.getElem?_cons_zero]; rfl) (by kernel_rfl) (by kernel_rfl) (by kernel_rfl) (by exact fun _ _ _ h => h) (Or.inl ⟨by rfl, ?_⟩) (by assumption) ?_
    rotate_left
    · intro w' hSw; (try dsimp only at hSw); obtain ⟨e0, e1, _⟩ := hSw
      go_simp; try with_reducible rfl
    try simp only [Act.put, List.setIfInBounds_toArray, List.set_cons_zero, List.set_cons_succ]
    refine wpAnyH_take (i := 1) (v := ?_) (by simp only [List.getElem?_toArray, List.getElem?_cons_succ, List.getElem?_cons_zero]; rfl) (by kernel_rfl) (by kernel_rfl) (by kernel_rfl) (by exact fun _ _ _ h => h) (Or.inl ⟨by rfl, ?_⟩) (by assumption) ?_
    rotate_left
    · intro w' hSw; (try dsimp only at hSw); obtain ⟨e0, e1, _⟩ := hSw
      go_simp; try with_reducible rfl
    try simp only [Act.put, List.setIfInBounds_toArray, List.set_cons_zero, List.set_cons_succ]
    refine wpAnyH_take (i := 2) (v := ?_) (by simp only [List.getElem?_toArray, List.getElem?_cons_succ, List.getElem?_cons_zero]; rfl) (by kernel_rfl) (by kernel_rfl) (by kernel_rfl) (by exact fun _ _ _ h => h) (Or.inl ⟨by rfl, ?_⟩) (by assumption) ?_
    rotate_left
    · intro w' hSw; (try dsimp only at hSw); obtain ⟨e0, e1, _⟩ := hSw
      go_simp; try with_reducible rfl
    try simp only [Act.put, List.setIfInBounds_toArray, List.set_cons_zero, List.set_cons_succ]
    refine wpAnyH_take (i := 3) (v := ?_) (by simp only [List.getElem?_toArray, List.getElem?_cons_succ, List.getElem?_cons_zero]; rfl) (by kernel_rfl) (by kernel_rfl) (by kernel_rfl) (by exact fun _ _ _ h => h) (Or.inl ⟨by rfl, ?_⟩) (by assumption) ?_
    rotate_left
    · intro w' hSw; (try dsimp only at hSw); obtain ⟨e0, e1, _⟩ := hSw
      go_simp; try with_reducible rfl
    try simp only [Act.put, List.setIfInBounds_toArray, List.set_cons_zero, List.set_cons_succ]
    refine wpAnyH_take (i := 4) (v := ?_) (by simp only [List.getElem?_toArray, List.getElem?_cons_succ, List.getElem?_cons_zero]; rfl) (by kernel_rfl) (by kernel_rfl) (by kernel_rfl) (by exact fun _ _ _ h => h) (Or.inl ⟨by rfl, ?_⟩) (by assumption) ?_
    rotate_left
    · intro w' hSw; (try dsimp only at hSw); obtain ⟨e0, e1, _⟩ := hSw
      go_simp; try with_reducible rfl
    try simp only [Act.put, List.setIfInBounds_toArray, List.set_cons_zero, List.set_cons_succ]
    refine wpAnyH_take (i := 6) (v := ?_) (by simp only [List.getElem?_toArray, List.getElem?_cons_succ, List.getElem?_cons_zero]; rfl) (by kernel_rfl) (by kernel_rfl) (by kernel_rfl) (by exact fun _ _ _ h => h) (Or.inl ⟨by rfl, ?_⟩) (by assumption) ?_
    rotate_left
    · intro w' hSw; (try dsimp only at hSw); obtain ⟨e0, e1, _⟩ := hSw
      go_simp; try with_reducible rfl
    try simp only [Act.put, List.setIfInBounds_toArray, List.set_cons_zero, List.set_cons_succ]
    refine wpAnyH_ready (rs := [5]) (by kernel_rfl) (by simp) ?_
    refine AllReadyH.cons (by simp only [List.getElem?_toArray, List.getElem?_cons_succ, List.getElem?_cons_zero]; rfl) (fun K hK => ?_) AllReadyH.nil
    go_simp
    go_at_call 59
    refine (HRs.out _ (HB2.out.1.trans ((Below.refl _ _).drew.mono HB2.out.1.size))).mono ?_
    rintro e w5 ⟨⟨v5, rfl, ho5⟩, hb⟩
    have rb : Below w2.heap.size w2 w5 := (Below.refl _ _).drew.trans hb
    have hS5 : w5.cell? ⟨w.heap.size, 0, none⟩ = some (.slice a n.stops.length c) ∧ w5.cell? ⟨w.heap.size, 1, none⟩ = some (.slice a' n.lines.length c') ∧ Below w2.heap.size w2 w5 := ⟨bkeep rb p0, bkeep rb p1, rb⟩
    rw [← HPr.out] at ho5
    obtain ⟨_, _, rfl, hac, ham, HCx⟩ := ints_open (rowAt_own ho5)
    obtain ⟨ab, ao, rfl, -, hax⟩ := HCx.out I hIl
    have HGD : Hid (R0 = (prF n p xs stop)[I]'hIl) := by show _ = _; rw [← HR0.out]; simp [List.getD, hIl]
    clear hb ho5 HCx
    go_wp2_with fail
    refine hK.out _ _ hS5 (fun hH5 => ?_)
    clear hK K
    try simp only [Act.put, List.setIfInBounds_toArray, List.set_cons_zero, List.set_cons_succ]
    refine wpAnyH_take (i := 7) (v := ?_) (by simp only [List.getElem?_toArray, List.getElem?_cons_succ, List.getElem?_cons_zero]; rfl) (by kernel_rfl) (by kernel_rfl) (by kernel_rfl) (by exact fun _ _ _ h => h) (Or.inl ⟨by rfl, ?_⟩) (by assumption) ?_
    rotate_left
    · intro w' hSw; (try dsimp only at hSw); obtain ⟨e0, e1, _⟩ := hSw
      go_simp; try with_reducible rfl
    try simp only [Act.put, List.setIfInBounds_toArray, List.set_cons_zero, List.set_cons_succ]
    refine wpAnyH_take (i := 9) (v := ?_) (by simp only [List.getElem?_toArray, List.getElem?_cons_succ, List.getElem?_cons_zero]; rfl) (by kernel_rfl) (by kernel_rfl) (by kernel_rfl) (by exact fun _ _ _ h => h) (Or.inl ⟨by rfl, ?_⟩) (by assumption) ?_
    rotate_left
    · intro w' hSw; (try dsimp only at hSw); obtain ⟨e0, e1, _⟩ := hSw
      go_simp; try with_reducible rfl
    try simp only [Act.put, List.setIfInBounds_toArray, List.set_cons_zero, List.set_cons_succ]
    refine wpAnyH_ready (rs := [8]) (by kernel_rfl) (by simp) ?_
    refine AllReadyH.cons (by simp only [List.getElem?_toArray, List.getElem?_cons_succ, List.getElem?_cons_zero]; rfl) (fun K hK => ?_) AllReadyH.nil
    go_simp
    refine hK.out _ _ hS5 (fun hH8 => ?_)
    clear hK K
    try simp only [Act.put, List.setIfInBounds_toArray, List.set_cons_zero, List.set_cons_succ]
    refine wpAnyH_take (i := 10) (v := ?_) (by simp only [List.getElem?_toArray, List.getElem?_cons_succ, List.getElem?_cons_zero]; rfl) (by kernel_rfl) (by kernel_rfl) (by kernel_rfl) (by exact fun _ _ _ h => h) (Or.inl ⟨by rfl, ?_⟩) (by assumption) ?_
    rotate_left
    · intro w' hSw; (try dsimp only at hSw); obtain ⟨e0, e1, _⟩ := hSw
      go_simp; try with_reducible rfl
    try simp only [Act.put, List.setIfInBounds_toArray, List.set_cons_zero, List.set_cons_succ]
    refine wpAnyH_take (i := 11) (v := ?_) (by simp only [List.getElem?_toArray, List.getElem?_cons_succ, List.getElem?_cons_zero]; rfl) (by kernel_rfl) (by kernel_rfl) (by kernel_rfl) (by exact fun _ _ _ h => h) (Or.inl ⟨by rfl, ?_⟩) (by assumption) ?_
    rotate_left
    · intro w' hSw; (try dsimp only at hSw); obtain ⟨e0, e1, _⟩ := hSw
      go_simp; try with_reducible rfl
    try simp only [Act.put, List.setIfInBounds_toArray, List.set_cons_zero, List.set_cons_succ]
    refine wpAnyH_done (by kernel_rfl) ?_ _
    have HB5 : Hid (Below w.heap.size w w5) := HB2.out.1.trans (rb.mono HB2.out.1.size)
    clear hH5 hH8 p0 p1 hS5 rb
    go_wp2_with fail
    go_ret3
    exact ⟨by rw [HGD.out]; rfl, HB5.out⟩

end Go.Proofs.Ytfgkfdkdjegaiaa
