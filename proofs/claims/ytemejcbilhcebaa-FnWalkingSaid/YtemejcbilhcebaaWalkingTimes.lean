import Derived.Test.YtemejcbilhcebaaWalkTimes
import Derived.Test.YtemejcbilhcebaaL7Times
import Derived.Test.YtemejcbilhcebaaL7Good
import Derived.Test.YtemejcbilhcebaaStopOf
import Derived.Test.YtemejcbilhcebaaMk04
namespace Go.Proofs.Ytemejcbilhcebaa
open Go.RowKit
set_option linter.unusedVariables false

noncomputable def wtOk (n : NetD) (ws : List WlkD) (s : Int) : Bool := walksB n ws && decide (0 ≤ s ∧ s < (n.stops.length : Int))
noncomputable def wtAns (n : NetD) (ws : List WlkD) (s : Int) : List Int := if wtOk n ws s then wt ws n.stops.length s.toNat else []
theorem wt_isWT {n f : Nat} {ws : List WlkD} (hv : WksOk n ws) (hf : f < n) : IsWT ws n f (wt ws n f) := by rw [firstW_wt hv hf]; exact firstW_isWT hv hf
theorem wt_len {n f : Nat} {ws : List WlkD} (hv : WksOk n ws) (hf : f < n) : (wt ws n f).length = n := (wt_isWT hv hf).1
theorem netGood_stops {n : NetD} (h : NetGood n) : n.stops.length ≤ 8 := h.1.2.1

set_option maxRecDepth 100000 in
set_option maxHeartbeats 2000000 in
theorem walksFrom_any (nv lv : Value) (n : NetD) (ws : List WlkD) (s : Int) (w : World) (hr : NetAt w nv n) (hl : WalksAt w lv ws) (hf : NetFits n) :
    Calls Try.prog 83 #[nv, lv, .int .i64 s] w fun e w' => e = .returned (.bool (wtOk n ws s)) ∧ Below w.heap.size w w' := by
  have HW := Lib.hid (fun W (h : Below w.heap.size w W) => implWalks_any nv lv n ws W (hr.below rfl h) (hl.below rfl h) hf)
  have HS := Lib.hid (fun W (h : Below w.heap.size w W) => isStopOf_any nv n s W (hr.below rfl h) hf)
  obtain ⟨a, c, a', c', rfl, -, -⟩ := net_open hr
  obtain ⟨lb, ld, rfl⟩ := WalkS_open hl
  clear hr hl hf
  unfold wtOk
  cases hw : walksB n ws with
  | false =>
    rw [hw] at HW
    simp only [Bool.false_and]
    clear hw HS
    go_enter Try.func83, Try.ntmps83
    go_wp2_with fail
    go_at_call 35
    refine (HW.out _ ((Below.refl _ _).alloc (Nat.le_refl _) _)).mono ?_
    rintro e w1 ⟨rfl, hb1⟩
    have HB1 : Hid (Below w.heap.size w w1) := ((Below.refl _ _).alloc (Nat.le_refl _) _).trans (hb1.mono (by simp))
    clear hb1
    go_wp2_with fail
    go_ret
    exact ⟨rfl, HB1.out⟩
  | true =>
    rw [hw] at HW
    have hG := (walksB_iff hw).1
    simp only [Bool.true_and]
    have HS : Hid (∀ W, Below w.heap.size w W → Calls Try.prog 60 #[.agg #[.slice a n.stops.length c, .slice a' n.lines.length c'], .int .i64 s] W fun e w' => e = .returned (.bool (decide (0 ≤ s ∧ s < (n.stops.length : Int)))) ∧ Below W.heap.size W w') := fun W hW => (HS.out W hW).mono fun e w' ⟨he, hb⟩ => ⟨by
      rcases he with ⟨h, rfl⟩ | ⟨h, rfl⟩
      · rw [decide_eq_true h.2]
      · rw [decide_eq_false (fun g => h ⟨hG, g⟩)], hb⟩
    generalize decide (0 ≤ s ∧ s < (n.stops.length : Int)) = db at *
    clear hw hG
    go_enter Try.func83, Try.ntmps83
    go_wp2_with fail
    go_at_call 35
    refine (HW.out _ ((Below.refl _ _).alloc (Nat.le_refl _) _)).mono ?_
    rintro e w1 ⟨rfl, hb1⟩
    have HB1 : Hid (Below w.heap.size w w1) := ((Below.refl _ _).alloc (Nat.le_refl _) _).trans (hb1.mono (by simp))
    have p0 : w1.cell? ⟨w.heap.size, 0, none⟩ = some (.slice a n.stops.length c) := bkeep hb1 (by go_simp)
    have p1 : w1.cell? ⟨w.heap.size, 1, none⟩ = some (.slice a' n.lines.length c') := bkeep hb1 (by go_simp)
    clear hb1
    go_wp2_with fail
    go_at_call 60
    refine (HS.out _ HB1.out).mono ?_
    rintro e w2 ⟨rfl, hb2⟩
    have HB2 : Hid (Below w.heap.size w w2) := HB1.out.trans (hb2.mono HB1.out.size)
    clear hb2 p0 p1
    go_wp2_with fail
    go_ret
    exact ⟨rfl, HB2.out⟩

def IntsB (B : Nat) (res : List Int) (b : Bool) (e : Ending) (w' : World) : Prop := ∃ v, e = .returned (.tuple #[v, .bool b]) ∧ IntsIn B w'.heap.size w' v res

set_option maxRecDepth 100000 in
set_option maxHeartbeats 2000000 in
theorem implWalkingTimes_any (nv lv : Value) (n : NetD) (ws : List WlkD) (s : Int) (w : World) (hr : NetAt w nv n) (hl : WalksAt w lv ws) (hf : NetFits n) :
    Calls Try.prog 33 #[nv, lv, .int .i64 s] w fun e w' => IntsB w.heap.size (wtAns n ws s) (wtOk n ws s) e w' ∧ Below w.heap.size w w' := by
  have HW := Lib.hid (fun W (h : Below w.heap.size w W) => walksFrom_any nv lv n ws s W (hr.below rfl h) (hl.below rfl h) hf)
  unfold wtAns
  cases hw : wtOk n ws s with
  | false =>
    rw [hw] at HW
    simp only [Bool.false_eq_true, if_false]
    obtain ⟨a, c, a', c', rfl, -, -⟩ := net_open hr
    obtain ⟨lb, ld, rfl⟩ := WalkS_open hl
    clear hw hr hl hf
    go_enter Try.func33, Try.ntmps33
    go_wp2_with fail
    go_at_call 83
    refine (HW.out _ ((Below.refl _ _).alloc (Nat.le_refl _) _)).mono ?_
    rintro e w1 ⟨rfl, hb1⟩
    have HB1 : Hid (Below w.heap.size w w1) := ((Below.refl _ _).alloc (Nat.le_refl _) _).trans (hb1.mono (by simp))
    clear hb1
    go_wp2_with fail
    go_ret2
    refine ⟨⟨_, rfl, ?_⟩, HB1.out.alloc HB1.out.size _⟩
    have h := World.ownsRow_lit (base := w.heap.size) (e := 3) (size := 1) w1 #[] 0 HB1.out.size (by decide) (by simp)
    exact IntsIn.mk (by simpa [ints] using h)
  | true =>
    rw [hw] at HW
    have hw2 := hw
    unfold wtOk at hw2
    simp only [Bool.and_eq_true, decide_eq_true_eq] at hw2
    obtain ⟨hg, hv⟩ := walksB_iff hw2.1
    obtain ⟨f, rfl⟩ := Int.eq_ofNat_of_zero_le hw2.2.1
    have hfn : f < n.stops.length := by omega
    have HT := Lib.hid (fun W (h : Below w.heap.size w W) => walkingTimesOf_any nv lv n ws f W (hr.below rfl h) (hl.below rfl h) hv (netGood_stops hg) hfn)
    have hlen := wt_len hv hfn
    simp only [if_true, Int.toNat_natCast]
    obtain ⟨a, c, a', c', rfl, -, -⟩ := net_open hr
    obtain ⟨lb, ld, rfl⟩ := WalkS_open hl
    clear hw hw2 hr hl hf hg hv hfn
    generalize wt ws n.stops.length f = R at *
    go_enter Try.func33, Try.ntmps33
    go_wp2_with fail
    go_at_call 83
    refine (HW.out _ ((Below.refl _ _).alloc (Nat.le_refl _) _)).mono ?_
    rintro e w1 ⟨rfl, hb1⟩
    have HB1 : Hid (Below w.heap.size w w1) := ((Below.refl _ _).alloc (Nat.le_refl _) _).trans (hb1.mono (by simp))
    have p0 : w1.cell? ⟨w.heap.size, 0, none⟩ = some (.slice a n.stops.length c) := bkeep hb1 (by go_simp)
    have p1 : w1.cell? ⟨w.heap.size, 1, none⟩ = some (.slice a' n.lines.length c') := bkeep hb1 (by go_simp)
    clear hb1
    go_wp2_with fail
    go_at_call 87
    refine (HT.out _ HB1.out).mono ?_
    rintro e w2 ⟨⟨a2, c2, rfl, ho2⟩, hb2⟩
    have HO := Lib.hid ho2
    have HB2 : Hid (Below w.heap.size w w2) := HB1.out.trans (hb2.mono HB1.out.size)
    clear ho2 hb2 p0 p1
    go_wp2_with fail
    go_ret2
    have hs1 := HB1.out.size
    refine ⟨⟨_, rfl, IntsIn.mk ?_⟩, HB2.out⟩
    rw [hlen]; exact own_base HO.out hs1

set_option maxRecDepth 100000 in
set_option maxHeartbeats 2000000 in
theorem specWalkingTimes_any (nv lv : Value) (n : NetD) (ws : List WlkD) (s : Int) (w : World) (hr : NetAt w nv n) (hl : WalksAt w lv ws) (hf : NetFits n) (hwf : WalksFit ws) :
    Calls Try.prog 34 #[nv, lv, .int .i64 s] w fun e w' => IntsB w.heap.size (wtAns n ws s) (wtOk n ws s) e w' ∧ Below w.heap.size w w' := by
  have HW := Lib.hid (fun W (h : Below w.heap.size w W) => l7Good_any nv lv n ws W (hr.below rfl h) (hl.below rfl h) hf hwf)
  unfold wtAns
  have hcase : walksB n ws = false ∨ (walksB n ws = true ∧ ¬ (0 ≤ s ∧ s < (n.stops.length : Int))) ∨ (walksB n ws = true ∧ (0 ≤ s ∧ s < (n.stops.length : Int))) := by
    cases walksB n ws with
    | false => exact .inl rfl
    | true => by_cases h : 0 ≤ s ∧ s < (n.stops.length : Int); exact .inr (.inr ⟨rfl, h⟩); exact .inr (.inl ⟨rfl, h⟩)
  rcases hcase with hw | ⟨hw, hs⟩ | ⟨hw, hs⟩
  · rw [hw] at HW
    rw [show wtOk n ws s = false by unfold wtOk; rw [hw]; rfl]
    simp only [Bool.false_eq_true, if_false]
    obtain ⟨a, c, a', c', rfl, -, -⟩ := net_open hr
    obtain ⟨lb, ld, rfl⟩ := WalkS_open hl
    clear hw hr hl hf hwf
    go_enter Try.func34, Try.ntmps34
    go_wp2_with fail
    go_at_call 88
    refine (HW.out _ ((Below.refl _ _).alloc (Nat.le_refl _) _)).mono ?_
    rintro e w1 ⟨rfl, hb1⟩
    have HB1 : Hid (Below w.heap.size w w1) := ((Below.refl _ _).alloc (Nat.le_refl _) _).trans (hb1.mono (by simp))
    clear hb1
    go_wp2_with fail
    go_ret2
    refine ⟨⟨_, rfl, ?_⟩, HB1.out.alloc HB1.out.size _⟩
    have h := World.ownsRow_lit (base := w.heap.size) (e := 3) (size := 1) w1 #[] 0 HB1.out.size (by decide) (by simp)
    exact IntsIn.mk (by simpa [ints] using h)
  · rw [hw] at HW
    rw [show wtOk n ws s = false by unfold wtOk; rw [hw, decide_eq_false hs]; rfl]
    simp only [Bool.false_eq_true, if_false]
    have hn8 := netGood_stops (walksB_iff hw).1
    have hlw : IntKind.i64.wrap ((n.stops.length : Int) - 1) = (n.stops.length : Int) - 1 := IntWalk.i64_in _ (by omega)
    have HI := Lib.hid (fun W => l1In_no s 0 ((n.stops.length : Int) - 1) W (by omega))
    obtain ⟨a, c, a', c', rfl, -, -⟩ := net_open hr
    obtain ⟨lb, ld, rfl⟩ := WalkS_open hl
    clear hw hr hl hf hwf hs
    go_enter Try.func34, Try.ntmps34
    go_wp2_with fail
    go_at_call 88
    refine (HW.out _ ((Below.refl _ _).alloc (Nat.le_refl _) _)).mono ?_
    rintro e w1 ⟨rfl, hb1⟩
    have HB1 : Hid (Below w.heap.size w w1) := ((Below.refl _ _).alloc (Nat.le_refl _) _).trans (hb1.mono (by simp))
    have p0 : w1.cell? ⟨w.heap.size, 0, none⟩ = some (.slice a n.stops.length c) := bkeep hb1 (by go_simp)
    clear hb1
    go_wp2_with fail
    go_at_call 49
    refine (HI.out _).mono ?_
    rintro e w2 ⟨rfl, rfl⟩
    go_wp2_with fail
    go_ret2
    refine ⟨⟨_, rfl, ?_⟩, HB1.out.alloc HB1.out.size _⟩
    have h := World.ownsRow_lit (base := w.heap.size) (e := 3) (size := 1) w1 #[] 0 HB1.out.size (by decide) (by simp)
    exact IntsIn.mk (by simpa [ints] using h)
  · rw [hw] at HW
    rw [show wtOk n ws s = true by unfold wtOk; rw [hw, decide_eq_true hs]; rfl]
    simp only [if_true]
    obtain ⟨hg, hv⟩ := walksB_iff hw
    have hn8 := netGood_stops hg
    have hlw : IntKind.i64.wrap ((n.stops.length : Int) - 1) = (n.stops.length : Int) - 1 := IntWalk.i64_in _ (by omega)
    have HI := Lib.hid (fun W => l1In_yes s 0 ((n.stops.length : Int) - 1) W (by omega))
    obtain ⟨f, rfl⟩ := Int.eq_ofNat_of_zero_le hs.1
    have hfn : f < n.stops.length := by omega
    have HT := Lib.hid (fun W (h : Below w.heap.size w W) => l7Times_any lv ws n.stops.length f W (hl.below rfl h) hv hn8 hfn)
    have hlen := wt_len hv hfn
    simp only [Int.toNat_natCast]
    obtain ⟨a, c, a', c', rfl, -, -⟩ := net_open hr
    obtain ⟨lb, ld, rfl⟩ := WalkS_open hl
    clear hw hr hl hf hwf hs hg hv hfn
    generalize wt ws n.stops.length f = R at *
    go_enter Try.func34, Try.ntmps34
    go_wp2_with fail
    go_at_call 88
    refine (HW.out _ ((Below.refl _ _).alloc (Nat.le_refl _) _)).mono ?_
    rintro e w1 ⟨rfl, hb1⟩
    have HB1 : Hid (Below w.heap.size w w1) := ((Below.refl _ _).alloc (Nat.le_refl _) _).trans (hb1.mono (by simp))
    have p0 : w1.cell? ⟨w.heap.size, 0, none⟩ = some (.slice a n.stops.length c) := bkeep hb1 (by go_simp)
    clear hb1
    go_wp2_with fail
    go_at_call 49
    refine (HI.out _).mono ?_
    rintro e w2 ⟨rfl, rfl⟩
    go_wp2_with fail
    go_at_call 89
    refine (HT.out _ HB1.out).mono ?_
    rintro e w2 ⟨⟨a2, c2, rfl, ho2⟩, hb2⟩
    have HO := Lib.hid ho2
    have HB2 : Hid (Below w.heap.size w w2) := HB1.out.trans (hb2.mono HB1.out.size)
    clear ho2 hb2 p0
    go_wp2_with fail
    go_ret2
    have hs1 := HB1.out.size
    refine ⟨⟨_, rfl, IntsIn.mk ?_⟩, HB2.out⟩
    rw [hlen]; exact own_base HO.out hs1

end Go.Proofs.Ytemejcbilhcebaa
