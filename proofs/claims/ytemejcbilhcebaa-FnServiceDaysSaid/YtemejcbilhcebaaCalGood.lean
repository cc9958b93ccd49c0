import Derived.Test.YtemejcbilhcebaaCalRise
import Derived.RegionCalls
import Derived.Deep.RegionHeld3
namespace Go.Proofs.Ytemejcbilhcebaa
open Go.RowKit
set_option linter.unusedVariables false

def CalBox (w : World) (b : Nat) (c : CalD) (av rv : Value) : Prop :=
  w.cell? ⟨b, 0, none⟩ = some (.int .i64 c.frm) ∧ w.cell? ⟨b, 1, none⟩ = some (.int .i64 c.too) ∧ w.cell? ⟨b, 2, none⟩ = some (.int .i64 c.wd) ∧ w.cell? ⟨b, 3, none⟩ = some av ∧ w.cell? ⟨b, 4, none⟩ = some rv
theorem CalBox.keep {w w' : World} {b : Nat} {c : CalD} {av rv : Value} (hb : Below w.heap.size w w') (h : CalBox w b c av rv) : CalBox w' b c av rv := by
  obtain ⟨h0, h1, h2, h3, h4⟩ := h
  exact ⟨bkeep hb h0, bkeep hb h1, bkeep hb h2, bkeep hb h3, bkeep hb h4⟩
theorem calBox_new (w : World) (c : CalD) (av rv : Value) (t : TypeId) : CalBox (w.alloc (.cells #[.int .i64 c.frm, .int .i64 c.too, .int .i64 c.wd, av, rv] t)) w.heap.size c av rv := ⟨by go_simp, by go_simp, by go_simp, by go_simp, by go_simp⟩
theorem CalBox.lt {w : World} {b : Nat} {c : CalD} {av rv : Value} (h : CalBox w b c av rv) : b < w.heap.size := World.block_lt_of_cell? w ⟨b, 0, none⟩ h.1

theorem keepC {W w w' : World} {B : Nat} {p0 p1 p2 p3 p4 p5 : Addr} {x0 x1 x2 x3 x4 x5 : Value} (hb : Below w.heap.size w w') (hB : B ≤ w.heap.size)
    (h : w.cell? p0 = some x0 ∧ w.cell? p1 = some x1 ∧ w.cell? p2 = some x2 ∧ w.cell? p3 = some x3 ∧ w.cell? p4 = some x4 ∧ w.cell? p5 = some x5 ∧ Below B W w) :
    w'.cell? p0 = some x0 ∧ w'.cell? p1 = some x1 ∧ w'.cell? p2 = some x2 ∧ w'.cell? p3 = some x3 ∧ w'.cell? p4 = some x4 ∧ w'.cell? p5 = some x5 ∧ Below B W w' := by
  obtain ⟨h0, h1, h2, h3, h4, h5, h6⟩ := h
  exact ⟨bkeep hb h0, bkeep hb h1, bkeep hb h2, bkeep hb h3, bkeep hb h4, bkeep hb h5, h6.trans (hb.mono hB)⟩
theorem keepC' {W w' w'' : World} {p0 p1 p2 p3 p4 p5 : Addr} {x0 x1 x2 x3 x4 x5 : Value} (hb : Below w'.heap.size w' w'')
    (h : w'.cell? p0 = some x0 ∧ w'.cell? p1 = some x1 ∧ w'.cell? p2 = some x2 ∧ w'.cell? p3 = some x3 ∧ w'.cell? p4 = some x4 ∧ w'.cell? p5 = some x5 ∧ Below W.heap.size W w') :
    w''.cell? p0 = some x0 ∧ w''.cell? p1 = some x1 ∧ w''.cell? p2 = some x2 ∧ w''.cell? p3 = some x3 ∧ w''.cell? p4 = some x4 ∧ w''.cell? p5 = some x5 ∧ Below W.heap.size W w'' :=
  keepC hb h.2.2.2.2.2.2.size h

theorem belC {W w' : World} {B : Nat} {p0 p1 p2 p3 p4 p5 : Addr} {x0 x1 x2 x3 x4 x5 : Value}
    (h : w'.cell? p0 = some x0 ∧ w'.cell? p1 = some x1 ∧ w'.cell? p2 = some x2 ∧ w'.cell? p3 = some x3 ∧ w'.cell? p4 = some x4 ∧ w'.cell? p5 = some x5 ∧ Below B W w') : Below B W w' := h.2.2.2.2.2.2
theorem regB_in {c : CalD} {d : Int} (h : c.frm ≤ d ∧ d ≤ c.too) : regB c d = wdB c.wd d := by
  rw [Bool.eq_iff_iff, regB_iff]; exact ⟨fun g => g.2, fun g => ⟨h, g⟩⟩

set_option maxRecDepth 100000 in
set_option maxHeartbeats 4000000 in
theorem l3Good_any (v : Value) (c : CalD) (w : World) (hr : CalAt w v c) :
    Calls Try.prog 75 #[v] w fun e w' => e = .returned (.bool (calB c)) ∧ Below w.heap.size w w' := by
  have HV := Lib.hid hr
  have HAt := Lib.hid (fun W (h : Below w.heap.size w W) => hr.below rfl h)
  obtain ⟨av, rv, rfl, ha, hrm⟩ := hr
  have HRa := Lib.hid (fun W (h : Below w.heap.size w W) => l1Rising_any av c.added c.frm c.too W (ha.below rfl h))
  have HRr := Lib.hid (fun W (h : Below w.heap.size w W) => l1Rising_any rv c.removed c.frm c.too W (hrm.below rfl h))
  obtain ⟨a, ca, rfl, hca, hcb, HC⟩ := ints_open ha
  obtain ⟨b, cb, rfl, hcc, hcd, HC'⟩ := ints_open hrm
  clear ha hrm
  by_cases h1 : 0 ≤ c.frm ∧ c.frm ≤ c.too
  rotate_left
  · have HN : Hid (calB c = false) := calB_no (fun g => h1 ⟨g.1.1, g.1.2.1⟩)
    have HI := Lib.hid h1
    clear h1 HRa HRr HAt HV
    go_enter Try.func75, Try.ntmps75
    go_wp2_with fail
    go_at_call 49
    refine (l1In_no _ _ _ _ HI.out).mono ?_
    rintro e w' ⟨rfl, rfl⟩
    go_wp2_with fail
    go_ret
    exact ⟨ret_bool HN.out.symm, (Below.refl _ _).alloc (Nat.le_refl _) _⟩
  have H1 := Lib.hid h1
  by_cases h2 : c.too ≤ 3650
  rotate_left
  · have HN : Hid (calB c = false) := calB_no (fun g => h2 g.1.2.2.1)
    have h2' : 3650 < c.too := by omega
    clear h1 h2 HRa HRr HAt HV
    go_enter Try.func75, Try.ntmps75
    go_wp2_with fail
    go_at_call 49
    refine (l1In_yes _ _ _ _ H1.out).mono ?_
    rintro e w' ⟨rfl, rfl⟩
    go_wp2_with fail
    go_ret
    exact ⟨ret_bool HN.out.symm, (Below.refl _ _).alloc (Nat.le_refl _) _⟩
  by_cases h3 : 0 ≤ c.wd ∧ c.wd ≤ 127
  rotate_left
  · have HN : Hid (calB c = false) := calB_no (fun g => h3 ⟨g.1.2.2.2.1, g.1.2.2.2.2⟩)
    have H3 := Lib.hid h3
    clear h1 h3 HRa HRr HAt HV
    go_enter Try.func75, Try.ntmps75
    go_wp2_with fail
    go_at_call 49
    refine (l1In_yes _ _ _ _ H1.out).mono ?_
    rintro e w' ⟨rfl, rfl⟩
    go_wp2_with fail
    go_at_call 49
    refine (l1In_no _ _ _ _ H3.out).mono ?_
    rintro e w' ⟨rfl, rfl⟩
    go_wp2_with fail
    go_ret
    exact ⟨ret_bool HN.out.symm, (Below.refl _ _).alloc (Nat.le_refl _) _⟩
  have H3 := Lib.hid h3
  have HNum : Hid (CalNum c) := ⟨h1.1, h1.2, h2, h3.1, h3.2⟩
  clear h1 h3
  by_cases h4 : c.added.length ≤ 8 ∧ c.removed.length ≤ 8
  rotate_left
  · have HN : Hid (calB c = false) := calB_no (fun g => h4 ⟨g.2.1, g.2.2.1⟩)
    have h4' : (8 < (c.added.length : Int)) ∨ ((c.added.length : Int) ≤ 8 ∧ 8 < (c.removed.length : Int)) := by omega
    clear h4 HRa HRr HAt HV
    rcases h4' with h4' | ⟨h4', h5'⟩
    all_goals
      go_enter Try.func75, Try.ntmps75
      go_wp2_with fail
      go_at_call 49
      refine (l1In_yes _ _ _ _ H1.out).mono ?_
      rintro e w' ⟨rfl, rfl⟩
      go_wp2_with fail
      go_at_call 49
      refine (l1In_yes _ _ _ _ H3.out).mono ?_
      rintro e w' ⟨rfl, rfl⟩
      go_wp2_with fail
      go_ret
      exact ⟨ret_bool HN.out.symm, (Below.refl _ _).alloc (Nat.le_refl _) _⟩
  obtain ⟨h4, h5⟩ := h4
  have h4' : (c.added.length : Int) ≤ 8 := by omega
  have h5' : (c.removed.length : Int) ≤ 8 := by omega
  go_enter Try.func75, Try.ntmps75
  go_wp2_with fail
  go_at_call 49
  refine (l1In_yes _ _ _ _ H1.out).mono ?_
  rintro e w' ⟨rfl, rfl⟩
  go_wp2_with fail
  go_at_call 49
  refine (l1In_yes _ _ _ _ H3.out).mono ?_
  rintro e w' ⟨rfl, rfl⟩
  go_wp2_with fail
  go_at_call 72
  refine (HRa.out _ ((Below.refl _ _).alloc (Nat.le_refl _) _)).mono ?_
  rintro e w1 ⟨rfl, hb1⟩
  have HB1 : Hid (Below w.heap.size w w1) := ((Below.refl _ _).alloc (Nat.le_refl _) _).trans (hb1.mono (by simp))
  obtain ⟨c0, c1, c2, c3, c4⟩ := (calBox_new w c (.slice a c.added.length ca) (.slice b c.removed.length cb) _).keep hb1
  clear hb1
  by_cases hra : Rise c.added c.frm c.too
  rotate_left
  · have HN : Hid (calB c = false) := calB_no (fun g => hra g.2.2.2.1)
    rw [riseB_no hra]
    go_wp2_with fail
    go_ret
    exact ⟨ret_bool HN.out.symm, HB1.out⟩
  have HRA := Lib.hid hra
  rw [riseB_yes hra]
  clear hra
  go_wp2_with fail
  go_at_call 72
  refine (HRr.out _ HB1.out).mono ?_
  rintro e w2 ⟨rfl, hb2⟩
  have HB2 : Hid (Below w.heap.size w w2) := HB1.out.trans (hb2.mono HB1.out.size)
  obtain ⟨d0, d1, d2, d3, d4⟩ := (show CalBox w1 w.heap.size c (.slice a c.added.length ca) (.slice b c.removed.length cb) from ⟨c0, c1, c2, c3, c4⟩).keep hb2
  clear hb2 c0 c1 c2 c3 c4 HB1
  by_cases hrr : Rise c.removed c.frm c.too
  rotate_left
  · have HN : Hid (calB c = false) := calB_no (fun g => hrr g.2.2.2.2.1)
    rw [riseB_no hrr]
    go_wp2_with fail
    go_ret
    exact ⟨ret_bool HN.out.symm, HB2.out⟩
  have HRR := Lib.hid hrr
  rw [riseB_yes hrr]
  clear hrr HRa HRr H1 H3
  go_wp2_with fail
  go_loopw [3] (fun i wr => ∃ k : Nat, k ≤ c.added.length ∧ i = .int .i64 k ∧ Hid (∀ j (hj : j < c.added.length), j < k → wdB c.wd c.added[j] = false) ∧ CalBox wr w.heap.size c (.slice a c.added.length ca) (.slice b c.removed.length cb) ∧ Hid (Below w.heap.size w wr))
    (fun i _ => c.added.length - (RowKit.intOf i).toNat)
  case atStart => exact ⟨0, Nat.zero_le _, rfl, fun j hj h => by omega, ⟨d0, d1, d2, d3, d4⟩, HB2.out⟩
  case round =>
    clear d0 d1 d2 d3 d4 HB2
    obtain ⟨k, hk, rfl, HT, ⟨d0, d1, d2, d3, d4⟩, HBl⟩ := hrel
    by_cases hlt : k < c.added.length
    · obtain ⟨g, off, rfl, hbl, hcx0⟩ := HC.out k hlt
      have hcx : wr.cell? ⟨g, off + k, none⟩ = some (.int .i64 c.added[k]) := by rw [HBl.out.cell (p := ⟨g, off + k, none⟩) hbl]; exact hcx0
      have HRg := Lib.hid (fun W (h : Below w.heap.size w W) => l3Regular_any _ c c.added[k] W (HAt.out W h) HNum.out)
      rw [regB_in (HRA.out k hlt hlt).1] at HRg
      have hk1 : (k : Int) < (c.added.length : Int) := by omega
      clear hcx0
      by_cases hw : wdB c.wd c.added[k] = true
      · have HN : Hid (calB c = false) := calB_no (fun g => by have := g.2.2.2.2.2.1 _ (List.getElem_mem hlt); rw [hw] at this; cases this)
        rw [hw] at HRg
        clear hw
        generalize c.added[k] = y at *
        go_wp2_with fail
        go_region_held3 (fun w' => w'.cell? ⟨w.heap.size, 0, none⟩ = some (.int .i64 c.frm) ∧ w'.cell? ⟨w.heap.size, 1, none⟩ = some (.int .i64 c.too) ∧ w'.cell? ⟨w.heap.size, 2, none⟩ = some (.int .i64 c.wd) ∧ w'.cell? ⟨w.heap.size, 3, none⟩ = some (.slice (some ⟨g, off, none⟩) c.added.length ca) ∧ w'.cell? ⟨w.heap.size, 4, none⟩ = some (.slice b c.removed.length cb) ∧ w'.cell? ⟨g, off + k, none⟩ = some (.int .i64 y) ∧ Below wr.heap.size wr w')
          (first | (exact ⟨d0, d1, d2, d3, d4, hcx, (Below.refl _ _).drew⟩) | (exact keepC' hb (by assumption)))
          ((go_at_call 74; refine (HRg.out _ (HBl.out.trans ((belC (by assumption)).mono HBl.out.size))).mono ?_; rintro e w' ⟨rfl, hb⟩))
        obtain ⟨e0, e1, e2, e3, e4, _, qb⟩ := (by assumption : _ ∧ _)
        clear d0 d1 d2 d3 d4 hcx
        go_wp2_with fail
        go_ret
        exact ⟨ret_bool HN.out.symm, HBl.out.trans (qb.mono HBl.out.size)⟩
      · have hw' : wdB c.wd c.added[k] = false := by simpa using hw
        have HT2 : Hid (∀ j (hj : j < c.added.length), j < k + 1 → wdB c.wd c.added[j] = false) := fun j hj hjk => by
          by_cases e : j = k
          · subst e; exact hw'
          · exact HT.out j hj (by omega)
        rw [hw'] at HRg
        clear hw hw' HT
        generalize c.added[k] = y at HRg hcx
        go_wp2_with fail
        go_region_held3 (fun w' => w'.cell? ⟨w.heap.size, 0, none⟩ = some (.int .i64 c.frm) ∧ w'.cell? ⟨w.heap.size, 1, none⟩ = some (.int .i64 c.too) ∧ w'.cell? ⟨w.heap.size, 2, none⟩ = some (.int .i64 c.wd) ∧ w'.cell? ⟨w.heap.size, 3, none⟩ = some (.slice (some ⟨g, off, none⟩) c.added.length ca) ∧ w'.cell? ⟨w.heap.size, 4, none⟩ = some (.slice b c.removed.length cb) ∧ w'.cell? ⟨g, off + k, none⟩ = some (.int .i64 y) ∧ Below wr.heap.size wr w')
          (first | (exact ⟨d0, d1, d2, d3, d4, hcx, (Below.refl _ _).drew⟩) | (exact keepC' hb (by assumption)))
          ((go_at_call 74; refine (HRg.out _ (HBl.out.trans ((belC (by assumption)).mono HBl.out.size))).mono ?_; rintro e w' ⟨rfl, hb⟩))
        obtain ⟨e0, e1, e2, e3, e4, _, qb⟩ := (by assumption : _ ∧ _)
        clear d0 d1 d2 d3 d4 hcx
        go_wp2_with fail
        go_roundw
        case rel => exact ⟨k + 1, by omega, by go_num, HT2, ⟨e0, e1, e2, e3, e4⟩, HBl.out.trans (qb.mono HBl.out.size)⟩
        case measure => simp [RowKit.intOf]; omega
    · have HAd : Hid (∀ d ∈ c.added, wdB c.wd d = false) := fun d hd => by
        obtain ⟨j, hj, rfl⟩ := List.mem_iff_getElem.1 hd
        exact HT.out j hj (by omega)
      clear HT
      go_wp2_with fail
      go_loopw [4] (fun i wr => ∃ k : Nat, k ≤ c.removed.length ∧ i = .int .i64 k ∧ Hid (∀ j (hj : j < c.removed.length), j < k → wdB c.wd c.removed[j] = true) ∧ CalBox wr w.heap.size c (.slice a c.added.length ca) (.slice b c.removed.length cb) ∧ Hid (Below w.heap.size w wr))
        (fun i _ => c.removed.length - (RowKit.intOf i).toNat)
      case atStart => exact ⟨0, Nat.zero_le _, rfl, fun j hj h => by omega, ⟨d0, d1, d2, d3, d4⟩, HBl.out⟩
      case round =>
        clear d0 d1 d2 d3 d4 HBl
        obtain ⟨k, hk, rfl, HT, ⟨d0, d1, d2, d3, d4⟩, HBl⟩ := hrel
        by_cases hlt : k < c.removed.length
        · obtain ⟨g, off, rfl, hbl, hcx0⟩ := HC'.out k hlt
          have hcx : wr.cell? ⟨g, off + k, none⟩ = some (.int .i64 c.removed[k]) := by rw [HBl.out.cell (p := ⟨g, off + k, none⟩) hbl]; exact hcx0
          have HRg := Lib.hid (fun W (h : Below w.heap.size w W) => l3Regular_any _ c c.removed[k] W (HAt.out W h) HNum.out)
          rw [regB_in (HRR.out k hlt hlt).1] at HRg
          have hk1 : (k : Int) < (c.removed.length : Int) := by omega
          clear hcx0
          by_cases hw : wdB c.wd c.removed[k] = true
          · have HT2 : Hid (∀ j (hj : j < c.removed.length), j < k + 1 → wdB c.wd c.removed[j] = true) := fun j hj hjk => by
              by_cases e : j = k
              · subst e; exact hw
              · exact HT.out j hj (by omega)
            rw [hw] at HRg
            clear hw HT
            generalize c.removed[k] = y at HRg hcx
            go_wp2_with fail
            go_region_held3 (fun w' => w'.cell? ⟨w.heap.size, 0, none⟩ = some (.int .i64 c.frm) ∧ w'.cell? ⟨w.heap.size, 1, none⟩ = some (.int .i64 c.too) ∧ w'.cell? ⟨w.heap.size, 2, none⟩ = some (.int .i64 c.wd) ∧ w'.cell? ⟨w.heap.size, 3, none⟩ = some (.slice a c.added.length ca) ∧ w'.cell? ⟨w.heap.size, 4, none⟩ = some (.slice (some ⟨g, off, none⟩) c.removed.length cb) ∧ w'.cell? ⟨g, off + k, none⟩ = some (.int .i64 y) ∧ Below wr.heap.size wr w')
              (first | (exact ⟨d0, d1, d2, d3, d4, hcx, (Below.refl _ _).drew⟩) | (exact keepC' hb (by assumption)))
              ((go_at_call 74; refine (HRg.out _ (HBl.out.trans ((belC (by assumption)).mono HBl.out.size))).mono ?_; rintro e w' ⟨rfl, hb⟩))
            obtain ⟨e0, e1, e2, e3, e4, _, qb⟩ := (by assumption : _ ∧ _)
            clear d0 d1 d2 d3 d4 hcx
            go_wp2_with fail
            go_roundw
            case rel => exact ⟨k + 1, by omega, by go_num, HT2, ⟨e0, e1, e2, e3, e4⟩, HBl.out.trans (qb.mono HBl.out.size)⟩
            case measure => simp [RowKit.intOf]; omega
          · have HN : Hid (calB c = false) := calB_no (fun g => hw (g.2.2.2.2.2.2 _ (List.getElem_mem hlt)))
            have hw' : wdB c.wd c.removed[k] = false := by simpa using hw
            rw [hw'] at HRg
            clear hw hw' HT
            generalize c.removed[k] = y at HRg hcx
            go_wp2_with fail
            go_region_held3 (fun w' => w'.cell? ⟨w.heap.size, 0, none⟩ = some (.int .i64 c.frm) ∧ w'.cell? ⟨w.heap.size, 1, none⟩ = some (.int .i64 c.too) ∧ w'.cell? ⟨w.heap.size, 2, none⟩ = some (.int .i64 c.wd) ∧ w'.cell? ⟨w.heap.size, 3, none⟩ = some (.slice a c.added.length ca) ∧ w'.cell? ⟨w.heap.size, 4, none⟩ = some (.slice (some ⟨g, off, none⟩) c.removed.length cb) ∧ w'.cell? ⟨g, off + k, none⟩ = some (.int .i64 y) ∧ Below wr.heap.size wr w')
              (first | (exact ⟨d0, d1, d2, d3, d4, hcx, (Below.refl _ _).drew⟩) | (exact keepC' hb (by assumption)))
              ((go_at_call 74; refine (HRg.out _ (HBl.out.trans ((belC (by assumption)).mono HBl.out.size))).mono ?_; rintro e w' ⟨rfl, hb⟩))
            obtain ⟨e0, e1, e2, e3, e4, _, qb⟩ := (by assumption : _ ∧ _)
            clear d0 d1 d2 d3 d4 hcx
            go_wp2_with fail
            go_ret
            exact ⟨ret_bool HN.out.symm, HBl.out.trans (qb.mono HBl.out.size)⟩
        · have HN : Hid (calB c = true) := calB_yes ⟨HNum.out, h4, h5, HRA.out, HRR.out, HAd.out, fun d hd => by
            obtain ⟨j, hj, rfl⟩ := List.mem_iff_getElem.1 hd
            exact HT.out j hj (by omega)⟩
          clear HT
          go_wp2_with fail
          go_ret
          exact ⟨ret_bool HN.out.symm, HBl.out⟩
end Go.Proofs.Ytemejcbilhcebaa
