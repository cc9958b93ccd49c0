import Derived.Test.YtemejcbilhcebaaDrawFit
import Derived.Test.YtemejcbilhcebaaServFact
import Derived.Test.YtemejcbilhcebaaFitImpl
import Derived.Test.YtemejcbilhcebaaFitSpec
import Derived.Test.YtemejcbilhcebaaCodeIn
import Derived.Deep.DeepCutAuto
import Derived.Deep.RegionLaw
import Derived.BigQuiet
namespace Go.Proofs.Ytemejcbilhcebaa.fnServiceDays
open Go.RowKit
set_option linter.unusedVariables false
set_option linter.unusedSimpArgs false

theorem wfS {z : Int} (h0 : -1000000 ≤ z) (h1 : z ≤ 1000000) : (Lit.int .i64 z).wf = true := by
  simp [Lit.wf, IntKind.bits, IntKind.signed, IntKind.min, IntKind.max]; omega
theorem code_below {W w : World} {v : Value} (h : CodeAt W v) (hb : Below W.heap.size W w) : CodeAt w v := by
  obtain ⟨l, h⟩ := h
  exact ⟨l, h.below rfl hb⟩

structure InS (W w : World) (cb : Nat) (cv dv : Value) (c : CalD) (av rv : Value) (ds : List Int) : Prop where
  bel : Below W.heap.size W w
  row : RowAt w dv (ints ds)
  cal : CalAt w cv c
  box : CalBox w cb c av rv
theorem InS.below {W w w' : World} {cb : Nat} {cv dv av rv : Value} {c : CalD} {ds : List Int} (h : InS W w cb cv dv c av rv ds) (hb : Below w.heap.size w w') : InS W w' cb cv dv c av rv ds :=
  ⟨h.bel.trans (hb.mono h.bel.size), h.row.below rfl hb, h.cal.below rfl hb, h.box.keep hb⟩
theorem fit_cases (lo hi : Int) (ds : List Int) : fitB lo hi ds = false ∨ (fitB lo hi ds = true ∧ cntOf (fitAns lo hi ds) = ds.length ∧ calB (fitAns lo hi ds) = true ∧ (∀ x ∈ ds, onB (fitAns lo hi ds) x = true ∧ okB (fitAns lo hi ds) x = true) ∧
    okAB (fitAns lo hi ds) (fitAns lo hi ds) = true ∧ (comAns (fitAns lo hi ds) (fitAns lo hi ds)).length ≤ ds.length ∧ comAns (fitAns lo hi ds) (fitAns lo hi ds) = ds.take (comAns (fitAns lo hi ds) (fitAns lo hi ds)).length) := by
  by_cases h : FitGood lo hi ds
  · right
    rw [(fitAns_yes h).1]
    exact ⟨(fitAns_yes h).2, serv_facts h⟩
  · exact .inl (fitAns_no h).2
theorem take_row {w : World} {a : Option Addr} {n c : Nat} {ds : List Int} (h : RowAt w (.slice a n c) (ints ds)) (hn : n = ds.length) (k : Nat) (hk : k ≤ ds.length) : RowAt w (.slice a k c) (ints (ds.take k)) := by
  obtain ⟨a', c', he, h1, h2, h3⟩ := h
  injection he with e1 e2 e3
  subst e1 e3
  have hl : (ints (ds.take k)).length = k := by simp [ints]; omega
  have hl2 : (ints ds).length = ds.length := by simp [ints]
  refine ⟨a, c, by rw [hl], by rw [hl]; omega, h2, fun j u hu => h3 j u ?_⟩
  have hj : j < k := by have := (List.getElem?_eq_some_iff.1 hu).1; omega
  rw [← hu]
  simp [ints, List.getElem?_map, List.getElem?_take, hj]

set_option maxRecDepth 100000 in
set_option maxHeartbeats 8000000 in
theorem walk (v0 : Value) (W : World) (S0 : CodeAt W v0) (hL : laidMetH Try.prog Rows.fnServiceDaysRow.laid W) (hsh : W.ShapedOpen Try.prog) :
    Calls Try.prog 4 #[v0] W fun e w' => e = .returned (.bool true) ∧ Below W.heap.size W w' := by
  clear hL hsh
  have HD := Lib.hid (drawFit_any v0 W S0)
  have HDN := Lib.hid (fun w (h : Below W.heap.size W w) => drawNextRun_any v0 w (code_below S0 h))
  obtain ⟨l, a, c, rfl, h1, h2, h3⟩ := S0
  clear h3
  obtain ⟨b1, b2⟩ := rBig_any a _ c W (show (l.map byteV).length ≤ maxLen by unfold maxLen at *; omega)
  generalize (l.map byteV).length = n at *
  by_cases hbig : 65536 < n
  · have HB := Lib.hid (b1 hbig)
    clear b1 b2
    go_enter Try.func4, Try.ntmps4
    go_wp2_with (go_at_call 17; refine HB.out.mono ?_; rintro e w' ⟨rfl, rfl⟩)
    go_ret
    exact ⟨rfl, Below.refl _ _⟩
  have HB := Lib.hid (b2 (by omega))
  clear b1 b2
  go_enter Try.func4, Try.ntmps4
  go_wp2_with fail
  go_at_call 17
  refine HB.out.mono ?_
  rintro e w' ⟨rfl, rfl⟩
  clear HB
  go_wp2_with fail
  go_at_call 18
  refine HD.out.mono ?_
  rintro e w1 ⟨⟨lo, hi, ds, sa, sc, rfl, ⟨lo0, lo1⟩, ⟨hi0, hi1⟩, hdl, hown⟩, hb1⟩
  clear HD hbig h1 h2 l
  have wlo : (Lit.int .i64 lo).wf = true := wfS (by omega) (by omega)
  have whi : (Lit.int .i64 hi).wf = true := wfS (by omega) (by omega)
  have HR := Lib.hid (rowAt_own hown)
  have HI := Lib.hid (fun w (h : RowAt w (.slice sa ds.length sc) (ints ds)) => implFit_any _ lo hi ds w h wlo whi (by omega))
  have HSp := Lib.hid (fun w (h : RowAt w (.slice sa ds.length sc) (ints ds)) => specFit_any _ lo hi ds w h wlo whi)
  have HC := Lib.hid (fit_cases lo hi ds)
  have HB := Lib.hid hb1
  clear hown hb1 wlo whi
  generalize fitAns lo hi ds = C at *
  generalize fitB lo hi ds = b at *
  go_wp2_with fail
  go_at_call 19
  refine (HI.out w1 HR.out).mono ?_
  rintro e w2 ⟨z, rfl, hz, hb⟩
  have HZ0 := Lib.hid hz.at
  obtain ⟨a1, c1, a2, c2, rfl⟩ := Calendar_open hz.at
  have hIn : ∀ t, InS W (w2.alloc (.cells #[.int .i64 C.frm, .int .i64 C.too, .int .i64 C.wd, .slice a1 C.added.length c1, .slice a2 C.removed.length c2] t)) w2.heap.size (.agg #[.int .i64 C.frm, .int .i64 C.too, .int .i64 C.wd, .slice a1 C.added.length c1, .slice a2 C.removed.length c2]) (.slice sa ds.length sc) C (.slice a1 C.added.length c1) (.slice a2 C.removed.length c2) ds := fun t => by
    have hb2 := hb.trans ((Below.refl _ _).alloc hb.size (.cells #[.int .i64 C.frm, .int .i64 C.too, .int .i64 C.wd, .slice a1 C.added.length c1, .slice a2 C.removed.length c2] t))
    exact ⟨HB.out.trans (hb2.mono HB.out.size), HR.out.below rfl hb2, HZ0.out.below rfl ((Below.refl _ _).alloc (Nat.le_refl _) _), calBox_new w2 C _ _ t⟩
  have hIn := hIn 46
  clear hz hb HI HB HR HZ0
  go_wp2_with fail
  obtain ⟨w3, hw3⟩ : ∃ w3 : World, w3 = w2.alloc (.cells #[.int .i64 C.frm, .int .i64 C.too, .int .i64 C.wd, .slice a1 C.added.length c1, .slice a2 C.removed.length c2] 46) := ⟨_, rfl⟩
  rw [← hw3] at hIn ⊢
  generalize w2.heap.size = cb at *
  clear hw3
  have HIn := Lib.hid hIn
  clear hIn
  go_at_call 20
  refine (HSp.out w3 HIn.out.row).mono ?_
  rintro e w4 ⟨z, rfl, hz, hb⟩
  have HZ0 := Lib.hid hz.at
  obtain ⟨a3, c3, a4, c4, rfl⟩ := Calendar_open hz.at
  have HIn := Lib.hid (HIn.out.below hb)
  clear hz hb HSp
  have hb5 := (Below.refl w4.heap.size w4).alloc (Nat.le_refl _) (.cells #[.int .i64 C.frm, .int .i64 C.too, .int .i64 C.wd, .slice a3 C.added.length c3, .slice a4 C.removed.length c4] 46)
  have hIn := HIn.out.below hb5
  have hZ := HZ0.out.below rfl hb5
  obtain ⟨q0, q1, q2, q3, q4⟩ := calBox_new w4 C (.slice a3 C.added.length c3) (.slice a4 C.removed.length c4) 46
  obtain ⟨p0, p1, p2, p3, p4⟩ := hIn.box
  clear hb5 HIn HZ0
  go_wp2_with fail
  obtain ⟨w5, hw5⟩ : ∃ w5 : World, w5 = w4.alloc (.cells #[.int .i64 C.frm, .int .i64 C.too, .int .i64 C.wd, .slice a3 C.added.length c3, .slice a4 C.removed.length c4] 46) := ⟨_, rfl⟩
  rw [← hw5] at hIn hZ p0 p1 p2 p3 p4 q0 q1 q2 q3 q4 ⊢
  clear hw5
  go_at_call 21
  refine (rCalendars_any _ _ C w5 hIn.cal hZ).mono ?_
  rintro e w6 ⟨rfl, hb⟩
  have HIn := Lib.hid (hIn.below hb)
  clear hIn hZ hb p0 p1 p2 p3 p4 q0 q1 q2 q3 q4
  rcases HC.out with rfl | ⟨rfl, f1, f2, f3, f4, f5, f6⟩
  · clear HC
    have HB := Lib.hid HIn.out.bel
    go_wp2_with fail
    go_at_call 27
    refine (HDN.out w6 HB.out).mono ?_
    rintro e x1 ⟨⟨c2, av, rv, d, rfl, hany, hco, d1, d2⟩, hb⟩
    obtain ⟨b1, k1, hav⟩ := own_shape hco.1
    obtain ⟨b2, k2, hrv⟩ := own_shape hco.2
    subst hav hrv
    have HB := Lib.hid (HB.out.trans (hb.mono HB.out.size))
    have hb5 := (Below.refl x1.heap.size x1).alloc (Nat.le_refl _) (.cells #[.int .i64 c2.frm, .int .i64 c2.too, .int .i64 c2.wd, .slice b1 c2.added.length k1, .slice b2 c2.removed.length k2] 46)
    have hIn : InS W (x1.alloc (.cells #[.int .i64 c2.frm, .int .i64 c2.too, .int .i64 c2.wd, .slice b1 c2.added.length k1, .slice b2 c2.removed.length k2] 46)) x1.heap.size (.agg #[.int .i64 c2.frm, .int .i64 c2.too, .int .i64 c2.wd, .slice b1 c2.added.length k1, .slice b2 c2.removed.length k2]) (.slice none 0 0) c2 (.slice b1 c2.added.length k1) (.slice b2 c2.removed.length k2) [] := ⟨HB.out.trans (hb5.mono HB.out.size), ⟨none, 0, rfl, Nat.le_refl _, by unfold maxLen; omega, fun j u hu => by simp [ints] at hu⟩, hco.at.below rfl hb5, calBox_new x1 c2 _ _ 46⟩
    have HNF := Lib.hid (fun h => next_facts (c := c2) (d := d) h)
    have HNi := Lib.hid (fun d w (h : CalAt w (.agg #[.int .i64 c2.frm, .int .i64 c2.too, .int .i64 c2.wd, .slice b1 c2.added.length k1, .slice b2 c2.removed.length k2]) c2) => implNextRun_any (.agg #[.int .i64 c2.frm, .int .i64 c2.too, .int .i64 c2.wd, .slice b1 c2.added.length k1, .slice b2 c2.removed.length k2]) c2 d w h)
    have HNs := Lib.hid (fun d w (h : CalAt w (.agg #[.int .i64 c2.frm, .int .i64 c2.too, .int .i64 c2.wd, .slice b1 c2.added.length k1, .slice b2 c2.removed.length k2]) c2) => specNextRun_any (.agg #[.int .i64 c2.frm, .int .i64 c2.too, .int .i64 c2.wd, .slice b1 c2.added.length k1, .slice b2 c2.removed.length k2]) c2 d w h)
    have HRo := Lib.hid (fun d w (h : CalAt w (.agg #[.int .i64 c2.frm, .int .i64 c2.too, .int .i64 c2.wd, .slice b1 c2.added.length k1, .slice b2 c2.removed.length k2]) c2) => implRunsOn_any (.agg #[.int .i64 c2.frm, .int .i64 c2.too, .int .i64 c2.wd, .slice b1 c2.added.length k1, .slice b2 c2.removed.length k2]) c2 d w h)
    obtain ⟨p0, p1, p2, p3, p4⟩ := hIn.box
    clear hb hb5 hany hco HB HDN
    go_wp2_with fail
    obtain ⟨x2, hx2⟩ : ∃ x2 : World, x2 = x1.alloc (.cells #[.int .i64 c2.frm, .int .i64 c2.too, .int .i64 c2.wd, .slice b1 c2.added.length k1, .slice b2 c2.removed.length k2] 46) := ⟨_, rfl⟩
    rw [← hx2] at hIn p0 p1 p2 p3 p4 ⊢
    generalize x1.heap.size = nb at *
    have HIn := Lib.hid hIn
    clear hx2 hIn
    go_at_call 28
    refine (HNi.out d x2 HIn.out.cal).mono ?_
    rintro e x3 ⟨rfl, hb⟩
    have HIn := Lib.hid (HIn.out.below hb)
    clear hb p0 p1 p2 p3 p4
    obtain ⟨p0, p1, p2, p3, p4⟩ := HIn.out.box
    go_wp2_with fail
    go_at_call 29
    refine (HNs.out d x3 HIn.out.cal).mono ?_
    rintro e x4 ⟨rfl, hb⟩
    have HIn := Lib.hid (HIn.out.below hb)
    clear hb p0 p1 p2 p3 p4 HNs
    obtain ⟨p0, p1, p2, p3, p4⟩ := HIn.out.box
    obtain ⟨nx, hnx⟩ : ∃ nx, nextD c2 d = nx := ⟨_, rfl⟩
    obtain ⟨nt, hnt⟩ : ∃ nt, nextB c2 d = nt := ⟨_, rfl⟩
    rw [hnx, hnt] at HNF
    rw [hnx, hnt]
    clear hnx hnt
    cases nt
    · go_wp2_with fail
      go_ret
      exact ⟨rfl, HIn.out.bel⟩
    · obtain ⟨g1, g2, g3, g4, g5⟩ := HNF.out rfl
      have HG := Lib.hid (And.intro g1 (And.intro g2 (And.intro g3 g4)))
      have hg5 : decide (d ≤ nx) = true := decide_eq_true g5
      clear g1 g2 g3 g4 HNF
      go_wp2_with fail
      go_at_call 24
      refine (HRo.out nx x4 HIn.out.cal).mono ?_
      rintro e x5 ⟨rfl, hb⟩
      rw [HG.out.1, HG.out.2.1]
      have HIn := Lib.hid (HIn.out.below hb)
      clear hb p0 p1 p2 p3 p4 HRo
      obtain ⟨p0, p1, p2, p3, p4⟩ := HIn.out.box
      go_wp2_with fail
      go_at_call 28
      refine (HNi.out nx x5 HIn.out.cal).mono ?_
      rintro e x6 ⟨rfl, hb⟩
      rw [HG.out.2.2.1, HG.out.2.2.2]
      have HIn := Lib.hid (HIn.out.below hb)
      clear hb p0 p1 p2 p3 p4 HNi
      go_wp2_with fail
      go_ret
      exact ⟨rfl, HIn.out.bel⟩
  · have HF3 := Lib.hid f3
    have hwl : (0 : Int) ≤ (ds.length : Int) ∧ (ds.length : Int) ≤ 100 := by omega
    have HCn := Lib.hid (fun w (h : CalAt w (.agg #[.int .i64 C.frm, .int .i64 C.too, .int .i64 C.wd, .slice a1 C.added.length c1, .slice a2 C.removed.length c2]) C) => (implCountDays_any (.agg #[.int .i64 C.frm, .int .i64 C.too, .int .i64 C.wd, .slice a1 C.added.length c1, .slice a2 C.removed.length c2]) C w h).mono (R' := fun e w' => e = .returned (.tuple #[.int .i64 (ds.length : Int), .bool true]) ∧ Below w.heap.size w w') (fun e w' ⟨he, hb⟩ => ⟨by rw [f1, f2] at he; exact he, hb⟩))
    have HVa := Lib.hid (fun w (h : CalAt w (.agg #[.int .i64 C.frm, .int .i64 C.too, .int .i64 C.wd, .slice a1 C.added.length c1, .slice a2 C.removed.length c2]) C) => (implValidCal_any (.agg #[.int .i64 C.frm, .int .i64 C.too, .int .i64 C.wd, .slice a1 C.added.length c1, .slice a2 C.removed.length c2]) C w h).mono (R' := fun e w' => e = .returned (.bool true) ∧ Below w.heap.size w w') (fun e w' ⟨he, hb⟩ => ⟨by rw [f2] at he; exact he, hb⟩))
    have HOn := Lib.hid (fun x (hx : x ∈ ds) w (h : CalAt w (.agg #[.int .i64 C.frm, .int .i64 C.too, .int .i64 C.wd, .slice a1 C.added.length c1, .slice a2 C.removed.length c2]) C) => (implRunsOn_any (.agg #[.int .i64 C.frm, .int .i64 C.too, .int .i64 C.wd, .slice a1 C.added.length c1, .slice a2 C.removed.length c2]) C x w h).mono (R' := fun e w' => e = .returned (.tuple #[.bool true, .bool true]) ∧ Below w.heap.size w w') (fun e w' ⟨he, hb⟩ => ⟨by rw [(f3 x hx).1, (f3 x hx).2] at he; exact he, hb⟩))
    have HCo := Lib.hid (fun w (h : CalAt w (.agg #[.int .i64 C.frm, .int .i64 C.too, .int .i64 C.wd, .slice a1 C.added.length c1, .slice a2 C.removed.length c2]) C) => (implCommonDays_any (.agg #[.int .i64 C.frm, .int .i64 C.too, .int .i64 C.wd, .slice a1 C.added.length c1, .slice a2 C.removed.length c2]) (.agg #[.int .i64 C.frm, .int .i64 C.too, .int .i64 C.wd, .slice a1 C.added.length c1, .slice a2 C.removed.length c2]) C C w h h).mono (R' := fun e w' => ∃ z, e = .returned (.tuple #[z, .bool true]) ∧ RowAt w' z (ints (comAns C C)) ∧ Below w.heap.size w w') (fun e w' ⟨z, he, hi, hb⟩ => ⟨z, by rw [f4] at he; exact he, hi.at, hb⟩))
    have HF6 := Lib.hid f6
    clear f1 f2 f3 f4 f6 HC HF3
    generalize comAns C C = cm at *
    obtain ⟨p0, p1, p2, p3, p4⟩ := HIn.out.box
    go_wp2_with fail
    go_at_call 22
    refine (HCn.out w6 HIn.out.cal).mono ?_
    rintro e w7 ⟨rfl, hb⟩
    have HIn := Lib.hid (HIn.out.below hb)
    clear hb p0 p1 p2 p3 p4 HCn
    obtain ⟨p0, p1, p2, p3, p4⟩ := HIn.out.box
    go_wp2_with fail
    go_at_call 23
    refine (HVa.out w7 HIn.out.cal).mono ?_
    rintro e w8 ⟨rfl, hb⟩
    have HIn := Lib.hid (HIn.out.below hb)
    clear hb p0 p1 p2 p3 p4 HVa
    go_wp2_with fail
    go_loopw [12] (fun q wr => ∃ i : Nat, i ≤ ds.length ∧ q = .int .i64 (i : Int) ∧ Hid (Below w8.heap.size w8 wr)) (fun q _ => ds.length - (RowKit.intOf q).toNat)
    case atStart => exact ⟨0, Nat.zero_le _, rfl, Below.refl _ _⟩
    case round =>
      obtain ⟨i, hi, rfl, HBr⟩ := hrel
      have HIn := Lib.hid (HIn.out.below HBr.out)
      obtain ⟨p0, p1, p2, p3, p4⟩ := HIn.out.box
      by_cases hlt : i < ds.length
      · obtain ⟨_, _, he, -, -, HX⟩ := ints_open HIn.out.row
        simp at he
        obtain ⟨rfl, rfl⟩ := he
        obtain ⟨sb, so, hza, -, oi⟩ := HX.out i hlt
        subst hza
        have hin := List.getElem_mem hlt
        have hni : (i : Int) < (ds.length : Int) := by omega
        have hni0 : (0 : Int) ≤ (i : Int) := by omega
        have HO := Lib.hid (HOn.out _ hin)
        clear HX hin
        generalize ds[i] = x at *
        have HBw := Lib.hid (Below.drew HBr.out)
        go_wp2_with fail
        refine wp_region_held_drew (S := (fun w' => w'.cell? ⟨cb, 0, none⟩ = some (.int .i64 C.frm) ∧ w'.cell? ⟨cb, 1, none⟩ = some (.int .i64 C.too) ∧ w'.cell? ⟨cb, 2, none⟩ = some (.int .i64 C.wd) ∧ w'.cell? ⟨cb, 3, none⟩ = some (.slice a1 C.added.length c1) ∧ w'.cell? ⟨cb, 4, none⟩ = some (.slice a2 C.removed.length c2) ∧ w'.cell? ⟨sb, so + i, none⟩ = some (.int .i64 x))) (by kernel_rfl) ?_ (fun hHeld => ?_)
        · exact ⟨p0, p1, p2, p3, p4, oi⟩
        refine wpAnyH_take (i := 0) (v := ?_) (by simp only [List.getElem?_toArray, List.getElem?_cons_zero]; rfl) (by kernel_rfl) (by kernel_rfl) (by kernel_rfl) (by exact fun _ _ _ h => h) (Or.inl ⟨by rfl, ?_⟩) (by assumption) ?_
        rotate_left
        · intro w' hSw; (try dsimp only at hSw); obtain ⟨e0, e1, e2, e3, e4, e5⟩ := hSw
          go_simp; try with_reducible rfl
        try simp only [Act.put, List.setIfInBounds_toArray, List.set_cons_zero, List.set_cons_succ]
        refine wpAnyH_take (i := 1) (v := ?_) (by simp only [List.getElem?_toArray, List.getElem?_cons_succ, List.getElem?_cons_zero]; rfl) (by kernel_rfl) (by kernel_rfl) (by kernel_rfl) (by exact fun _ _ _ h => h) (Or.inl ⟨by rfl, ?_⟩) (by assumption) ?_
        rotate_left
        · intro w' hSw; (try dsimp only at hSw); obtain ⟨e0, e1, e2, e3, e4, e5⟩ := hSw
          go_simp; try with_reducible rfl
        try simp only [Act.put, List.setIfInBounds_toArray, List.set_cons_zero, List.set_cons_succ]
        refine wpAnyH_take (i := 2) (v := ?_) (by simp only [List.getElem?_toArray, List.getElem?_cons_succ, List.getElem?_cons_zero]; rfl) (by kernel_rfl) (by kernel_rfl) (by kernel_rfl) (by exact fun _ _ _ h => h) (Or.inl ⟨by rfl, ?_⟩) (by assumption) ?_
        rotate_left
        · intro w' hSw; (try dsimp only at hSw); obtain ⟨e0, e1, e2, e3, e4, e5⟩ := hSw
          go_simp; try with_reducible rfl
        try simp only [Act.put, List.setIfInBounds_toArray, List.set_cons_zero, List.set_cons_succ]
        refine wpAnyH_take (i := 3) (v := ?_) (by simp only [List.getElem?_toArray, List.getElem?_cons_succ, List.getElem?_cons_zero]; rfl) (by kernel_rfl) (by kernel_rfl) (by kernel_rfl) (by exact fun _ _ _ h => h) (Or.inl ⟨by rfl, ?_⟩) (by assumption) ?_
        rotate_left
        · intro w' hSw; (try dsimp only at hSw); obtain ⟨e0, e1, e2, e3, e4, e5⟩ := hSw
          go_simp; try with_reducible rfl
        try simp only [Act.put, List.setIfInBounds_toArray, List.set_cons_zero, List.set_cons_succ]
        refine wpAnyH_take (i := 4) (v := ?_) (by simp only [List.getElem?_toArray, List.getElem?_cons_succ, List.getElem?_cons_zero]; rfl) (by kernel_rfl) (by kernel_rfl) (by kernel_rfl) (by exact fun _ _ _ h => h) (Or.inl ⟨by rfl, ?_⟩) (by assumption) ?_
        rotate_left
        · intro w' hSw; (try dsimp only at hSw); obtain ⟨e0, e1, e2, e3, e4, e5⟩ := hSw
          go_simp; try with_reducible rfl
        try simp only [Act.put, List.setIfInBounds_toArray, List.set_cons_zero, List.set_cons_succ]
        refine wpAnyH_ready (rs := [5]) (by kernel_rfl) (by simp) ?_
        refine AllReadyH.cons (by simp only [List.getElem?_toArray, List.getElem?_cons_succ, List.getElem?_cons_zero]; rfl) (fun K hK => ?_) AllReadyH.nil
        have HIn := Lib.hid (HIn.out.below (Below.refl wr.heap.size wr).drew)
        go_simp
        go_at_call 24
        refine (HO.out _ HIn.out.cal).mono ?_
        rintro e u1 ⟨rfl, hb⟩
        have hS : u1.cell? ⟨cb, 0, none⟩ = some (.int .i64 C.frm) ∧ u1.cell? ⟨cb, 1, none⟩ = some (.int .i64 C.too) ∧ u1.cell? ⟨cb, 2, none⟩ = some (.int .i64 C.wd) ∧ u1.cell? ⟨cb, 3, none⟩ = some (.slice a1 C.added.length c1) ∧ u1.cell? ⟨cb, 4, none⟩ = some (.slice a2 C.removed.length c2) ∧ u1.cell? ⟨sb, so + i, none⟩ = some (.int .i64 x) := ⟨bkeep hb p0, bkeep hb p1, bkeep hb p2, bkeep hb p3, bkeep hb p4, bkeep hb oi⟩
        have HBw := Lib.hid (HBw.out.trans (hb.mono HBw.out.size))
        clear hb
        go_wp2_with fail
        refine hK.out _ _ hS (fun hHa1 => ?_)
        clear hK K
        try simp only [Act.put, List.setIfInBounds_toArray, List.set_cons_zero, List.set_cons_succ]
        refine wpAnyH_take (i := 6) (v := ?_) (by simp only [List.getElem?_toArray, List.getElem?_cons_succ, List.getElem?_cons_zero]; rfl) (by kernel_rfl) (by kernel_rfl) (by kernel_rfl) (by exact fun _ _ _ h => h) (Or.inl ⟨by rfl, ?_⟩) (by assumption) ?_
        rotate_left
        · intro w' hSw; (try dsimp only at hSw); obtain ⟨e0, e1, e2, e3, e4, e5⟩ := hSw
          go_simp; try with_reducible rfl
        try simp only [Act.put, List.setIfInBounds_toArray, List.set_cons_zero, List.set_cons_succ]
        refine wpAnyH_take (i := 7) (v := ?_) (by simp only [List.getElem?_toArray, List.getElem?_cons_succ, List.getElem?_cons_zero]; rfl) (by kernel_rfl) (by kernel_rfl) (by kernel_rfl) (by exact fun _ _ _ h => h) (Or.inl ⟨by rfl, ?_⟩) (by assumption) ?_
        rotate_left
        · intro w' hSw; (try dsimp only at hSw); obtain ⟨e0, e1, e2, e3, e4, e5⟩ := hSw
          go_simp; try with_reducible rfl
        try simp only [Act.put, List.setIfInBounds_toArray, List.set_cons_zero, List.set_cons_succ]
        refine wpAnyH_take (i := 8) (v := ?_) (by simp only [List.getElem?_toArray, List.getElem?_cons_succ, List.getElem?_cons_zero]; rfl) (by kernel_rfl) (by kernel_rfl) (by kernel_rfl) (by exact fun _ _ _ h => h) (Or.inl ⟨by rfl, ?_⟩) (by assumption) ?_
        rotate_left
        · intro w' hSw; (try dsimp only at hSw); obtain ⟨e0, e1, e2, e3, e4, e5⟩ := hSw
          go_simp; try with_reducible rfl
        try simp only [Act.put, List.setIfInBounds_toArray, List.set_cons_zero, List.set_cons_succ]
        refine wpAnyH_take (i := 9) (v := ?_) (by simp only [List.getElem?_toArray, List.getElem?_cons_succ, List.getElem?_cons_zero]; rfl) (by kernel_rfl) (by kernel_rfl) (by kernel_rfl) (by exact fun _ _ _ h => h) (Or.inl ⟨by rfl, ?_⟩) (by assumption) ?_
        rotate_left
        · intro w' hSw; (try dsimp only at hSw); obtain ⟨e0, e1, e2, e3, e4, e5⟩ := hSw
          go_simp; try with_reducible rfl
        try simp only [Act.put, List.setIfInBounds_toArray, List.set_cons_zero, List.set_cons_succ]
        refine wpAnyH_take (i := 10) (v := ?_) (by simp only [List.getElem?_toArray, List.getElem?_cons_succ, List.getElem?_cons_zero]; rfl) (by kernel_rfl) (by kernel_rfl) (by kernel_rfl) (by exact fun _ _ _ h => h) (Or.inl ⟨by rfl, ?_⟩) (by assumption) ?_
        rotate_left
        · intro w' hSw; (try dsimp only at hSw); obtain ⟨e0, e1, e2, e3, e4, e5⟩ := hSw
          go_simp; try with_reducible rfl
        try simp only [Act.put, List.setIfInBounds_toArray, List.set_cons_zero, List.set_cons_succ]
        refine wpAnyH_done (by kernel_rfl) ?_ _
        clear hHeld hS p0 p1 p2 p3 p4 oi HO
        go_wp2_with fail
        go_roundw
        case rel => exact ⟨i + 1, by omega, by go_num, HBw.out⟩
        case measure => simp [RowKit.intOf] <;> omega
      · obtain rfl : i = ds.length := by omega
        clear hlt hi
        go_wp2_with fail
        go_at_call 25
        refine (HCo.out wr HIn.out.cal).mono ?_
        rintro e u1 ⟨z, rfl, hz, hb⟩
        have HZ := Lib.hid hz
        obtain ⟨za, zc, rfl, hzc, -, -⟩ := ints_open hz
        have HIn := Lib.hid (HIn.out.below hb)
        clear hb hz p0 p1 p2 p3 p4 HCo HBr HOn
        obtain ⟨_, _, he, hsc, hsm, -⟩ := ints_open HIn.out.row
        simp at he
        obtain ⟨rfl, rfl⟩ := he
        have hf5 : (cm.length : Int) ≤ (ds.length : Int) := by omega
        have hf7 : decide ((ds.length : Int) < (cm.length : Int)) = false := decide_eq_false (by omega)
        have hf8 : (0 : Int) ≤ (cm.length : Int) := by omega
        have hf9 : (cm.length : Int) ≤ (sc : Int) := by omega
        have hf10 : cm.length ≤ sc := by omega
        go_wp2_with fail
        have HT := Lib.hid (take_row HIn.out.row rfl cm.length f5)
        rw [← HF6.out] at HT
        go_at_call 26
        refine (rInts_any _ _ cm u1 HZ.out HT.out).mono ?_
        rintro e u2 ⟨rfl, hb⟩
        have HB := Lib.hid ((HIn.out.below hb).bel)
        clear hb HZ HT HIn
        go_wp2_with fail
        go_at_call 27
        refine (HDN.out u2 HB.out).mono ?_
        rintro e x1 ⟨⟨c2, av, rv, d, rfl, hany, hco, d1, d2⟩, hb⟩
        obtain ⟨b1, k1, hav⟩ := own_shape hco.1
        obtain ⟨b2, k2, hrv⟩ := own_shape hco.2
        subst hav hrv
        have HB := Lib.hid (HB.out.trans (hb.mono HB.out.size))
        have hb5 := (Below.refl x1.heap.size x1).alloc (Nat.le_refl _) (.cells #[.int .i64 c2.frm, .int .i64 c2.too, .int .i64 c2.wd, .slice b1 c2.added.length k1, .slice b2 c2.removed.length k2] 46)
        have hIn : InS W (x1.alloc (.cells #[.int .i64 c2.frm, .int .i64 c2.too, .int .i64 c2.wd, .slice b1 c2.added.length k1, .slice b2 c2.removed.length k2] 46)) x1.heap.size (.agg #[.int .i64 c2.frm, .int .i64 c2.too, .int .i64 c2.wd, .slice b1 c2.added.length k1, .slice b2 c2.removed.length k2]) (.slice none 0 0) c2 (.slice b1 c2.added.length k1) (.slice b2 c2.removed.length k2) [] := ⟨HB.out.trans (hb5.mono HB.out.size), ⟨none, 0, rfl, Nat.le_refl _, by unfold maxLen; omega, fun j u hu => by simp [ints] at hu⟩, hco.at.below rfl hb5, calBox_new x1 c2 _ _ 46⟩
        have HNF := Lib.hid (fun h => next_facts (c := c2) (d := d) h)
        have HNi := Lib.hid (fun d w (h : CalAt w (.agg #[.int .i64 c2.frm, .int .i64 c2.too, .int .i64 c2.wd, .slice b1 c2.added.length k1, .slice b2 c2.removed.length k2]) c2) => implNextRun_any (.agg #[.int .i64 c2.frm, .int .i64 c2.too, .int .i64 c2.wd, .slice b1 c2.added.length k1, .slice b2 c2.removed.length k2]) c2 d w h)
        have HNs := Lib.hid (fun d w (h : CalAt w (.agg #[.int .i64 c2.frm, .int .i64 c2.too, .int .i64 c2.wd, .slice b1 c2.added.length k1, .slice b2 c2.removed.length k2]) c2) => specNextRun_any (.agg #[.int .i64 c2.frm, .int .i64 c2.too, .int .i64 c2.wd, .slice b1 c2.added.length k1, .slice b2 c2.removed.length k2]) c2 d w h)
        have HRo := Lib.hid (fun d w (h : CalAt w (.agg #[.int .i64 c2.frm, .int .i64 c2.too, .int .i64 c2.wd, .slice b1 c2.added.length k1, .slice b2 c2.removed.length k2]) c2) => implRunsOn_any (.agg #[.int .i64 c2.frm, .int .i64 c2.too, .int .i64 c2.wd, .slice b1 c2.added.length k1, .slice b2 c2.removed.length k2]) c2 d w h)
        obtain ⟨p0, p1, p2, p3, p4⟩ := hIn.box
        clear hb hb5 hany hco HB HDN
        go_wp2_with fail
        obtain ⟨x2, hx2⟩ : ∃ x2 : World, x2 = x1.alloc (.cells #[.int .i64 c2.frm, .int .i64 c2.too, .int .i64 c2.wd, .slice b1 c2.added.length k1, .slice b2 c2.removed.length k2] 46) := ⟨_, rfl⟩
        rw [← hx2] at hIn p0 p1 p2 p3 p4 ⊢
        generalize x1.heap.size = nb at *
        have HIn := Lib.hid hIn
        clear hx2 hIn
        go_at_call 28
        refine (HNi.out d x2 HIn.out.cal).mono ?_
        rintro e x3 ⟨rfl, hb⟩
        have HIn := Lib.hid (HIn.out.below hb)
        clear hb p0 p1 p2 p3 p4
        obtain ⟨p0, p1, p2, p3, p4⟩ := HIn.out.box
        go_wp2_with fail
        go_at_call 29
        refine (HNs.out d x3 HIn.out.cal).mono ?_
        rintro e x4 ⟨rfl, hb⟩
        have HIn := Lib.hid (HIn.out.below hb)
        clear hb p0 p1 p2 p3 p4 HNs
        obtain ⟨p0, p1, p2, p3, p4⟩ := HIn.out.box
        obtain ⟨nx, hnx⟩ : ∃ nx, nextD c2 d = nx := ⟨_, rfl⟩
        obtain ⟨nt, hnt⟩ : ∃ nt, nextB c2 d = nt := ⟨_, rfl⟩
        rw [hnx, hnt] at HNF
        rw [hnx, hnt]
        clear hnx hnt
        cases nt
        · go_wp2_with fail
          go_ret
          exact ⟨rfl, HIn.out.bel⟩
        · obtain ⟨g1, g2, g3, g4, g5⟩ := HNF.out rfl
          have HG := Lib.hid (And.intro g1 (And.intro g2 (And.intro g3 g4)))
          have hg5 : decide (d ≤ nx) = true := decide_eq_true g5
          clear g1 g2 g3 g4 HNF
          go_wp2_with fail
          go_at_call 24
          refine (HRo.out nx x4 HIn.out.cal).mono ?_
          rintro e x5 ⟨rfl, hb⟩
          rw [HG.out.1, HG.out.2.1]
          have HIn := Lib.hid (HIn.out.below hb)
          clear hb p0 p1 p2 p3 p4 HRo
          obtain ⟨p0, p1, p2, p3, p4⟩ := HIn.out.box
          go_wp2_with fail
          go_at_call 28
          refine (HNi.out nx x5 HIn.out.cal).mono ?_
          rintro e x6 ⟨rfl, hb⟩
          rw [HG.out.2.2.1, HG.out.2.2.2]
          have HIn := Lib.hid (HIn.out.below hb)
          clear hb p0 p1 p2 p3 p4 HNi
          go_wp2_with fail
          go_ret
          exact ⟨rfl, HIn.out.bel⟩
end Go.Proofs.Ytemejcbilhcebaa.fnServiceDays
