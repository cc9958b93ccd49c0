import Derived.Test.YtemejcbilhcebaaDrawRun
import Derived.Deep.DeepCutAuto
import Derived.Deep.RegionLaw
namespace Go.Proofs.Ytemejcbilhcebaa
open Go.RowKit
set_option linter.unusedVariables false
set_option linter.unusedSimpArgs false

def amV : List Int := [200, 201]
theorem amV_in : ∀ x ∈ amV, 200 ≤ x ∧ x ≤ 201 := by decide

def FitDr (w : World) (e : Ending) (w' : World) : Prop := (∃ (lo hi : Int) (ds : List Int) (a : Option Addr) (c : Nat), e = .returned (.tuple #[.int .i64 lo, .int .i64 hi, .slice a ds.length c]) ∧ (-1 ≤ lo ∧ lo ≤ 4000) ∧ (-1 ≤ hi ∧ hi ≤ 4000) ∧ ds.length ≤ 100 ∧ w'.ownsRow w.heap.size 3 1 (.slice a ds.length c) ds.length (ints ds)) ∧ Below w.heap.size w w'

set_option maxRecDepth 100000 in
set_option maxHeartbeats 16000000 in
theorem drawFit_any (v : Value) (w : World) (h : CodeAt w v) :
    Calls Try.prog 18 #[v] w fun e w' => FitDr w e w' := by
  obtain ⟨i0, hi', iz0, iz1, iz2⟩ := info_parts infoInt
  obtain ⟨l0, ca, cc, rfl, hcc⟩ := h
  obtain ⟨cn, hcn⟩ : ∃ cn, (l0.map byteV).length = cn := ⟨_, rfl⟩
  have hk : CodeAt w (.slice ca (l0.map byteV).length cc) := ⟨l0, ca, cc, rfl, hcc⟩
  obtain ⟨hc, ho, hb⟩ := cur_new _ _ hk
  rw [hcn] at hc ho hb
  rw [hcn]
  have hbuild := build_curC ca cn cc
  obtain ⟨wa, hwa⟩ : ∃ wa : World, wa = w.alloc (.cells #[.slice ca cn cc, .int .i64 0, .int .u64 0] 75) := ⟨_, rfl⟩
  rw [← hwa] at hc ho hb
  have hza : wa.heap.size = w.heap.size + 1 := by rw [hwa]; simp
  have HB : Hid (Below w.heap.size w wa ∧ w.heap.size ≤ wa.heap.size) := ⟨hb, by omega⟩
  have HV := Lib.hid ho
  have H1 := Lib.hid (calendar_any w.heap.size 0 (.slice ca cn cc) wa hc ho (by omega))
  have HWA := Lib.hid hwa
  have hzlt : w.heap.size < wa.heap.size := by omega
  clear hc ho hb hk hcc hwa hcn hza
  go_enter Try.func18, Try.ntmps18
  go_wp2_with fail
  rw [← HWA.out]
  go_at_call 62
  refine H1.out.mono ?_
  rintro e w1 ⟨⟨c, av, rv, rfl, hany, hco⟩, hp⟩
  obtain ⟨a1, k1, hav⟩ := own_shape hco.1
  obtain ⟨a2, k2, hrv⟩ := own_shape hco.2
  subst hav hrv
  obtain ⟨f, T, cw, cA, cR⟩ := c
  simp only at *
  obtain ⟨w2, hw2⟩ : ∃ w2 : World, w2 = w1.alloc (.cells #[.int .i64 f, .int .i64 T, .int .i64 cw, .slice a1 cA.length k1, .slice a2 cR.length k2] 46) := ⟨_, rfl⟩
  have hbx := calBox_new w1 ⟨f, T, cw, cA, cR⟩ (.slice a1 cA.length k1) (.slice a2 cR.length k2) 46
  have hbxf : ∀ o, (w1.alloc (.cells #[.int .i64 f, .int .i64 T, .int .i64 cw, .slice a1 cA.length k1, .slice a2 cR.length k2] 46)).frozen? ⟨w1.heap.size, o, none⟩ = false := fun o => by go_simp
  rw [← hw2] at hbx hbxf
  have hb12 : Below w1.heap.size w1 w2 := by rw [hw2]; exact (Below.refl _ _).alloc (Nat.le_refl _) _
  have hs12 : w2.heap.size = w1.heap.size + 1 := by rw [hw2]; simp
  have HP1 := Lib.hid (curPost_later HV.out hzlt hp hb12)
  have HCo := Lib.hid (hco.later hb12)
  obtain ⟨⟨f0, f1⟩, ⟨t0, t1⟩, -, -, -, -⟩ := hany
  have f0 : 0 ≤ f := f0
  have f1 : f ≤ 3600 := f1
  have t0 : -1 ≤ T := t0
  have t1 : T ≤ 3651 := t1
  have hx1 : wa.heap.size ≤ w1.heap.size := hp.2.2.size
  have HW2 := Lib.hid hw2
  have HBx := Lib.hid (And.intro hbx hbxf)
  have c0 : w2.cell? ⟨w1.heap.size, 0, none⟩ = some (.int .i64 f) := hbx.1
  clear hp hco hb12 hw2 H1 hbx hbxf
  obtain ⟨w3, hw3⟩ : ∃ w3 : World, w3 = w2.alloc (.cells #[] 3) := ⟨_, rfl⟩
  have hlit := World.ownsRow_lit (base := w2.heap.size) (e := 3) (size := 1) w2 #[] 0 (Nat.le_refl _) (by decide) (by simp)
  rw [← hw3] at hlit
  have HO : Hid (w3.ownsRow w2.heap.size 3 1 (.slice (some ⟨w2.heap.size, 0, none⟩) 0 0) 0 (ints [])) := hlit
  have HP : Hid (CurPost w2 w.heap.size 200 (.slice ca cn cc) w3) := by
    have h := HP1.out
    rw [hw3]; exact curPost_alloc (w := w2) ⟨curAt_mono h.1 (by omega), h.2.1, grown_refl _ _⟩ _
  have c03 : w3.cell? ⟨w1.heap.size, 0, none⟩ = some (.int .i64 f) := by rw [hw3]; exact acell c0 _
  have HW3 := Lib.hid hw3
  have HV2 := Lib.hid HP1.out.2.1
  have HS12 := Lib.hid hs12
  have hlt2 : w.heap.size < w2.heap.size := by omega
  clear hlit hw3 hs12 c0
  go_wp2_with fail
  rw [← HW2.out]
  try rw [← HW3.out]
  generalize hxb : w1.heap.size = xb at *
  have hxb1 : w.heap.size < xb := by omega
  have hnb : (some xb : Option Nat) ≠ some w.heap.size := fun e => by injection e with e; omega
  have hxb2 : xb < w2.heap.size := by have := HS12.out; omega
  clear HW2 HW3 c03
  go_loopw [7, 8] (fun q7 q8 wr => ∃ (k m : Nat) (a : Option Addr) (c : Nat) (ds : List Int), q8 = .int .i64 (f + (k : Int)) ∧ q7 = .slice a m c ∧ k ≤ 61 ∧ m ≤ k ∧ Hid (m = ds.length) ∧ Hid (wr.ownsRow w2.heap.size 3 1 (.slice a m c) m (ints ds)) ∧ Hid (CurPost w2 w.heap.size (200 + 2 * k) (.slice ca cn cc) wr)) (fun _ q8 _ => (3700 - RowKit.intOf q8).toNat)
  case atStart =>
    have h := HO.out
    rw [show w2.heap.size = xb + 1 from HS12.out] at h
    exact ⟨0, 0, _, _, [], by simp, rfl, by omega, by omega, rfl, by show World.ownsRow _ _ _ _ _ _ _; rw [show w2.heap.size = xb + 1 from HS12.out]; exact h, HP.out⟩
  case round =>
    clear HO HP
    obtain ⟨k, m, a, c, ds, rfl, rfl, hk, hm, HN, HO, HP⟩ := hrel
    have c0 : wr.cell? ⟨xb, 0, none⟩ = some (.int .i64 f) := HP.out.2.2.cell HBx.out.1.1 hnb
    have c1 : wr.cell? ⟨xb, 1, none⟩ = some (.int .i64 T) := HP.out.2.2.cell HBx.out.1.2.1 hnb
    have hwk : IntKind.i64.wrap (f + (k : Int) - f) = (k : Int) := by rw [show f + (k : Int) - f = (k : Int) by omega]; exact IntWalk.i64_in _ (by omega)
    by_cases hc1 : f + (k : Int) ≤ T
    rotate_left
    · have HPk := Lib.hid (pick_any w.heap.size _ (.slice ca cn cc) 30 wr HP.out.1 HP.out.2.1 (by omega) (by omega))
      clear c0 c1 hwk
      have c0 : wr.cell? ⟨xb, 0, none⟩ = some (.int .i64 f) := HP.out.2.2.cell HBx.out.1.1 hnb
      have c1 : wr.cell? ⟨xb, 1, none⟩ = some (.int .i64 T) := HP.out.2.2.cell HBx.out.1.2.1 hnb
      have hwk : IntKind.i64.wrap (f + (k : Int) - f) = (k : Int) := by rw [show f + (k : Int) - f = (k : Int) by omega]; exact IntWalk.i64_in _ (by omega)
      go_wp2_with fail
      go_at_call 42
      refine HPk.out.mono ?_
      rintro e w4 ⟨⟨r, rfl, hr0, hr1⟩, hp⟩
      have hr2 := hr1 (by omega)
      have HO := Lib.hid (own_cur HO.out hlt2 hp)
      have HP := Lib.hid (curPost_trans HP.out hp)
      clear hp HPk c0 c1 hr1
      have c0 : w4.cell? ⟨xb, 0, none⟩ = some (.int .i64 f) := HP.out.2.2.cell HBx.out.1.1 hnb
      have c1 : w4.cell? ⟨xb, 1, none⟩ = some (.int .i64 T) := HP.out.2.2.cell HBx.out.1.2.1 hnb
      by_cases hq0 : r = 0
      · subst hq0
        have hwT : IntKind.i64.wrap (T + 1) = T + 1 := IntWalk.i64_in _ (by omega)
        have hzW : w2.heap.size ≤ w4.heap.size := HP.out.2.2.size
        go_wp2_with (at_builtin; refine wpList_append_own _ rfl _ _ 34 rfl w2.heap.size 3 i0 (.int .i64 0) 1 8 Try.underlying34 hi' iz0 iz1 iz2 rfl (by decide) (.slice a m c) m _ rfl (HO.out.alloc _) ⟨w4.heap.size, 0, none⟩ 1 1 [.int .i64 (T + 1)] rfl rfl ?c1 ?c2 ?c3 ?c4 ?c5 ?_)
        case c1 => exact one_new _ _
        case c2 => exact fit_one w4 _ (t := 3)
        case c3 => unfold maxLen; omega
        case c4 => omega
        case c5 => simp; omega
        intro v' w5 hown' hgrow _
        have HPN := Lib.hid (cur_grown HV2.out hlt2 (curPost_alloc HP.out _) hgrow (fun g hg => (HO.out.lt g hg).1))
        obtain ⟨av', cv', rfl⟩ := own_shape hown'
        have HON : Hid (w5.ownsRow w2.heap.size 3 1 (.slice av' (m + 1) cv') (m + 1) (ints (ds ++ [T + 1]))) := by show World.ownsRow _ _ _ _ _ _ _; simpa [ints] using hown'
        clear hown' hgrow HO HP
        have HBz := Lib.hid (below_curC (Nat.le_refl w.heap.size) HB.out (curPost_trans HP1.out HPN.out))
        have HOz := Lib.hid (own_base HON.out (show w.heap.size ≤ w2.heap.size by omega))
        clear c0 c1
        have c0 : w5.cell? ⟨xb, 0, none⟩ = some (.int .i64 f) := HPN.out.2.2.cell HBx.out.1.1 hnb
        have c1 : w5.cell? ⟨xb, 1, none⟩ = some (.int .i64 T) := HPN.out.2.2.cell HBx.out.1.2.1 hnb
        clear HPN HON
        go_upto_region 14 with fail
        have HLn : Hid (m + 1 = (ds ++ [T + 1] : List Int).length) := by show _ = _; simp [HN.out]
        have hL := HLn.out
        obtain ⟨wq, hwq⟩ : ∃ wq : World, wq = w5 := ⟨_, rfl⟩
        rw [← hwq] at HOz HBz c0 c1 ⊢
        clear hwq
        go_wp2_with (go_quiet (fail))
        refine bodyPost_ret (v := .tuple #[.int .i64 f, .int .i64 T, .slice av' (m + 1) cv']) ?_ ?_ ?_
        · simp only [results, Try.results18]; go_simp
        · rfl
        · refine ⟨⟨f, T, ds ++ [T + 1], _, _, by rw [← HLn.out], ⟨by omega, by omega⟩, ⟨by omega, by omega⟩, by rw [← HLn.out]; omega, ?_⟩, below_drewN HBz.out _⟩
          rw [← HLn.out]
          exact own_later HOz.out (below_drewN (Below.refl _ _) _)
      by_cases hq1 : r = 1
      · subst hq1
        go_upto_region 13 with fail
        have HPd := Lib.hid (curPost_later HV2.out hlt2 HP.out (Below.refl w4.heap.size w4).drew)
        have HOd : Hid (w4.drew.ownsRow w2.heap.size 3 1 (.slice a m c) m (ints ds)) := own_later HO.out (Below.refl w4.heap.size w4).drew
        have d0 : w4.drew.cell? ⟨xb, 0, none⟩ = some (.int .i64 f) := c0
        have d1 : w4.drew.cell? ⟨xb, 1, none⟩ = some (.int .i64 T) := c1
        clear HP HO c0 c1
        refine wp_region_held_drew (S := (fun w' => w'.cell? ⟨xb, 0, none⟩ = some (.int .i64 f))) (by kernel_rfl) ?_ (fun hHeld => ?_)
        · exact d0
        generalize w4.drew = wd at *
        refine wpAnyH_take (i := 0) (v := ?_) (by simp only [List.getElem?_toArray, List.getElem?_cons_zero]; rfl) (by kernel_rfl) (by kernel_rfl) (by kernel_rfl) (by exact fun _ _ _ h => h) (Or.inl ⟨by rfl, ?_⟩) (by assumption) ?_
        rotate_left
        · intro w' hSw; (try dsimp only at hSw)
          go_simp; try with_reducible rfl
        try simp only [Act.put, List.setIfInBounds_toArray, List.set_cons_zero, List.set_cons_succ]
        refine wpAnyH_take (i := 1) (v := ?_) (by simp only [List.getElem?_toArray, List.getElem?_cons_succ, List.getElem?_cons_zero]; rfl) (by kernel_rfl) (by kernel_rfl) (by kernel_rfl) (by exact fun _ _ _ h => h) (Or.inl ⟨by rfl, ?_⟩) (by assumption) ?_
        rotate_left
        · intro w' hSw; (try dsimp only at hSw)
          go_simp; try with_reducible rfl
        try simp only [Act.put, List.setIfInBounds_toArray, List.set_cons_zero, List.set_cons_succ]
        refine wpAnyH_take (i := 2) (v := ?_) (by simp only [List.getElem?_toArray, List.getElem?_cons_succ, List.getElem?_cons_zero]; rfl) (by kernel_rfl) (by kernel_rfl) (by kernel_rfl) (by exact fun _ _ _ h => h) (Or.inl ⟨by rfl, ?_⟩) (by assumption) ?_
        rotate_left
        · intro w' hSw; (try dsimp only at hSw)
          go_simp; try with_reducible rfl
        try simp only [Act.put, List.setIfInBounds_toArray, List.set_cons_zero, List.set_cons_succ]
        refine wpAnyH_ready (rs := [3]) (by kernel_rfl) (by simp) ?_
        refine AllReadyH.cons (by simp only [List.getElem?_toArray, List.getElem?_cons_succ, List.getElem?_cons_zero]; rfl) (fun K hK => ?_) AllReadyH.nil
        go_simp
        obtain ⟨wl, hwl⟩ : ∃ wl : World, wl = wd.alloc (.cells #[.int .i64 200, .int .i64 201] 3) := ⟨_, rfl⟩
        have hltw : w.heap.size < wd.heap.size := curAt_lt HPd.out.1
        have hlo : ListOff wl w.heap.size (.slice (some ⟨wd.heap.size, 0, none⟩) 2 2) (amV.map (.int .i64)) := by rw [hwl]; exact listOff_built wd w.heap.size (amV.map (.int .i64)) 3 hltw (by decide)
        have hp4 := curPost_alloc HPd.out (.cells #[.int .i64 200, .int .i64 201] 3)
        rw [← hwl] at hp4
        have HAm := Lib.hid (among_any w.heap.size _ (.slice ca cn cc) (.slice (some ⟨wd.heap.size, 0, none⟩) 2 2) amV wl hp4.1 hp4.2.1 (by omega) hlo (by decide) (by decide) (by decide))
        have hbl : Below wd.heap.size wd wl := by rw [hwl]; exact (Below.refl _ _).alloc (Nat.le_refl _) _
        have HP := Lib.hid hp4
        have HO := Lib.hid (own_later HOd.out hbl)
        have hS := bkeep hbl d0
        have hS1 := bkeep hbl d1
        rw [← hwl]
        clear hwl hltw hlo hp4 hbl HPd HOd d0 d1
        refine hK.out _ _ hS (fun hHa1 => ?_)
        clear hK K
        try simp only [Act.put, List.setIfInBounds_toArray, List.set_cons_zero, List.set_cons_succ]
        refine wpAnyH_ready (rs := [4]) (by kernel_rfl) (by simp) ?_
        refine AllReadyH.cons (by simp only [List.getElem?_toArray, List.getElem?_cons_succ, List.getElem?_cons_zero]; rfl) (fun K hK => ?_) AllReadyH.nil
        go_simp
        go_at_call 65
        refine HAm.out.mono ?_
        rintro e v2 ⟨⟨z, hz, rfl⟩, hp⟩
        have hz := amV_in z hz
        have hwz : IntKind.i64.wrap (f + z) = f + z := IntWalk.i64_in _ (by omega)
        have HO := Lib.hid (own_cur HO.out hlt2 hp)
        have HP := Lib.hid (curPost_trans HP.out hp)
        have hS : v2.cell? ⟨xb, 0, none⟩ = some (.int .i64 f) := HP.out.2.2.cell HBx.out.1.1 hnb
        have hS1 : v2.cell? ⟨xb, 1, none⟩ = some (.int .i64 T) := HP.out.2.2.cell HBx.out.1.2.1 hnb
        have hfz : ∀ o, v2.frozen? ⟨xb, o, none⟩ = false := fun o => by
          rw [World.frozen?_of_block (a := ⟨xb, o, none⟩) (HP.out.2.2.block xb hxb2 hnb)]
          exact HBx.out.2 o
        clear hp HAm
        go_wp2_with fail
        refine hK.out _ _ hS (fun hHa2 => ?_)
        clear hK K
        try simp only [Act.put, List.setIfInBounds_toArray, List.set_cons_zero, List.set_cons_succ]
        refine wpAnyH_take (i := 5) (v := ?_) (by simp only [List.getElem?_toArray, List.getElem?_cons_succ, List.getElem?_cons_zero]; rfl) (by kernel_rfl) (by kernel_rfl) (by kernel_rfl) (by exact fun _ _ _ h => h) (Or.inl ⟨by rfl, ?_⟩) (by assumption) ?_
        rotate_left
        · intro w' hSw; (try dsimp only at hSw)
          go_simp; try with_reducible rfl
        try simp only [Act.put, List.setIfInBounds_toArray, List.set_cons_zero, List.set_cons_succ]
        refine wpAnyH_take (i := 6) (v := ?_) (by simp only [List.getElem?_toArray, List.getElem?_cons_succ, List.getElem?_cons_zero]; rfl) (by kernel_rfl) (by kernel_rfl) (by kernel_rfl) (by exact fun _ _ _ h => h) (Or.inl ⟨by rfl, ?_⟩) (by assumption) ?_
        rotate_left
        · intro w' hSw; (try dsimp only at hSw)
          go_simp; try with_reducible rfl
        try simp only [Act.put, List.setIfInBounds_toArray, List.set_cons_zero, List.set_cons_succ]
        refine wpAnyH_ready (rs := [7]) (by kernel_rfl) (by simp) ?_
        refine AllReadyH.cons (by simp only [List.getElem?_toArray, List.getElem?_cons_succ, List.getElem?_cons_zero]; rfl) (fun K hK => ?_) AllReadyH.nil
        go_simp
        refine hK.out _ _ (by rw [World.cell?_setCell_other _ _ _ _ (fun e => by simp at e)]; exact hS) (fun hHa3 => ?_)
        clear hK K
        try simp only [Act.put, List.setIfInBounds_toArray, List.set_cons_zero, List.set_cons_succ]
        refine wpAnyH_done (by kernel_rfl) ?_ _
        clear hHeld
        have HBz := Lib.hid ((below_curC (Nat.le_refl w.heap.size) HB.out (curPost_trans HP1.out HP.out)).setCell (p := ⟨xb, 1, none⟩) (by show w.heap.size ≤ xb; omega) (.int .i64 (f + z)))
        have HOz := Lib.hid (own_base (ownsRow_setCell_below HO.out (a := ⟨xb, 1, none⟩) hxb2 (.int .i64 (f + z))) (show w.heap.size ≤ w2.heap.size by omega))
        have c0 : (v2.setCell ⟨xb, 1, none⟩ (.int .i64 (f + z))).cell? ⟨xb, 0, none⟩ = some (.int .i64 f) := by rw [World.cell?_setCell_other _ _ _ _ (fun e => by simp at e)]; exact hS
        have c1 : (v2.setCell ⟨xb, 1, none⟩ (.int .i64 (f + z))).cell? ⟨xb, 1, none⟩ = some (.int .i64 (f + z)) := set_same hS1
        clear HP HO hS hS1 hfz
        go_upto_region 14 with fail
        have HLn : Hid (m = (ds : List Int).length) := by show _ = _; simp [HN.out]
        have hL := HLn.out
        obtain ⟨wq, hwq⟩ : ∃ wq : World, wq = v2.setCell ⟨xb, 1, none⟩ (.int .i64 (f + z)) := ⟨_, rfl⟩
        rw [← hwq] at HOz HBz c0 c1 ⊢
        clear hwq
        go_wp2_with (go_quiet (fail))
        refine bodyPost_ret (v := .tuple #[.int .i64 f, .int .i64 (f + z), .slice a m c]) ?_ ?_ ?_
        · simp only [results, Try.results18]; go_simp
        · rfl
        · refine ⟨⟨f, (f + z), ds, _, _, by rw [← HLn.out], ⟨by omega, by omega⟩, ⟨by omega, by omega⟩, by rw [← HLn.out]; omega, ?_⟩, below_drewN HBz.out _⟩
          rw [← HLn.out]
          exact own_later HOz.out (below_drewN (Below.refl _ _) _)
      have hb0 : (r == 0) = false := by simpa using hq0
      have hb1 : (r == 1) = false := by simpa using hq1
      have HBz := Lib.hid (below_curC (Nat.le_refl w.heap.size) HB.out (curPost_trans HP1.out HP.out))
      have HOz := Lib.hid (own_base HO.out (show w.heap.size ≤ w2.heap.size by omega))
      clear HP HO
      go_upto_region 14 with fail
      have HLn : Hid (m = (ds : List Int).length) := by show _ = _; simp [HN.out]
      have hL := HLn.out
      obtain ⟨wq, hwq⟩ : ∃ wq : World, wq = w4 := ⟨_, rfl⟩
      rw [← hwq] at HOz HBz c0 c1 ⊢
      clear hwq
      go_wp2_with (go_quiet (fail))
      refine bodyPost_ret (v := .tuple #[.int .i64 f, .int .i64 T, .slice a m c]) ?_ ?_ ?_
      · simp only [results, Try.results18]; go_simp
      · rfl
      · refine ⟨⟨f, T, ds, _, _, by rw [← HLn.out], ⟨by omega, by omega⟩, ⟨by omega, by omega⟩, by rw [← HLn.out]; omega, ?_⟩, below_drewN HBz.out _⟩
        rw [← HLn.out]
        exact own_later HOz.out (below_drewN (Below.refl _ _) _)
    by_cases hc2 : (k : Int) ≤ 60
    rotate_left
    · have HPk := Lib.hid (pick_any w.heap.size _ (.slice ca cn cc) 30 wr HP.out.1 HP.out.2.1 (by omega) (by omega))
      clear c0 c1 hwk
      have c0 : wr.cell? ⟨xb, 0, none⟩ = some (.int .i64 f) := HP.out.2.2.cell HBx.out.1.1 hnb
      have c1 : wr.cell? ⟨xb, 1, none⟩ = some (.int .i64 T) := HP.out.2.2.cell HBx.out.1.2.1 hnb
      have hwk : IntKind.i64.wrap (f + (k : Int) - f) = (k : Int) := by rw [show f + (k : Int) - f = (k : Int) by omega]; exact IntWalk.i64_in _ (by omega)
      go_wp2_with fail
      go_at_call 42
      refine HPk.out.mono ?_
      rintro e w4 ⟨⟨r, rfl, hr0, hr1⟩, hp⟩
      have hr2 := hr1 (by omega)
      have HO := Lib.hid (own_cur HO.out hlt2 hp)
      have HP := Lib.hid (curPost_trans HP.out hp)
      clear hp HPk c0 c1 hr1
      have c0 : w4.cell? ⟨xb, 0, none⟩ = some (.int .i64 f) := HP.out.2.2.cell HBx.out.1.1 hnb
      have c1 : w4.cell? ⟨xb, 1, none⟩ = some (.int .i64 T) := HP.out.2.2.cell HBx.out.1.2.1 hnb
      by_cases hq0 : r = 0
      · subst hq0
        have hwT : IntKind.i64.wrap (T + 1) = T + 1 := IntWalk.i64_in _ (by omega)
        have hzW : w2.heap.size ≤ w4.heap.size := HP.out.2.2.size
        go_wp2_with (at_builtin; refine wpList_append_own _ rfl _ _ 34 rfl w2.heap.size 3 i0 (.int .i64 0) 1 8 Try.underlying34 hi' iz0 iz1 iz2 rfl (by decide) (.slice a m c) m _ rfl (HO.out.alloc _) ⟨w4.heap.size, 0, none⟩ 1 1 [.int .i64 (T + 1)] rfl rfl ?c1 ?c2 ?c3 ?c4 ?c5 ?_)
        case c1 => exact one_new _ _
        case c2 => exact fit_one w4 _ (t := 3)
        case c3 => unfold maxLen; omega
        case c4 => omega
        case c5 => simp; omega
        intro v' w5 hown' hgrow _
        have HPN := Lib.hid (cur_grown HV2.out hlt2 (curPost_alloc HP.out _) hgrow (fun g hg => (HO.out.lt g hg).1))
        obtain ⟨av', cv', rfl⟩ := own_shape hown'
        have HON : Hid (w5.ownsRow w2.heap.size 3 1 (.slice av' (m + 1) cv') (m + 1) (ints (ds ++ [T + 1]))) := by show World.ownsRow _ _ _ _ _ _ _; simpa [ints] using hown'
        clear hown' hgrow HO HP
        have HBz := Lib.hid (below_curC (Nat.le_refl w.heap.size) HB.out (curPost_trans HP1.out HPN.out))
        have HOz := Lib.hid (own_base HON.out (show w.heap.size ≤ w2.heap.size by omega))
        clear c0 c1
        have c0 : w5.cell? ⟨xb, 0, none⟩ = some (.int .i64 f) := HPN.out.2.2.cell HBx.out.1.1 hnb
        have c1 : w5.cell? ⟨xb, 1, none⟩ = some (.int .i64 T) := HPN.out.2.2.cell HBx.out.1.2.1 hnb
        clear HPN HON
        go_upto_region 14 with fail
        have HLn : Hid (m + 1 = (ds ++ [T + 1] : List Int).length) := by show _ = _; simp [HN.out]
        have hL := HLn.out
        obtain ⟨wq, hwq⟩ : ∃ wq : World, wq = w5 := ⟨_, rfl⟩
        rw [← hwq] at HOz HBz c0 c1 ⊢
        clear hwq
        go_wp2_with (go_quiet (fail))
        refine bodyPost_ret (v := .tuple #[.int .i64 f, .int .i64 T, .slice av' (m + 1) cv']) ?_ ?_ ?_
        · simp only [results, Try.results18]; go_simp
        · rfl
        · refine ⟨⟨f, T, ds ++ [T + 1], _, _, by rw [← HLn.out], ⟨by omega, by omega⟩, ⟨by omega, by omega⟩, by rw [← HLn.out]; omega, ?_⟩, below_drewN HBz.out _⟩
          rw [← HLn.out]
          exact own_later HOz.out (below_drewN (Below.refl _ _) _)
      by_cases hq1 : r = 1
      · subst hq1
        go_upto_region 13 with fail
        have HPd := Lib.hid (curPost_later HV2.out hlt2 HP.out (Below.refl w4.heap.size w4).drew)
        have HOd : Hid (w4.drew.ownsRow w2.heap.size 3 1 (.slice a m c) m (ints ds)) := own_later HO.out (Below.refl w4.heap.size w4).drew
        have d0 : w4.drew.cell? ⟨xb, 0, none⟩ = some (.int .i64 f) := c0
        have d1 : w4.drew.cell? ⟨xb, 1, none⟩ = some (.int .i64 T) := c1
        clear HP HO c0 c1
        refine wp_region_held_drew (S := (fun w' => w'.cell? ⟨xb, 0, none⟩ = some (.int .i64 f))) (by kernel_rfl) ?_ (fun hHeld => ?_)
        · exact d0
        generalize w4.drew = wd at *
        refine wpAnyH_take (i := 0) (v := ?_) (by simp only [List.getElem?_toArray, List.getElem?_cons_zero]; rfl) (by kernel_rfl) (by kernel_rfl) (by kernel_rfl) (by exact fun _ _ _ h => h) (Or.inl ⟨by rfl, ?_⟩) (by assumption) ?_
        rotate_left
        · intro w' hSw; (try dsimp only at hSw)
          go_simp; try with_reducible rfl
        try simp only [Act.put, List.setIfInBounds_toArray, List.set_cons_zero, List.set_cons_succ]
        refine wpAnyH_take (i := 1) (v := ?_) (by simp only [List.getElem?_toArray, List.getElem?_cons_succ, List.getElem?_cons_zero]; rfl) (by kernel_rfl) (by kernel_rfl) (by kernel_rfl) (by exact fun _ _ _ h => h) (Or.inl ⟨by rfl, ?_⟩) (by assumption) ?_
        rotate_left
        · intro w' hSw; (try dsimp only at hSw)
          go_simp; try with_reducible rfl
        try simp only [Act.put, List.setIfInBounds_toArray, List.set_cons_zero, List.set_cons_succ]
        refine wpAnyH_take (i := 2) (v := ?_) (by simp only [List.getElem?_toArray, List.getElem?_cons_succ, List.getElem?_cons_zero]; rfl) (by kernel_rfl) (by kernel_rfl) (by kernel_rfl) (by exact fun _ _ _ h => h) (Or.inl ⟨by rfl, ?_⟩) (by assumption) ?_
        rotate_left
        · intro w' hSw; (try dsimp only at hSw)
          go_simp; try with_reducible rfl
        try simp only [Act.put, List.setIfInBounds_toArray, List.set_cons_zero, List.set_cons_succ]
        refine wpAnyH_ready (rs := [3]) (by kernel_rfl) (by simp) ?_
        refine AllReadyH.cons (by simp only [List.getElem?_toArray, List.getElem?_cons_succ, List.getElem?_cons_zero]; rfl) (fun K hK => ?_) AllReadyH.nil
        go_simp
        obtain ⟨wl, hwl⟩ : ∃ wl : World, wl = wd.alloc (.cells #[.int .i64 200, .int .i64 201] 3) := ⟨_, rfl⟩
        have hltw : w.heap.size < wd.heap.size := curAt_lt HPd.out.1
        have hlo : ListOff wl w.heap.size (.slice (some ⟨wd.heap.size, 0, none⟩) 2 2) (amV.map (.int .i64)) := by rw [hwl]; exact listOff_built wd w.heap.size (amV.map (.int .i64)) 3 hltw (by decide)
        have hp4 := curPost_alloc HPd.out (.cells #[.int .i64 200, .int .i64 201] 3)
        rw [← hwl] at hp4
        have HAm := Lib.hid (among_any w.heap.size _ (.slice ca cn cc) (.slice (some ⟨wd.heap.size, 0, none⟩) 2 2) amV wl hp4.1 hp4.2.1 (by omega) hlo (by decide) (by decide) (by decide))
        have hbl : Below wd.heap.size wd wl := by rw [hwl]; exact (Below.refl _ _).alloc (Nat.le_refl _) _
        have HP := Lib.hid hp4
        have HO := Lib.hid (own_later HOd.out hbl)
        have hS := bkeep hbl d0
        have hS1 := bkeep hbl d1
        rw [← hwl]
        clear hwl hltw hlo hp4 hbl HPd HOd d0 d1
        refine hK.out _ _ hS (fun hHa1 => ?_)
        clear hK K
        try simp only [Act.put, List.setIfInBounds_toArray, List.set_cons_zero, List.set_cons_succ]
        refine wpAnyH_ready (rs := [4]) (by kernel_rfl) (by simp) ?_
        refine AllReadyH.cons (by simp only [List.getElem?_toArray, List.getElem?_cons_succ, List.getElem?_cons_zero]; rfl) (fun K hK => ?_) AllReadyH.nil
        go_simp
        go_at_call 65
        refine HAm.out.mono ?_
        rintro e v2 ⟨⟨z, hz, rfl⟩, hp⟩
        have hz := amV_in z hz
        have hwz : IntKind.i64.wrap (f + z) = f + z := IntWalk.i64_in _ (by omega)
        have HO := Lib.hid (own_cur HO.out hlt2 hp)
        have HP := Lib.hid (curPost_trans HP.out hp)
        have hS : v2.cell? ⟨xb, 0, none⟩ = some (.int .i64 f) := HP.out.2.2.cell HBx.out.1.1 hnb
        have hS1 : v2.cell? ⟨xb, 1, none⟩ = some (.int .i64 T) := HP.out.2.2.cell HBx.out.1.2.1 hnb
        have hfz : ∀ o, v2.frozen? ⟨xb, o, none⟩ = false := fun o => by
          rw [World.frozen?_of_block (a := ⟨xb, o, none⟩) (HP.out.2.2.block xb hxb2 hnb)]
          exact HBx.out.2 o
        clear hp HAm
        go_wp2_with fail
        refine hK.out _ _ hS (fun hHa2 => ?_)
        clear hK K
        try simp only [Act.put, List.setIfInBounds_toArray, List.set_cons_zero, List.set_cons_succ]
        refine wpAnyH_take (i := 5) (v := ?_) (by simp only [List.getElem?_toArray, List.getElem?_cons_succ, List.getElem?_cons_zero]; rfl) (by kernel_rfl) (by kernel_rfl) (by kernel_rfl) (by exact fun _ _ _ h => h) (Or.inl ⟨by rfl, ?_⟩) (by assumption) ?_
        rotate_left
        · intro w' hSw; (try dsimp only at hSw)
          go_simp; try with_reducible rfl
        try simp only [Act.put, List.setIfInBounds_toArray, List.set_cons_zero, List.set_cons_succ]
        refine wpAnyH_take (i := 6) (v := ?_) (by simp only [List.getElem?_toArray, List.getElem?_cons_succ, List.getElem?_cons_zero]; rfl) (by kernel_rfl) (by kernel_rfl) (by kernel_rfl) (by exact fun _ _ _ h => h) (Or.inl ⟨by rfl, ?_⟩) (by assumption) ?_
        rotate_left
        · intro w' hSw; (try dsimp only at hSw)
          go_simp; try with_reducible rfl
        try simp only [Act.put, List.setIfInBounds_toArray, List.set_cons_zero, List.set_cons_succ]
        refine wpAnyH_ready (rs := [7]) (by kernel_rfl) (by simp) ?_
        refine AllReadyH.cons (by simp only [List.getElem?_toArray, List.getElem?_cons_succ, List.getElem?_cons_zero]; rfl) (fun K hK => ?_) AllReadyH.nil
        go_simp
        refine hK.out _ _ (by rw [World.cell?_setCell_other _ _ _ _ (fun e => by simp at e)]; exact hS) (fun hHa3 => ?_)
        clear hK K
        try simp only [Act.put, List.setIfInBounds_toArray, List.set_cons_zero, List.set_cons_succ]
        refine wpAnyH_done (by kernel_rfl) ?_ _
        clear hHeld
        have HBz := Lib.hid ((below_curC (Nat.le_refl w.heap.size) HB.out (curPost_trans HP1.out HP.out)).setCell (p := ⟨xb, 1, none⟩) (by show w.heap.size ≤ xb; omega) (.int .i64 (f + z)))
        have HOz := Lib.hid (own_base (ownsRow_setCell_below HO.out (a := ⟨xb, 1, none⟩) hxb2 (.int .i64 (f + z))) (show w.heap.size ≤ w2.heap.size by omega))
        have c0 : (v2.setCell ⟨xb, 1, none⟩ (.int .i64 (f + z))).cell? ⟨xb, 0, none⟩ = some (.int .i64 f) := by rw [World.cell?_setCell_other _ _ _ _ (fun e => by simp at e)]; exact hS
        have c1 : (v2.setCell ⟨xb, 1, none⟩ (.int .i64 (f + z))).cell? ⟨xb, 1, none⟩ = some (.int .i64 (f + z)) := set_same hS1
        clear HP HO hS hS1 hfz
        go_upto_region 14 with fail
        have HLn : Hid (m = (ds : List Int).length) := by show _ = _; simp [HN.out]
        have hL := HLn.out
        obtain ⟨wq, hwq⟩ : ∃ wq : World, wq = v2.setCell ⟨xb, 1, none⟩ (.int .i64 (f + z)) := ⟨_, rfl⟩
        rw [← hwq] at HOz HBz c0 c1 ⊢
        clear hwq
        go_wp2_with (go_quiet (fail))
        refine bodyPost_ret (v := .tuple #[.int .i64 f, .int .i64 (f + z), .slice a m c]) ?_ ?_ ?_
        · simp only [results, Try.results18]; go_simp
        · rfl
        · refine ⟨⟨f, (f + z), ds, _, _, by rw [← HLn.out], ⟨by omega, by omega⟩, ⟨by omega, by omega⟩, by rw [← HLn.out]; omega, ?_⟩, below_drewN HBz.out _⟩
          rw [← HLn.out]
          exact own_later HOz.out (below_drewN (Below.refl _ _) _)
      have hb0 : (r == 0) = false := by simpa using hq0
      have hb1 : (r == 1) = false := by simpa using hq1
      have HBz := Lib.hid (below_curC (Nat.le_refl w.heap.size) HB.out (curPost_trans HP1.out HP.out))
      have HOz := Lib.hid (own_base HO.out (show w.heap.size ≤ w2.heap.size by omega))
      clear HP HO
      go_upto_region 14 with fail
      have HLn : Hid (m = (ds : List Int).length) := by show _ = _; simp [HN.out]
      have hL := HLn.out
      obtain ⟨wq, hwq⟩ : ∃ wq : World, wq = w4 := ⟨_, rfl⟩
      rw [← hwq] at HOz HBz c0 c1 ⊢
      clear hwq
      go_wp2_with (go_quiet (fail))
      refine bodyPost_ret (v := .tuple #[.int .i64 f, .int .i64 T, .slice a m c]) ?_ ?_ ?_
      · simp only [results, Try.results18]; go_simp
      · rfl
      · refine ⟨⟨f, T, ds, _, _, by rw [← HLn.out], ⟨by omega, by omega⟩, ⟨by omega, by omega⟩, by rw [← HLn.out]; omega, ?_⟩, below_drewN HBz.out _⟩
        rw [← HLn.out]
        exact own_later HOz.out (below_drewN (Below.refl _ _) _)
    · have HRn := Lib.hid (l3Runs_some _ _ (f + (k : Int)) wr (HCo.out.cur HP.out (by omega)).at f0 (by show T ≤ 4000; omega))
      have c2 : wr.cell? ⟨xb, 2, none⟩ = some (.int .i64 cw) := HP.out.2.2.cell HBx.out.1.2.2.1 hnb
      have c3 : wr.cell? ⟨xb, 3, none⟩ = some (.slice a1 cA.length k1) := HP.out.2.2.cell HBx.out.1.2.2.2.1 hnb
      have c4 : wr.cell? ⟨xb, 4, none⟩ = some (.slice a2 cR.length k2) := HP.out.2.2.cell HBx.out.1.2.2.2.2 hnb
      have hw1 : IntKind.i64.wrap (f + (k : Int) + 1) = f + (k : Int) + 1 := IntWalk.i64_in _ (by omega)
      go_wp2_with fail
      go_at_call 63
      refine HRn.out.mono ?_
      rintro e w4 ⟨⟨t, rfl⟩, hb⟩
      have HO := Lib.hid (own_later HO.out hb)
      have HP := Lib.hid (curPost_later HV2.out hlt2 HP.out hb)
      have HOn := Lib.hid (one_any w.heap.size _ (.slice ca cn cc) 12 w4 HP.out.1 HP.out.2.1 (by omega) (by omega))
      clear hb HRn c0 c1 c2 c3 c4
      go_wp2_with fail
      go_at_call 64
      refine HOn.out.mono ?_
      rintro e w5 ⟨⟨r, rfl⟩, hp⟩
      have HO := Lib.hid (own_cur HO.out hlt2 hp)
      have HP := Lib.hid (curPost_trans HP.out hp)
      clear hp HOn
      cases t <;> cases r
      · go_wp2_with fail
        exact ⟨⟨k + 1, m, a, c, ds, by first | rfl | (congr 1; push_cast; omega), rfl, by omega, by omega, HN.out, HO.out, curPost_mono HP.out (by omega)⟩, by simp [RowKit.intOf]; omega⟩
      · have hzW : w2.heap.size ≤ w5.heap.size := HP.out.2.2.size
        go_wp2_with (at_builtin; refine wpList_append_own _ rfl _ _ 34 rfl w2.heap.size 3 i0 (.int .i64 0) 1 8 Try.underlying34 hi' iz0 iz1 iz2 rfl (by decide) (.slice a m c) m _ rfl (HO.out.alloc _) ⟨w5.heap.size, 0, none⟩ 1 1 [.int .i64 (f + (k : Int))] rfl rfl ?c1 ?c2 ?c3 ?c4 ?c5 ?_)
        case c1 => exact one_new _ _
        case c2 => exact fit_one w5 _ (t := 3)
        case c3 => unfold maxLen; omega
        case c4 => omega
        case c5 => simp; omega
        intro v' w6 hown' hgrow _
        have HPN := Lib.hid (cur_grown HV2.out hlt2 (curPost_alloc HP.out _) hgrow (fun g hg => (HO.out.lt g hg).1))
        obtain ⟨av', cv', rfl⟩ := own_shape hown'
        have HON : Hid (w6.ownsRow w2.heap.size 3 1 (.slice av' (m + 1) cv') (m + 1) (ints (ds ++ [f + (k : Int)]))) := by show World.ownsRow _ _ _ _ _ _ _; simpa [ints] using hown'
        clear hown' hgrow HO HP
        go_wp2_with fail
        exact ⟨⟨k + 1, m + 1, av', cv', ds ++ [f + (k : Int)], by first | rfl | (congr 1; push_cast; omega), rfl, by omega, by omega, by show _ = _; simp [HN.out], HON.out, curPost_mono HPN.out (by omega)⟩, by simp [RowKit.intOf]; omega⟩
      · have hzW : w2.heap.size ≤ w5.heap.size := HP.out.2.2.size
        go_wp2_with (at_builtin; refine wpList_append_own _ rfl _ _ 34 rfl w2.heap.size 3 i0 (.int .i64 0) 1 8 Try.underlying34 hi' iz0 iz1 iz2 rfl (by decide) (.slice a m c) m _ rfl (HO.out.alloc _) ⟨w5.heap.size, 0, none⟩ 1 1 [.int .i64 (f + (k : Int))] rfl rfl ?c1 ?c2 ?c3 ?c4 ?c5 ?_)
        case c1 => exact one_new _ _
        case c2 => exact fit_one w5 _ (t := 3)
        case c3 => unfold maxLen; omega
        case c4 => omega
        case c5 => simp; omega
        intro v' w6 hown' hgrow _
        have HPN := Lib.hid (cur_grown HV2.out hlt2 (curPost_alloc HP.out _) hgrow (fun g hg => (HO.out.lt g hg).1))
        obtain ⟨av', cv', rfl⟩ := own_shape hown'
        have HON : Hid (w6.ownsRow w2.heap.size 3 1 (.slice av' (m + 1) cv') (m + 1) (ints (ds ++ [f + (k : Int)]))) := by show World.ownsRow _ _ _ _ _ _ _; simpa [ints] using hown'
        clear hown' hgrow HO HP
        go_wp2_with fail
        exact ⟨⟨k + 1, m + 1, av', cv', ds ++ [f + (k : Int)], by first | rfl | (congr 1; push_cast; omega), rfl, by omega, by omega, by show _ = _; simp [HN.out], HON.out, curPost_mono HPN.out (by omega)⟩, by simp [RowKit.intOf]; omega⟩
      · go_wp2_with fail
        exact ⟨⟨k + 1, m, a, c, ds, by first | rfl | (congr 1; push_cast; omega), rfl, by omega, by omega, HN.out, HO.out, curPost_mono HP.out (by omega)⟩, by simp [RowKit.intOf]; omega⟩
end Go.Proofs.Ytemejcbilhcebaa
