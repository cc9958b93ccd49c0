import Derived.Test.YtemejcbilhcebaaDayNear
namespace Go.Proofs.Ytemejcbilhcebaa
open Go.RowKit
set_option linter.unusedVariables false
set_option linter.unusedSimpArgs false

theorem build_curC (a : Option Addr) (n c : Nat) (w : World) : (Instr.build 75 #[(0, .slice a n c)]).run Try.prog w = .ok (.agg #[.slice a n c, .int .i64 0, .int .u64 0]) w :=
  run_build w 75 #[(0, .slice a n c)] #[.slice a n c, .int .i64 0, .int .u64 0] (by kernel_rfl)
theorem below_curC {w w0 w' : World} {B b n : Nat} {v : Value} (hB : B ≤ b) (hb : Below B w w0 ∧ B ≤ w0.heap.size) (h : CurPost w0 b n v w') : Below B w w' :=
  hb.1.grown h.2.2 hb.2 (fun k hk => by cases hk; exact hB)
theorem kp1 {w : World} {q i : Nat} {p : Addr} {x : Value} (u : Value) (hn : q ≠ p.block) (h : w.cell? p = some x) : (w.setCell ⟨q, i, none⟩ u).cell? p = some x := by
  rw [World.cell?_setCell_other _ _ _ _ (fun e => hn (by rw [← e]))]; exact h
theorem kp5 {w : World} {q xb : Nat} {x0 x1 x2 x3 x4 : Value} (u0 u1 u2 u3 u4 : Value) (hn : q ≠ xb) (h : w.cell? ⟨xb, 0, none⟩ = some x0 ∧ w.cell? ⟨xb, 1, none⟩ = some x1 ∧ w.cell? ⟨xb, 2, none⟩ = some x2 ∧ w.cell? ⟨xb, 3, none⟩ = some x3 ∧ w.cell? ⟨xb, 4, none⟩ = some x4) :
    let W := ((((w.setCell ⟨q, 0, none⟩ u0).setCell ⟨q, 1, none⟩ u1).setCell ⟨q, 2, none⟩ u2).setCell ⟨q, 3, none⟩ u3).setCell ⟨q, 4, none⟩ u4
    W.cell? ⟨xb, 0, none⟩ = some x0 ∧ W.cell? ⟨xb, 1, none⟩ = some x1 ∧ W.cell? ⟨xb, 2, none⟩ = some x2 ∧ W.cell? ⟨xb, 3, none⟩ = some x3 ∧ W.cell? ⟨xb, 4, none⟩ = some x4 :=
  ⟨kp1 _ hn (kp1 _ hn (kp1 _ hn (kp1 _ hn (kp1 _ hn h.1)))), kp1 _ hn (kp1 _ hn (kp1 _ hn (kp1 _ hn (kp1 _ hn h.2.1)))), kp1 _ hn (kp1 _ hn (kp1 _ hn (kp1 _ hn (kp1 _ hn h.2.2.1)))), kp1 _ hn (kp1 _ hn (kp1 _ hn (kp1 _ hn (kp1 _ hn h.2.2.2.1)))), kp1 _ hn (kp1 _ hn (kp1 _ hn (kp1 _ hn (kp1 _ hn h.2.2.2.2))))⟩
set_option maxRecDepth 100000 in
set_option maxHeartbeats 8000000 in
theorem drawRunsOn_any (v : Value) (w : World) (h : CodeAt w v) :
    Calls Try.prog 80 #[v] w fun e w' => (∃ (c : CalD) (av rv : Value) (d : Int), e = .returned (.tuple #[.agg #[.int .i64 c.frm, .int .i64 c.too, .int .i64 c.wd, av, rv], .int .i64 d]) ∧ AnyC c ∧ CalO (w.heap.size + 1) w' c av rv ∧ -2 ≤ d ∧ d ≤ 4000) ∧ Below w.heap.size w w' := by
  obtain ⟨l0, ca, cc, rfl, hcc⟩ := h
  obtain ⟨cn, hcn⟩ : ∃ cn, (l0.map byteV).length = cn := ⟨_, rfl⟩
  have hk : CodeAt (w.alloc (.cells #[.int .i64 0, .int .i64 0, .int .i64 0, .slice none 0 0, .slice none 0 0] 46)) (.slice ca (l0.map byteV).length cc) := ⟨l0, (show RowAt w (.slice ca (l0.map byteV).length cc) (l0.map byteV) from ⟨ca, cc, rfl, hcc⟩).below rfl ((Below.refl _ _).alloc (Nat.le_refl _) _)⟩
  obtain ⟨hc, ho, hb⟩ := cur_new _ _ hk
  rw [hcn] at hc ho hb
  rw [hcn]
  have hbuild := build_curC ca cn cc
  have hsz : (w.alloc (.cells #[.int .i64 0, .int .i64 0, .int .i64 0, .slice none 0 0, .slice none 0 0] 46)).heap.size = w.heap.size + 1 := World.size_alloc _ _
  rw [hsz] at hc ho
  obtain ⟨wa, hwa⟩ : ∃ wa : World, wa = (w.alloc (.cells #[.int .i64 0, .int .i64 0, .int .i64 0, .slice none 0 0, .slice none 0 0] 46)).alloc (.cells #[.slice ca cn cc, .int .i64 0, .int .u64 0] 75) := ⟨_, rfl⟩
  rw [← hwa] at hc ho hb
  have hza : wa.heap.size = w.heap.size + 2 := by rw [hwa]; simp
  have HB : Hid (Below w.heap.size w wa ∧ w.heap.size ≤ wa.heap.size) := ⟨((Below.refl _ w).alloc (Nat.le_refl _) _).trans (hb.mono (by simp)), by omega⟩
  have HZ : Hid (CalBox wa w.heap.size calZ (.slice none 0 0) (.slice none 0 0) ∧ ∀ o, wa.frozen? ⟨w.heap.size, o, none⟩ = false) := by
    rw [hwa]
    exact ⟨(calBox_new w calZ (.slice none 0 0) (.slice none 0 0) 46).keep ((Below.refl _ _).alloc (Nat.le_refl _) _), fun o => by rw [World.frozen?_of_block (a := ⟨w.heap.size, o, none⟩) (Below.heap_alloc _ _ _ (by simp))]; go_simp⟩
  have HV := Lib.hid ho
  have H1 := Lib.hid (calendar_any (w.heap.size + 1) 0 (.slice ca cn cc) wa hc ho (by omega))
  have HWA := Lib.hid hwa
  have HZA := Lib.hid hza
  have hzlt : w.heap.size + 1 < wa.heap.size := by omega
  clear hc ho hb hk hsz hcc hwa hcn hza
  go_enter Try.func80, Try.ntmps80
  go_wp2_with fail
  rw [← HWA.out]
  go_at_call 62
  refine H1.out.mono ?_
  rintro e w1 ⟨⟨c, av, rv, rfl, hany, hco⟩, hp⟩
  obtain ⟨a1, k1, hav⟩ := own_shape hco.1
  obtain ⟨a2, k2, hrv⟩ := own_shape hco.2
  subst hav hrv
  obtain ⟨cf, ct, cw, cA, cR⟩ := c
  simp only at *
  obtain ⟨w2, hw2⟩ : ∃ w2 : World, w2 = w1.alloc (.cells #[.int .i64 cf, .int .i64 ct, .int .i64 cw, (.slice a1 cA.length k1), (.slice a2 cR.length k2)] 46) := ⟨_, rfl⟩
  have hbx := calBox_new w1 ⟨cf, ct, cw, cA, cR⟩ (.slice a1 cA.length k1) (.slice a2 cR.length k2) 46
  rw [← hw2] at hbx
  have hb12 : Below w1.heap.size w1 w2.drew := by rw [hw2]; exact ((Below.refl _ _).alloc (Nat.le_refl _) _).drew
  have HP := Lib.hid (curPost_later HV.out hzlt hp hb12)
  have HCo := Lib.hid (hco.later hb12)
  have HAny := Lib.hid hany
  have HDn := Lib.hid (dayNear_any (w.heap.size + 1) _ (.slice ca cn cc) (.slice a1 cA.length k1) (.slice a2 cR.length k2) cf ct cw w2.drew HP.out.1 HP.out.2.1 (by omega) hany.1 hany.2.1)
  have hx1 : wa.heap.size ≤ w1.heap.size := hp.2.2.size
  have HW2 := Lib.hid hw2
  clear hp hco hany hb12 hw2 H1
  obtain ⟨c0, c1, c2, c3, c4⟩ := hbx
  go_wp2_with fail
  rw [← HW2.out]
  generalize hxb : w1.heap.size = xb at *
  have hnb : (some xb : Option Nat) ≠ some (w.heap.size + 1) := fun e => by injection e with e; omega
  have hzx : w.heap.size ≠ xb := by omega
  have hzb : (some w.heap.size : Option Nat) ≠ some (w.heap.size + 1) := fun e => by injection e with e; omega
  clear HW2
  have c0 : w2.cell? ⟨xb, 0, none⟩ = some (.int .i64 cf) := c0
  have c1 : w2.cell? ⟨xb, 1, none⟩ = some (.int .i64 ct) := c1
  have c2 : w2.cell? ⟨xb, 2, none⟩ = some (.int .i64 cw) := c2
  have c3 : w2.cell? ⟨xb, 3, none⟩ = some (.slice a1 cA.length k1) := c3
  have c4 : w2.cell? ⟨xb, 4, none⟩ = some (.slice a2 cR.length k2) := c4
  refine wp_region_held_drew (S := (fun w' => w'.cell? ⟨xb, 0, none⟩ = some (.int .i64 cf) ∧ w'.cell? ⟨xb, 1, none⟩ = some (.int .i64 ct) ∧ w'.cell? ⟨xb, 2, none⟩ = some (.int .i64 cw) ∧ w'.cell? ⟨xb, 3, none⟩ = some (.slice a1 cA.length k1) ∧ w'.cell? ⟨xb, 4, none⟩ = some (.slice a2 cR.length k2))) (by kernel_rfl) ?_ (fun hHeld => ?_)
  · exact ⟨c0, c1, c2, c3, c4⟩
  refine wpAnyH_take (i := 0) (v := ?_) (by simp only [List.getElem?_toArray, List.getElem?_cons_zero]; rfl) (by kernel_rfl) (by kernel_rfl) (by kernel_rfl) (by exact fun _ _ _ h => h) (Or.inl ⟨by rfl, ?_⟩) (by assumption) ?_
  rotate_left
  · intro w' hSw; (try dsimp only at hSw); obtain ⟨e0, e1, e2, e3, e4⟩ := hSw
    go_simp; try with_reducible rfl
  try simp only [Act.put, List.setIfInBounds_toArray, List.set_cons_zero, List.set_cons_succ]
  refine wpAnyH_take (i := 1) (v := ?_) (by simp only [List.getElem?_toArray, List.getElem?_cons_succ, List.getElem?_cons_zero]; rfl) (by kernel_rfl) (by kernel_rfl) (by kernel_rfl) (by exact fun _ _ _ h => h) (Or.inl ⟨by rfl, ?_⟩) (by assumption) ?_
  rotate_left
  · intro w' hSw; (try dsimp only at hSw); obtain ⟨e0, e1, e2, e3, e4⟩ := hSw
    go_simp; try with_reducible rfl
  try simp only [Act.put, List.setIfInBounds_toArray, List.set_cons_zero, List.set_cons_succ]
  refine wpAnyH_take (i := 2) (v := ?_) (by simp only [List.getElem?_toArray, List.getElem?_cons_succ, List.getElem?_cons_zero]; rfl) (by kernel_rfl) (by kernel_rfl) (by kernel_rfl) (by exact fun _ _ _ h => h) (Or.inl ⟨by rfl, ?_⟩) (by assumption) ?_
  rotate_left
  · intro w' hSw; (try dsimp only at hSw); obtain ⟨e0, e1, e2, e3, e4⟩ := hSw
    go_simp; try with_reducible rfl
  try simp only [Act.put, List.setIfInBounds_toArray, List.set_cons_zero, List.set_cons_succ]
  refine wpAnyH_ready (rs := [3]) (by kernel_rfl) (by simp) ?_
  refine AllReadyH.cons (by simp only [List.getElem?_toArray, List.getElem?_cons_succ, List.getElem?_cons_zero]; rfl) (fun K hK => ?_) AllReadyH.nil
  go_simp
  go_at_call 108
  refine HDn.out.mono ?_
  rintro e v1 ⟨⟨d, rfl, d1, d2⟩, hp⟩
  have hS : v1.cell? ⟨xb, 0, none⟩ = some (.int .i64 cf) ∧ v1.cell? ⟨xb, 1, none⟩ = some (.int .i64 ct) ∧ v1.cell? ⟨xb, 2, none⟩ = some (.int .i64 cw) ∧ v1.cell? ⟨xb, 3, none⟩ = some (.slice a1 cA.length k1) ∧ v1.cell? ⟨xb, 4, none⟩ = some (.slice a2 cR.length k2) := ⟨hp.2.2.cell c0 hnb, hp.2.2.cell c1 hnb, hp.2.2.cell c2 hnb, hp.2.2.cell c3 hnb, hp.2.2.cell c4 hnb⟩
  have HCo := Lib.hid (HCo.out.cur hp (by omega))
  have HP := Lib.hid (curPost_trans HP.out hp)
  have z0 : v1.cell? ⟨w.heap.size, 0, none⟩ = some (.int .i64 0) := HP.out.2.2.cell HZ.out.1.1 hzb
  have z1 : v1.cell? ⟨w.heap.size, 1, none⟩ = some (.int .i64 0) := HP.out.2.2.cell HZ.out.1.2.1 hzb
  have z2 : v1.cell? ⟨w.heap.size, 2, none⟩ = some (.int .i64 0) := HP.out.2.2.cell HZ.out.1.2.2.1 hzb
  have z3 : v1.cell? ⟨w.heap.size, 3, none⟩ = some (.slice none 0 0) := HP.out.2.2.cell HZ.out.1.2.2.2.1 hzb
  have z4 : v1.cell? ⟨w.heap.size, 4, none⟩ = some (.slice none 0 0) := HP.out.2.2.cell HZ.out.1.2.2.2.2 hzb
  have zf : ∀ o, v1.frozen? ⟨w.heap.size, o, none⟩ = false := fun o => by
    rw [World.frozen?_of_block (a := ⟨w.heap.size, o, none⟩) (HP.out.2.2.block w.heap.size (by omega) hzb)]
    exact HZ.out.2 o
  clear hp HDn
  go_wp2_with fail
  refine hK.out _ _ hS (fun hHa1 => ?_)
  clear hK K
  try simp only [Act.put, List.setIfInBounds_toArray, List.set_cons_zero, List.set_cons_succ]
  refine wpAnyH_ready (rs := [4]) (by kernel_rfl) (by simp) ?_
  refine AllReadyH.cons (by simp only [List.getElem?_toArray, List.getElem?_cons_succ, List.getElem?_cons_zero]; rfl) (fun K hK => ?_) AllReadyH.nil
  go_simp
  refine hK.out _ _ (kp5 _ _ _ _ _ hzx hS) (fun hHa2 => ?_)
  clear hK K
  try simp only [Act.put, List.setIfInBounds_toArray, List.set_cons_zero, List.set_cons_succ]
  refine wpAnyH_take (i := 5) (v := ?_) (by simp only [List.getElem?_toArray, List.getElem?_cons_succ, List.getElem?_cons_zero]; rfl) (by kernel_rfl) (by kernel_rfl) (by kernel_rfl) (by exact fun _ _ _ h => h) (Or.inl ⟨by rfl, ?_⟩) (by assumption) ?_
  rotate_left
  · intro w' hSw; (try dsimp only at hSw); obtain ⟨e0, e1, e2, e3, e4⟩ := hSw
    go_simp; try with_reducible rfl
  try simp only [Act.put, List.setIfInBounds_toArray, List.set_cons_zero, List.set_cons_succ]
  refine wpAnyH_done (by kernel_rfl) ?_ _
  clear hHeld hS c0 c1 c2 c3 c4
  have HBe := Lib.hid (below_curC (Nat.le_succ w.heap.size) HB.out HP.out)
  go_wp2_with fail
  refine bodyPost_ret (v := .tuple #[.agg #[.int .i64 cf, .int .i64 ct, .int .i64 cw, (.slice a1 cA.length k1), (.slice a2 cR.length k2)], .int .i64 d]) ?_ ?_ ?_
  · simp only [results, Try.results80]; go_simp
  · rfl
  · refine ⟨⟨⟨cf, ct, cw, cA, cR⟩, (.slice a1 cA.length k1), (.slice a2 cR.length k2), d, rfl, HAny.out, ?_, d1, d2⟩, ?_⟩
    · exact (((((HCo.out.base (show w.heap.size + 1 ≤ wa.heap.size + 1 by omega)).set w.heap.size 0 (by omega) _).set w.heap.size 1 (by omega) _).set w.heap.size 2 (by omega) _).set w.heap.size 3 (by omega) _).set w.heap.size 4 (by omega) _
    · exact ((((HBe.out.setCell (p := ⟨w.heap.size, 0, none⟩) (Nat.le_refl _) _).setCell (p := ⟨w.heap.size, 1, none⟩) (Nat.le_refl _) _).setCell (p := ⟨w.heap.size, 2, none⟩) (Nat.le_refl _) _).setCell (p := ⟨w.heap.size, 3, none⟩) (Nat.le_refl _) _).setCell (p := ⟨w.heap.size, 4, none⟩) (Nat.le_refl _) _

set_option maxRecDepth 100000 in
set_option maxHeartbeats 8000000 in
theorem drawNextRun_any (v : Value) (w : World) (h : CodeAt w v) :
    Calls Try.prog 27 #[v] w fun e w' => (∃ (c : CalD) (av rv : Value) (d : Int), e = .returned (.tuple #[.agg #[.int .i64 c.frm, .int .i64 c.too, .int .i64 c.wd, av, rv], .int .i64 d]) ∧ AnyC c ∧ CalO (w.heap.size + 1) w' c av rv ∧ -2 ≤ d ∧ d ≤ 4000) ∧ Below w.heap.size w w' := by
  obtain ⟨l0, ca, cc, rfl, hcc⟩ := h
  have hk : CodeAt (w.alloc (.cells #[.int .i64 0, .int .i64 0, .int .i64 0, .slice none 0 0, .slice none 0 0] 46)) (.slice ca (l0.map byteV).length cc) := ⟨l0, (show RowAt w (.slice ca (l0.map byteV).length cc) (l0.map byteV) from ⟨ca, cc, rfl, hcc⟩).below rfl ((Below.refl _ _).alloc (Nat.le_refl _) _)⟩
  obtain ⟨wz, hwz⟩ : ∃ wz : World, wz = w.alloc (.cells #[.int .i64 0, .int .i64 0, .int .i64 0, .slice none 0 0, .slice none 0 0] 46) := ⟨_, rfl⟩
  rw [← hwz] at hk
  have H1 := Lib.hid (drawRunsOn_any _ wz hk)
  have HZ : Hid (CalBox wz w.heap.size calZ (.slice none 0 0) (.slice none 0 0) ∧ ∀ o, wz.frozen? ⟨w.heap.size, o, none⟩ = false) := by
    rw [hwz]
    exact ⟨calBox_new w calZ (.slice none 0 0) (.slice none 0 0) 46, fun o => by go_simp⟩
  have hsz : wz.heap.size = w.heap.size + 1 := by rw [hwz]; simp
  have HB : Hid (Below w.heap.size w wz) := by rw [hwz]; exact (Below.refl _ _).alloc (Nat.le_refl _) _
  have HWZ := Lib.hid hwz
  have HSz := Lib.hid hsz
  generalize (l0.map byteV).length = cn at *
  clear hk hwz hcc hsz
  go_enter Try.func27, Try.ntmps27
  go_wp2_with fail
  rw [← HWZ.out]
  go_at_call 80
  refine H1.out.mono ?_
  rintro e w1 ⟨⟨c, av, rv, d, rfl, hany, hco, d1, d2⟩, hb⟩
  obtain ⟨a1, k1, hav⟩ := own_shape hco.1
  obtain ⟨a2, k2, hrv⟩ := own_shape hco.2
  subst hav hrv
  obtain ⟨cf, ct, cw, cA, cR⟩ := c
  simp only at *
  have HAny := Lib.hid hany
  have HCo := Lib.hid hco
  have z0 : w1.cell? ⟨w.heap.size, 0, none⟩ = some (.int .i64 0) := bkeep hb HZ.out.1.1
  have z1 : w1.cell? ⟨w.heap.size, 1, none⟩ = some (.int .i64 0) := bkeep hb HZ.out.1.2.1
  have z2 : w1.cell? ⟨w.heap.size, 2, none⟩ = some (.int .i64 0) := bkeep hb HZ.out.1.2.2.1
  have z3 : w1.cell? ⟨w.heap.size, 3, none⟩ = some (.slice none 0 0) := bkeep hb HZ.out.1.2.2.2.1
  have z4 : w1.cell? ⟨w.heap.size, 4, none⟩ = some (.slice none 0 0) := bkeep hb HZ.out.1.2.2.2.2
  have zf : ∀ o, w1.frozen? ⟨w.heap.size, o, none⟩ = false := fun o => fkeep hb HZ.out.1.lt (HZ.out.2 o)
  have HBe := Lib.hid (HB.out.trans (hb.mono (by rw [HSz.out]; omega)))
  clear hany hco hb H1
  go_wp2_with fail
  refine bodyPost_ret (v := .tuple #[.agg #[.int .i64 cf, .int .i64 ct, .int .i64 cw, (.slice a1 cA.length k1), (.slice a2 cR.length k2)], .int .i64 d]) ?_ ?_ ?_
  · simp only [results, Try.results27]; go_simp
  · rfl
  · refine ⟨⟨⟨cf, ct, cw, cA, cR⟩, (.slice a1 cA.length k1), (.slice a2 cR.length k2), d, rfl, HAny.out, ?_, d1, d2⟩, ?_⟩
    · exact (((((HCo.out.base (show w.heap.size + 1 ≤ wz.heap.size + 1 by rw [HSz.out]; omega)).set w.heap.size 0 (by omega) _).set w.heap.size 1 (by omega) _).set w.heap.size 2 (by omega) _).set w.heap.size 3 (by omega) _).set w.heap.size 4 (by omega) _
    · exact ((((HBe.out.setCell (p := ⟨w.heap.size, 0, none⟩) (Nat.le_refl _) _).setCell (p := ⟨w.heap.size, 1, none⟩) (Nat.le_refl _) _).setCell (p := ⟨w.heap.size, 2, none⟩) (Nat.le_refl _) _).setCell (p := ⟨w.heap.size, 3, none⟩) (Nat.le_refl _) _).setCell (p := ⟨w.heap.size, 4, none⟩) (Nat.le_refl _) _
end Go.Proofs.Ytemejcbilhcebaa
