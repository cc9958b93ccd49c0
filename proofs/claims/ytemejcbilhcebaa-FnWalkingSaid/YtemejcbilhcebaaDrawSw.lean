import Derived.Test.YtemejcbilhcebaaDrawWalks
import Derived.Test.YtemejcbilhcebaaDrawRev
namespace Go.Proofs.Ytemejcbilhcebaa
open Go.RowKit
set_option linter.unusedVariables false
set_option linter.unusedSimpArgs false

theorem kq1 {w : World} {q i : Nat} {p : Addr} {x : Value} (u : Value) (hn : q ≠ p.block) (h : w.cell? p = some x) : (w.setCell ⟨q, i, none⟩ u).cell? p = some x := by
  rw [World.cell?_setCell_other _ _ _ _ (fun e => hn (by rw [← e]))]; exact h
theorem kq2 {w : World} {q xb : Nat} {x0 x1 : Value} (u0 u1 : Value) (hn : q ≠ xb) (h : w.cell? ⟨xb, 0, none⟩ = some x0 ∧ w.cell? ⟨xb, 1, none⟩ = some x1) :
    let W := (w.setCell ⟨q, 0, none⟩ u0).setCell ⟨q, 1, none⟩ u1
    W.cell? ⟨xb, 0, none⟩ = some x0 ∧ W.cell? ⟨xb, 1, none⟩ = some x1 := ⟨kq1 _ hn (kq1 _ hn h.1), kq1 _ hn (kq1 _ hn h.2)⟩

def WalkDr (B : Nat) (nv lv : Value) (d : NetD) (xs : List WlkD) (w' : World) : Prop := AnyN B nv d w' ∧ (xs.length ≤ 13 ∧ ∀ x ∈ xs, WkIn x) ∧ w'.ownsRow B 67 3 lv xs.length (wlkC xs)
theorem WalkDr.later {B : Nat} {nv lv : Value} {d : NetD} {xs : List WlkD} {w w' : World} (h : WalkDr B nv lv d xs w) (hb : Below w.heap.size w w') : WalkDr B nv lv d xs w' := ⟨h.1.later hb, h.2.1, own_later h.2.2 hb⟩
theorem WalkDr.cur {B b n : Nat} {nv lv v : Value} {d : NetD} {xs : List WlkD} {w w' : World} (h : WalkDr B nv lv d xs w) (hp : CurPost w b n v w') (hb : b < B) : WalkDr B nv lv d xs w' := ⟨h.1.cur hp hb, h.2.1, own_cur h.2.2 hb hp⟩
theorem WalkDr.set {B : Nat} {nv lv : Value} {d : NetD} {xs : List WlkD} {w' : World} (h : WalkDr B nv lv d xs w') (q : Nat) (hq : q < B) (u0 u1 : Value) : WalkDr B nv lv d xs ((w'.setCell ⟨q, 0, none⟩ u0).setCell ⟨q, 1, none⟩ u1) :=
  ⟨h.1.set q hq u0 u1, h.2.1, ownsRow_setCell_below (ownsRow_setCell_below h.2.2 (by dsimp only; omega) _) (by dsimp only; omega) _⟩
theorem WalkDr.base {B B' : Nat} {nv lv : Value} {d : NetD} {xs : List WlkD} {w' : World} (h : WalkDr B nv lv d xs w') (hB : B' ≤ B) : WalkDr B' nv lv d xs w' := ⟨⟨h.1.1, h.1.2.base hB (Nat.le_refl _)⟩, h.2.1, own_base h.2.2 hB⟩

set_option maxRecDepth 100000 in
set_option maxHeartbeats 8000000 in
theorem drawWt_any (v : Value) (w : World) (h : CodeAt w v) :
    Calls Try.prog 82 #[v] w fun e w' => (∃ (d : NetD) (a : Option Addr) (c : Nat) (oa : Option Addr) (oc : Nat) (xs : List WlkD) (la : Option Addr) (lc : Nat) (r : Int), e = .returned (.tuple #[.agg #[.slice a d.stops.length c, .slice oa d.lines.length oc], .slice la xs.length lc, .int .i64 r]) ∧ WalkDr (w.heap.size + 1) (.agg #[.slice a d.stops.length c, .slice oa d.lines.length oc]) (.slice la xs.length lc) d xs w' ∧ (-1 ≤ r ∧ r ≤ 8)) ∧ Below w.heap.size w w' := by
  obtain ⟨l0, ca, cc, rfl, hcc⟩ := h
  obtain ⟨cn, hcn⟩ : ∃ cn, (l0.map byteV).length = cn := ⟨_, rfl⟩
  have hk : CodeAt (w.alloc (.cells #[.slice none 0 0, .slice none 0 0] 27)) (.slice ca (l0.map byteV).length cc) := ⟨l0, (show RowAt w (.slice ca (l0.map byteV).length cc) (l0.map byteV) from ⟨ca, cc, rfl, hcc⟩).below rfl ((Below.refl _ _).alloc (Nat.le_refl _) _)⟩
  obtain ⟨hc, ho, hb⟩ := cur_new _ _ hk
  rw [hcn] at hc ho hb
  rw [hcn]
  have hbuild := build_curR ca cn cc
  have hsz : (w.alloc (.cells #[.slice none 0 0, .slice none 0 0] 27)).heap.size = w.heap.size + 1 := World.size_alloc _ _
  rw [hsz] at hc ho
  obtain ⟨wa, hwa⟩ : ∃ wa : World, wa = (w.alloc (.cells #[.slice none 0 0, .slice none 0 0] 27)).alloc (.cells #[.slice ca cn cc, .int .i64 0, .int .u64 0] 75) := ⟨_, rfl⟩
  rw [← hwa] at hc ho hb
  have hza : wa.heap.size = w.heap.size + 2 := by rw [hwa]; simp
  have HB : Hid (Below w.heap.size w wa ∧ w.heap.size ≤ wa.heap.size) := ⟨((Below.refl _ w).alloc (Nat.le_refl _) _).trans (hb.mono (by simp)), by omega⟩
  have HZ : Hid (wa.cell? ⟨w.heap.size, 0, none⟩ = some (.slice none 0 0) ∧ wa.cell? ⟨w.heap.size, 1, none⟩ = some (.slice none 0 0) ∧ ∀ o, wa.frozen? ⟨w.heap.size, o, none⟩ = false) := by
    refine ⟨?_, ?_, fun o => ?_⟩
    · rw [hwa]; exact acell (by go_simp) _
    · rw [hwa]; exact acell (by go_simp) _
    · rw [hwa, World.frozen?_of_block (a := ⟨w.heap.size, o, none⟩) (Below.heap_alloc _ _ _ (by simp))]; go_simp
  have HV := Lib.hid ho
  have HZA := Lib.hid hza
  have HWA := Lib.hid hwa
  have hltz : w.heap.size + 1 < wa.heap.size := by omega
  have H1 := Lib.hid (anyNetwork_any (w.heap.size + 1) 0 (.slice ca cn cc) wa hc ho (by omega))
  clear hc ho hb hk hsz hcc hwa hcn hza
  go_enter Try.func82, Try.ntmps82
  go_wp2_with fail
  rw [← HWA.out]
  go_at_call 41
  refine H1.out.mono ?_
  rintro e w1 ⟨⟨d, a, c, oa, oc, u, rfl, hd8, hd12, hln, hnet, hu⟩, hp⟩
  have hn2 : AnyN (w.heap.size + 2) (.agg #[.slice a d.stops.length c, .slice oa d.lines.length oc]) d w1 := ⟨⟨hd8, hd12, hln⟩, hnet.base (by have := HZA.out; omega) hu⟩
  have HN1 := Lib.hid hn2
  have hb0 : Below w1.heap.size w1 (w1.alloc (.cells #[.slice a d.stops.length c, .slice oa d.lines.length oc] 27)) := (Below.refl _ _).alloc (Nat.le_refl _) _
  have hp1 := curPost_later HV.out hltz hp hb0
  have HP1 := Lib.hid hp1
  have HWk := Lib.hid (walks_any (w.heap.size + 1) _ (.slice ca cn cc) d a c oa oc (w1.alloc (.cells #[.slice a d.stops.length c, .slice oa d.lines.length oc] 27)) hp1.1 hp1.2.1 (by omega) hd8.1)
  have hN8 := hd8.1
  have hx1 : wa.heap.size ≤ w1.heap.size := hp.2.2.size
  have k0 : (w1.alloc (.cells #[.slice a d.stops.length c, .slice oa d.lines.length oc] 27)).cell? ⟨w1.heap.size, 0, none⟩ = some (.slice a d.stops.length c) := by go_simp
  have k1 : (w1.alloc (.cells #[.slice a d.stops.length c, .slice oa d.lines.length oc] 27)).cell? ⟨w1.heap.size, 1, none⟩ = some (.slice oa d.lines.length oc) := by go_simp
  clear H1 hp hp1 hnet hu hd8 hd12 hln hn2
  go_wp2_with fail
  obtain ⟨wn, hwn⟩ : ∃ wn : World, wn = w1.alloc (.cells #[.slice a d.stops.length c, .slice oa d.lines.length oc] 27) := ⟨_, rfl⟩
  rw [← hwn] at hb0 HP1 HWk k0 k1 ⊢
  have hszn : wn.heap.size = w1.heap.size + 1 := by rw [hwn]; simp
  generalize hxb : w1.heap.size = xb at *
  clear hwn
  go_at_call 109
  refine HWk.out.mono ?_
  rintro e w2 ⟨⟨xs, la, lc, rfl, hxl, hxw, hown⟩, hp⟩
  have hb0' : Below w1.heap.size w1 wn := by rw [hxb]; exact hb0
  have hnbx : (some xb : Option Nat) ≠ some (w.heap.size + 1) := fun e => by injection e with e; omega
  have c0 := hp.2.2.cell k0 hnbx
  have c1 := hp.2.2.cell k1 hnbx
  have hw2 : WalkDr (w.heap.size + 2) (.agg #[.slice a d.stops.length c, .slice oa d.lines.length oc]) (.slice la xs.length lc) d xs w2 := ⟨(HN1.out.later hb0').cur hp (by omega), ⟨hxl, hxw⟩, own_base hown (by omega)⟩
  have HW := Lib.hid (hw2.later (Below.refl w2.heap.size w2).drew)
  have HP := Lib.hid (curPost_later HV.out hltz (curPost_trans HP1.out hp) (Below.refl w2.heap.size w2).drew)
  clear hp hown HN1 hb0 hb0' HP1 HWk k0 k1 hw2 hxw hszn hxb HWA
  obtain ⟨N, hN⟩ : ∃ N, d.stops.length = N := ⟨_, rfl⟩
  have HNe := Lib.hid hN
  rw [hN] at c0 HW hN8 ⊢
  clear hN
  go_upto_region 4 with fail
  have hws : IntKind.i64.wrap ((N : Int) + 1) = (N : Int) + 1 := IntWalk.i64_in _ (by omega)
  have hnb : (some xb : Option Nat) ≠ some (w.heap.size + 1) := fun e => by injection e with e; omega
  have hzb : (some w.heap.size : Option Nat) ≠ some (w.heap.size + 1) := fun e => by injection e with e; omega
  have hzx : w.heap.size ≠ xb := by omega
  have c0 : w2.drew.cell? ⟨xb, 0, none⟩ = some (.slice a N c) := c0
  have c1 : w2.drew.cell? ⟨xb, 1, none⟩ = some (.slice oa d.lines.length oc) := c1
  refine wp_region_held_drew (S := (fun w' => w'.cell? ⟨xb, 0, none⟩ = some (.slice a N c) ∧ w'.cell? ⟨xb, 1, none⟩ = some (.slice oa d.lines.length oc))) (by kernel_rfl) ?_ (fun hHeld => ?_)
  · exact ⟨c0, c1⟩
  generalize w2.drew = wd at *
  refine wpAnyH_take (i := 0) (v := ?_) (by simp only [List.getElem?_toArray, List.getElem?_cons_zero]; rfl) (by kernel_rfl) (by kernel_rfl) (by kernel_rfl) (by exact fun _ _ _ h => h) (Or.inl ⟨by rfl, ?_⟩) (by assumption) ?_
  rotate_left
  · intro w' hSw; (try dsimp only at hSw); obtain ⟨e0, e1⟩ := hSw
    go_simp; try with_reducible rfl
  try simp only [Act.put, List.setIfInBounds_toArray, List.set_cons_zero, List.set_cons_succ]
  refine wpAnyH_take (i := 1) (v := ?_) (by simp only [List.getElem?_toArray, List.getElem?_cons_succ, List.getElem?_cons_zero]; rfl) (by kernel_rfl) (by kernel_rfl) (by kernel_rfl) (by exact fun _ _ _ h => h) (Or.inl ⟨by rfl, ?_⟩) (by assumption) ?_
  rotate_left
  · intro w' hSw; (try dsimp only at hSw); obtain ⟨e0, e1⟩ := hSw
    go_simp; try with_reducible rfl
  try simp only [Act.put, List.setIfInBounds_toArray, List.set_cons_zero, List.set_cons_succ]
  refine wpAnyH_take (i := 2) (v := ?_) (by simp only [List.getElem?_toArray, List.getElem?_cons_succ, List.getElem?_cons_zero]; rfl) (by kernel_rfl) (by kernel_rfl) (by kernel_rfl) (by exact fun _ _ _ h => h) (Or.inl ⟨by rfl, ?_⟩) (by assumption) ?_
  rotate_left
  · intro w' hSw; (try dsimp only at hSw); obtain ⟨e0, e1⟩ := hSw
    go_simp; try with_reducible rfl
  try simp only [Act.put, List.setIfInBounds_toArray, List.set_cons_zero, List.set_cons_succ]
  refine wpAnyH_take (i := 3) (v := ?_) (by simp only [List.getElem?_toArray, List.getElem?_cons_succ, List.getElem?_cons_zero]; rfl) (by kernel_rfl) (by kernel_rfl) (by kernel_rfl) (by exact fun _ _ _ h => h) (Or.inl ⟨by rfl, ?_⟩) (by assumption) ?_
  rotate_left
  · intro w' hSw; (try dsimp only at hSw); obtain ⟨e0, e1⟩ := hSw
    go_simp; try with_reducible rfl
  try simp only [Act.put, List.setIfInBounds_toArray, List.set_cons_zero, List.set_cons_succ]
  refine wpAnyH_take (i := 4) (v := ?_) (by simp only [List.getElem?_toArray, List.getElem?_cons_succ, List.getElem?_cons_zero]; rfl) (by kernel_rfl) (by kernel_rfl) (by kernel_rfl) (by exact fun _ _ _ h => h) (Or.inl ⟨by rfl, ?_⟩) (by assumption) ?_
  rotate_left
  · intro w' hSw; (try dsimp only at hSw); obtain ⟨e0, e1⟩ := hSw
    go_simp; try with_reducible rfl
  try simp only [Act.put, List.setIfInBounds_toArray, List.set_cons_zero, List.set_cons_succ]
  refine wpAnyH_take (i := 5) (v := ?_) (by simp only [List.getElem?_toArray, List.getElem?_cons_succ, List.getElem?_cons_zero]; rfl) (by kernel_rfl) (by kernel_rfl) (by kernel_rfl) (by exact fun _ _ _ h => h) (Or.inl ⟨by rfl, ?_⟩) (by assumption) ?_
  rotate_left
  · intro w' hSw; (try dsimp only at hSw); obtain ⟨e0, e1⟩ := hSw
    go_simp; try with_reducible rfl
  try simp only [Act.put, List.setIfInBounds_toArray, List.set_cons_zero, List.set_cons_succ]
  refine wpAnyH_take (i := 6) (v := ?_) (by simp only [List.getElem?_toArray, List.getElem?_cons_succ, List.getElem?_cons_zero]; rfl) (by kernel_rfl) (by kernel_rfl) (by kernel_rfl) (by exact fun _ _ _ h => h) (Or.inl ⟨by rfl, ?_⟩) (by assumption) ?_
  rotate_left
  · intro w' hSw; (try dsimp only at hSw); obtain ⟨e0, e1⟩ := hSw
    go_simp; try with_reducible rfl
  try simp only [Act.put, List.setIfInBounds_toArray, List.set_cons_zero, List.set_cons_succ]
  refine wpAnyH_take (i := 8) (v := ?_) (by simp only [List.getElem?_toArray, List.getElem?_cons_succ, List.getElem?_cons_zero]; rfl) (by kernel_rfl) (by kernel_rfl) (by kernel_rfl) (by exact fun _ _ _ h => h) (Or.inl ⟨by rfl, ?_⟩) (by assumption) ?_
  rotate_left
  · intro w' hSw; (try dsimp only at hSw); obtain ⟨e0, e1⟩ := hSw
    go_simp; try with_reducible rfl
  try simp only [Act.put, List.setIfInBounds_toArray, List.set_cons_zero, List.set_cons_succ]
  refine wpAnyH_ready (rs := [7]) (by kernel_rfl) (by simp) ?_
  refine AllReadyH.cons (by simp only [List.getElem?_toArray, List.getElem?_cons_succ, List.getElem?_cons_zero]; rfl) (fun K hK => ?_) AllReadyH.nil
  go_simp
  go_at_call 42
  refine (pick_any (w.heap.size + 1) _ (.slice ca cn cc) ((N : Int) + 1) _ HP.out.1 HP.out.2.1 (by omega) (by omega)).mono ?_
  rintro e u1 ⟨⟨r, rfl, r0, r1⟩, hp⟩
  have r2 := r1 (by omega)
  have hS := And.intro (hp.2.2.cell c0 hnb) (hp.2.2.cell c1 hnb)
  have HW := Lib.hid (HW.out.cur hp (by omega))
  have HP := Lib.hid (curPost_trans HP.out hp)
  clear hp r1
  go_wp2_with fail
  refine hK.out _ _ hS (fun hHa1 => ?_)
  clear hK K
  try simp only [Act.put, List.setIfInBounds_toArray, List.set_cons_zero, List.set_cons_succ]
  refine wpAnyH_ready (rs := [9]) (by kernel_rfl) (by simp) ?_
  refine AllReadyH.cons (by simp only [List.getElem?_toArray, List.getElem?_cons_succ, List.getElem?_cons_zero]; rfl) (fun K hK => ?_) AllReadyH.nil
  go_simp
  go_at_call 42
  refine (pick_any (w.heap.size + 1) _ (.slice ca cn cc) 12 _ HP.out.1 HP.out.2.1 (by omega) (by omega)).mono ?_
  rintro e u2 ⟨⟨q, rfl, q0, q1⟩, hp⟩
  have q2 := q1 (by omega)
  have hS := And.intro (hp.2.2.cell hS.1 hnb) (hp.2.2.cell hS.2 hnb)
  have HW := Lib.hid (HW.out.cur hp (by omega))
  have HP := Lib.hid (curPost_trans HP.out hp)
  have z0 : u2.cell? ⟨w.heap.size, 0, none⟩ = some (.slice none 0 0) := HP.out.2.2.cell HZ.out.1 hzb
  have z1 : u2.cell? ⟨w.heap.size, 1, none⟩ = some (.slice none 0 0) := HP.out.2.2.cell HZ.out.2.1 hzb
  have zf : ∀ o, u2.frozen? ⟨w.heap.size, o, none⟩ = false := fun o => by
    rw [World.frozen?_of_block (a := ⟨w.heap.size, o, none⟩) (HP.out.2.2.block w.heap.size (by omega) hzb)]
    exact HZ.out.2.2 o
  have hd1 : IntKind.i64.wrap (q.tdiv 11) = q / 11 := by rw [Int.tdiv_eq_ediv_of_nonneg q0]; exact IntWalk.i64_in _ (by omega)
  have hd2 : IntKind.i64.wrap (r - q / 11) = r - q / 11 := IntWalk.i64_in _ (by omega)
  clear hp q1
  go_wp2_with fail
  refine hK.out _ _ hS (fun hHa2 => ?_)
  clear hK K
  try simp only [Act.put, List.setIfInBounds_toArray, List.set_cons_zero, List.set_cons_succ]
  refine wpAnyH_take (i := 10) (v := ?_) (by simp only [List.getElem?_toArray, List.getElem?_cons_succ, List.getElem?_cons_zero]; rfl) (by kernel_rfl) (by kernel_rfl) (by kernel_rfl) (by exact fun _ _ _ h => h) (Or.inl ⟨by rfl, ?_⟩) (by assumption) ?_
  rotate_left
  · intro w' hSw; (try dsimp only at hSw); obtain ⟨e0, e1⟩ := hSw
    go_simp; try with_reducible rfl
  try simp only [Act.put, List.setIfInBounds_toArray, List.set_cons_zero, List.set_cons_succ]
  refine wpAnyH_take (i := 11) (v := ?_) (by simp only [List.getElem?_toArray, List.getElem?_cons_succ, List.getElem?_cons_zero]; rfl) (by kernel_rfl) (by kernel_rfl) (by kernel_rfl) (by exact fun _ _ _ h => h) (Or.inl ⟨by rfl, ?_⟩) (by assumption) ?_
  rotate_left
  · intro w' hSw; (try dsimp only at hSw); obtain ⟨e0, e1⟩ := hSw
    go_simp; try with_reducible rfl
  try simp only [Act.put, List.setIfInBounds_toArray, List.set_cons_zero, List.set_cons_succ]
  refine wpAnyH_ready (rs := [12]) (by kernel_rfl) (by simp) ?_
  refine AllReadyH.cons (by simp only [List.getElem?_toArray, List.getElem?_cons_succ, List.getElem?_cons_zero]; rfl) (fun K hK => ?_) AllReadyH.nil
  go_simp
  refine hK.out _ _ (kq2 _ _ hzx hS) (fun hHa3 => ?_)
  clear hK K
  try simp only [Act.put, List.setIfInBounds_toArray, List.set_cons_zero, List.set_cons_succ]
  refine wpAnyH_take (i := 13) (v := ?_) (by simp only [List.getElem?_toArray, List.getElem?_cons_succ, List.getElem?_cons_zero]; rfl) (by kernel_rfl) (by kernel_rfl) (by kernel_rfl) (by exact fun _ _ _ h => h) (Or.inl ⟨by rfl, ?_⟩) (by assumption) ?_
  rotate_left
  · intro w' hSw; (try dsimp only at hSw); obtain ⟨e0, e1⟩ := hSw
    go_simp; try with_reducible rfl
  try simp only [Act.put, List.setIfInBounds_toArray, List.set_cons_zero, List.set_cons_succ]
  refine wpAnyH_take (i := 14) (v := ?_) (by simp only [List.getElem?_toArray, List.getElem?_cons_succ, List.getElem?_cons_zero]; rfl) (by kernel_rfl) (by kernel_rfl) (by kernel_rfl) (by exact fun _ _ _ h => h) (Or.inl ⟨by rfl, ?_⟩) (by assumption) ?_
  rotate_left
  · intro w' hSw; (try dsimp only at hSw); obtain ⟨e0, e1⟩ := hSw
    go_simp; try with_reducible rfl
  try simp only [Act.put, List.setIfInBounds_toArray, List.set_cons_zero, List.set_cons_succ]
  refine wpAnyH_done (by kernel_rfl) ?_ _
  clear hHeld hS
  have HBe := Lib.hid (below_curR (Nat.le_succ w.heap.size) HB.out HP.out)
  go_wp2_with fail
  refine bodyPost_ret (v := .tuple #[.agg #[.slice a N c, .slice oa d.lines.length oc], .slice la xs.length lc, .int .i64 (r - q / 11)]) ?_ ?_ ?_
  · simp only [results, Try.results82]; go_simp
  · rfl
  · have hW := (HW.out.base (show w.heap.size + 1 ≤ w.heap.size + 2 by omega)).set w.heap.size (by omega) (.slice a N c) (.slice oa d.lines.length oc)
    have hn := HNe.out
    subst hn
    exact ⟨⟨d, a, c, oa, oc, xs, la, lc, (r - q / 11), rfl, hW, ⟨by omega, by omega⟩⟩, (HBe.out.setCell (p := ⟨w.heap.size, 0, none⟩) (Nat.le_refl _) _).setCell (p := ⟨w.heap.size, 1, none⟩) (Nat.le_refl _) _⟩

set_option maxRecDepth 100000 in
set_option maxHeartbeats 8000000 in
theorem drawSw_any (v : Value) (w : World) (h : CodeAt w v) :
    Calls Try.prog 30 #[v] w fun e w' => (∃ (d : NetD) (a : Option Addr) (c : Nat) (oa : Option Addr) (oc : Nat) (xs : List WlkD) (la : Option Addr) (lc : Nat) (f t : Int), e = .returned (.tuple #[.agg #[.slice a d.stops.length c, .slice oa d.lines.length oc], .slice la xs.length lc, .int .i64 f, .int .i64 t]) ∧ WalkDr (w.heap.size + 1) (.agg #[.slice a d.stops.length c, .slice oa d.lines.length oc]) (.slice la xs.length lc) d xs w' ∧ (-1 ≤ f ∧ f ≤ 8) ∧ (-1 ≤ t ∧ t ≤ 8)) ∧ Below w.heap.size w w' := by
  obtain ⟨l0, ca, cc, rfl, hcc⟩ := h
  obtain ⟨cn, hcn⟩ : ∃ cn, (l0.map byteV).length = cn := ⟨_, rfl⟩
  have hk : CodeAt (w.alloc (.cells #[.slice none 0 0, .slice none 0 0] 27)) (.slice ca (l0.map byteV).length cc) := ⟨l0, (show RowAt w (.slice ca (l0.map byteV).length cc) (l0.map byteV) from ⟨ca, cc, rfl, hcc⟩).below rfl ((Below.refl _ _).alloc (Nat.le_refl _) _)⟩
  obtain ⟨hc, ho, hb⟩ := cur_new _ _ hk
  rw [hcn] at hc ho hb
  rw [hcn]
  have hbuild := build_curR ca cn cc
  have hsz : (w.alloc (.cells #[.slice none 0 0, .slice none 0 0] 27)).heap.size = w.heap.size + 1 := World.size_alloc _ _
  rw [hsz] at hc ho
  obtain ⟨wa, hwa⟩ : ∃ wa : World, wa = (w.alloc (.cells #[.slice none 0 0, .slice none 0 0] 27)).alloc (.cells #[.slice ca cn cc, .int .i64 0, .int .u64 0] 75) := ⟨_, rfl⟩
  have hkA : CodeAt wa (.slice ca cn cc) := ⟨l0, by rw [← hcn, hwa]; exact ((show RowAt w (.slice ca (l0.map byteV).length cc) (l0.map byteV) from ⟨ca, cc, rfl, hcc⟩).below rfl ((Below.refl _ _).alloc (Nat.le_refl _) _)).below rfl ((Below.refl _ _).alloc (Nat.le_refl _) _)⟩
  rw [← hwa] at hc ho hb
  have hza : wa.heap.size = w.heap.size + 2 := by rw [hwa]; simp
  have HB : Hid (Below w.heap.size w wa ∧ w.heap.size ≤ wa.heap.size) := ⟨((Below.refl _ w).alloc (Nat.le_refl _) _).trans (hb.mono (by simp)), by omega⟩
  have HZ : Hid (wa.cell? ⟨w.heap.size, 0, none⟩ = some (.slice none 0 0) ∧ wa.cell? ⟨w.heap.size, 1, none⟩ = some (.slice none 0 0) ∧ ∀ o, wa.frozen? ⟨w.heap.size, o, none⟩ = false) := by
    refine ⟨?_, ?_, fun o => ?_⟩
    · rw [hwa]; exact acell (by go_simp) _
    · rw [hwa]; exact acell (by go_simp) _
    · rw [hwa, World.frozen?_of_block (a := ⟨w.heap.size, o, none⟩) (Below.heap_alloc _ _ _ (by simp))]; go_simp
  have HV := Lib.hid ho
  have HZA := Lib.hid hza
  have HWA := Lib.hid hwa
  have hltz : w.heap.size + 1 < wa.heap.size := by omega
  have H1 := Lib.hid (drawWt_any _ wa hkA)
  have HPa : Hid (CurPost wa (w.heap.size + 1) 0 (.slice ca cn cc) wa) := ⟨hc, ho, grown_refl _ _⟩
  clear hc ho hb hk hsz hcc hwa hcn hza hkA
  go_enter Try.func30, Try.ntmps30
  go_wp2_with fail
  rw [← HWA.out]
  go_at_call 82
  refine H1.out.mono ?_
  rintro e w1 ⟨⟨d, a, c, oa, oc, xs, la, lc, f, rfl, hdr, hr0⟩, hb⟩
  have HR0 := Lib.hid hr0
  have hN8 := hdr.1.1.1.1
  have hb2 : Below w1.heap.size w1 (w1.alloc (.cells #[.slice a d.stops.length c, .slice oa d.lines.length oc] 27)).drew := ((Below.refl _ _).alloc (Nat.le_refl _) _).drew
  have HW := Lib.hid ((hdr.base (show w.heap.size + 2 ≤ wa.heap.size + 1 by have := HZA.out; omega)).later hb2)
  have HP := Lib.hid (curPost_later HV.out hltz (curPost_later HV.out hltz HPa.out hb) hb2)
  have hx1 : wa.heap.size ≤ w1.heap.size := hb.size
  have c0 : (w1.alloc (.cells #[.slice a d.stops.length c, .slice oa d.lines.length oc] 27)).cell? ⟨w1.heap.size, 0, none⟩ = some (.slice a d.stops.length c) := by go_simp
  have c1 : (w1.alloc (.cells #[.slice a d.stops.length c, .slice oa d.lines.length oc] 27)).cell? ⟨w1.heap.size, 1, none⟩ = some (.slice oa d.lines.length oc) := by go_simp
  clear H1 hdr hr0 hb hb2 HPa HWA
  obtain ⟨N, hN⟩ : ∃ N, d.stops.length = N := ⟨_, rfl⟩
  have HNe := Lib.hid hN
  rw [hN] at c0 c1 HW HP hN8 ⊢
  clear hN
  go_upto_region 3 with fail
  obtain ⟨w2, hw2⟩ : ∃ w2 : World, w2 = w1.alloc (.cells #[.slice a N c, .slice oa d.lines.length oc] 27) := ⟨_, rfl⟩
  rw [← hw2] at c0 c1 HW HP ⊢
  generalize hxb : w1.heap.size = xb at *
  clear hw2 hxb
  have hws : IntKind.i64.wrap ((N : Int) + 1) = (N : Int) + 1 := IntWalk.i64_in _ (by omega)
  have hnb : (some xb : Option Nat) ≠ some (w.heap.size + 1) := fun e => by injection e with e; omega
  have hzb : (some w.heap.size : Option Nat) ≠ some (w.heap.size + 1) := fun e => by injection e with e; omega
  have hzx : w.heap.size ≠ xb := by omega
  have c0 : w2.drew.cell? ⟨xb, 0, none⟩ = some (.slice a N c) := c0
  have c1 : w2.drew.cell? ⟨xb, 1, none⟩ = some (.slice oa d.lines.length oc) := c1
  refine wp_region_held_drew (S := (fun w' => w'.cell? ⟨xb, 0, none⟩ = some (.slice a N c) ∧ w'.cell? ⟨xb, 1, none⟩ = some (.slice oa d.lines.length oc))) (by kernel_rfl) ?_ (fun hHeld => ?_)
  · exact ⟨c0, c1⟩
  generalize w2.drew = wd at *
  refine wpAnyH_take (i := 0) (v := ?_) (by simp only [List.getElem?_toArray, List.getElem?_cons_zero]; rfl) (by kernel_rfl) (by kernel_rfl) (by kernel_rfl) (by exact fun _ _ _ h => h) (Or.inl ⟨by rfl, ?_⟩) (by assumption) ?_
  rotate_left
  · intro w' hSw; (try dsimp only at hSw); obtain ⟨e0, e1⟩ := hSw
    go_simp; try with_reducible rfl
  try simp only [Act.put, List.setIfInBounds_toArray, List.set_cons_zero, List.set_cons_succ]
  refine wpAnyH_take (i := 1) (v := ?_) (by simp only [List.getElem?_toArray, List.getElem?_cons_succ, List.getElem?_cons_zero]; rfl) (by kernel_rfl) (by kernel_rfl) (by kernel_rfl) (by exact fun _ _ _ h => h) (Or.inl ⟨by rfl, ?_⟩) (by assumption) ?_
  rotate_left
  · intro w' hSw; (try dsimp only at hSw); obtain ⟨e0, e1⟩ := hSw
    go_simp; try with_reducible rfl
  try simp only [Act.put, List.setIfInBounds_toArray, List.set_cons_zero, List.set_cons_succ]
  refine wpAnyH_take (i := 2) (v := ?_) (by simp only [List.getElem?_toArray, List.getElem?_cons_succ, List.getElem?_cons_zero]; rfl) (by kernel_rfl) (by kernel_rfl) (by kernel_rfl) (by exact fun _ _ _ h => h) (Or.inl ⟨by rfl, ?_⟩) (by assumption) ?_
  rotate_left
  · intro w' hSw; (try dsimp only at hSw); obtain ⟨e0, e1⟩ := hSw
    go_simp; try with_reducible rfl
  try simp only [Act.put, List.setIfInBounds_toArray, List.set_cons_zero, List.set_cons_succ]
  refine wpAnyH_take (i := 3) (v := ?_) (by simp only [List.getElem?_toArray, List.getElem?_cons_succ, List.getElem?_cons_zero]; rfl) (by kernel_rfl) (by kernel_rfl) (by kernel_rfl) (by exact fun _ _ _ h => h) (Or.inl ⟨by rfl, ?_⟩) (by assumption) ?_
  rotate_left
  · intro w' hSw; (try dsimp only at hSw); obtain ⟨e0, e1⟩ := hSw
    go_simp; try with_reducible rfl
  try simp only [Act.put, List.setIfInBounds_toArray, List.set_cons_zero, List.set_cons_succ]
  refine wpAnyH_take (i := 4) (v := ?_) (by simp only [List.getElem?_toArray, List.getElem?_cons_succ, List.getElem?_cons_zero]; rfl) (by kernel_rfl) (by kernel_rfl) (by kernel_rfl) (by exact fun _ _ _ h => h) (Or.inl ⟨by rfl, ?_⟩) (by assumption) ?_
  rotate_left
  · intro w' hSw; (try dsimp only at hSw); obtain ⟨e0, e1⟩ := hSw
    go_simp; try with_reducible rfl
  try simp only [Act.put, List.setIfInBounds_toArray, List.set_cons_zero, List.set_cons_succ]
  refine wpAnyH_take (i := 5) (v := ?_) (by simp only [List.getElem?_toArray, List.getElem?_cons_succ, List.getElem?_cons_zero]; rfl) (by kernel_rfl) (by kernel_rfl) (by kernel_rfl) (by exact fun _ _ _ h => h) (Or.inl ⟨by rfl, ?_⟩) (by assumption) ?_
  rotate_left
  · intro w' hSw; (try dsimp only at hSw); obtain ⟨e0, e1⟩ := hSw
    go_simp; try with_reducible rfl
  try simp only [Act.put, List.setIfInBounds_toArray, List.set_cons_zero, List.set_cons_succ]
  refine wpAnyH_take (i := 6) (v := ?_) (by simp only [List.getElem?_toArray, List.getElem?_cons_succ, List.getElem?_cons_zero]; rfl) (by kernel_rfl) (by kernel_rfl) (by kernel_rfl) (by exact fun _ _ _ h => h) (Or.inl ⟨by rfl, ?_⟩) (by assumption) ?_
  rotate_left
  · intro w' hSw; (try dsimp only at hSw); obtain ⟨e0, e1⟩ := hSw
    go_simp; try with_reducible rfl
  try simp only [Act.put, List.setIfInBounds_toArray, List.set_cons_zero, List.set_cons_succ]
  refine wpAnyH_take (i := 7) (v := ?_) (by simp only [List.getElem?_toArray, List.getElem?_cons_succ, List.getElem?_cons_zero]; rfl) (by kernel_rfl) (by kernel_rfl) (by kernel_rfl) (by exact fun _ _ _ h => h) (Or.inl ⟨by rfl, ?_⟩) (by assumption) ?_
  rotate_left
  · intro w' hSw; (try dsimp only at hSw); obtain ⟨e0, e1⟩ := hSw
    go_simp; try with_reducible rfl
  try simp only [Act.put, List.setIfInBounds_toArray, List.set_cons_zero, List.set_cons_succ]
  refine wpAnyH_take (i := 9) (v := ?_) (by simp only [List.getElem?_toArray, List.getElem?_cons_succ, List.getElem?_cons_zero]; rfl) (by kernel_rfl) (by kernel_rfl) (by kernel_rfl) (by exact fun _ _ _ h => h) (Or.inl ⟨by rfl, ?_⟩) (by assumption) ?_
  rotate_left
  · intro w' hSw; (try dsimp only at hSw); obtain ⟨e0, e1⟩ := hSw
    go_simp; try with_reducible rfl
  try simp only [Act.put, List.setIfInBounds_toArray, List.set_cons_zero, List.set_cons_succ]
  refine wpAnyH_ready (rs := [8]) (by kernel_rfl) (by simp) ?_
  refine AllReadyH.cons (by simp only [List.getElem?_toArray, List.getElem?_cons_succ, List.getElem?_cons_zero]; rfl) (fun K hK => ?_) AllReadyH.nil
  go_simp
  go_at_call 42
  refine (pick_any (w.heap.size + 1) _ (.slice ca cn cc) ((N : Int) + 1) _ HP.out.1 HP.out.2.1 (by omega) (by omega)).mono ?_
  rintro e u1 ⟨⟨r, rfl, r0, r1⟩, hp⟩
  have r2 := r1 (by omega)
  have hS := And.intro (hp.2.2.cell c0 hnb) (hp.2.2.cell c1 hnb)
  have HW := Lib.hid (HW.out.cur hp (by omega))
  have HP := Lib.hid (curPost_trans HP.out hp)
  clear hp r1
  go_wp2_with fail
  refine hK.out _ _ hS (fun hHa1 => ?_)
  clear hK K
  try simp only [Act.put, List.setIfInBounds_toArray, List.set_cons_zero, List.set_cons_succ]
  refine wpAnyH_ready (rs := [10]) (by kernel_rfl) (by simp) ?_
  refine AllReadyH.cons (by simp only [List.getElem?_toArray, List.getElem?_cons_succ, List.getElem?_cons_zero]; rfl) (fun K hK => ?_) AllReadyH.nil
  go_simp
  go_at_call 42
  refine (pick_any (w.heap.size + 1) _ (.slice ca cn cc) 12 _ HP.out.1 HP.out.2.1 (by omega) (by omega)).mono ?_
  rintro e u2 ⟨⟨q, rfl, q0, q1⟩, hp⟩
  have q2 := q1 (by omega)
  have hS := And.intro (hp.2.2.cell hS.1 hnb) (hp.2.2.cell hS.2 hnb)
  have HW := Lib.hid (HW.out.cur hp (by omega))
  have HP := Lib.hid (curPost_trans HP.out hp)
  have z0 : u2.cell? ⟨w.heap.size, 0, none⟩ = some (.slice none 0 0) := HP.out.2.2.cell HZ.out.1 hzb
  have z1 : u2.cell? ⟨w.heap.size, 1, none⟩ = some (.slice none 0 0) := HP.out.2.2.cell HZ.out.2.1 hzb
  have zf : ∀ o, u2.frozen? ⟨w.heap.size, o, none⟩ = false := fun o => by
    rw [World.frozen?_of_block (a := ⟨w.heap.size, o, none⟩) (HP.out.2.2.block w.heap.size (by omega) hzb)]
    exact HZ.out.2.2 o
  have hd1 : IntKind.i64.wrap (q.tdiv 11) = q / 11 := by rw [Int.tdiv_eq_ediv_of_nonneg q0]; exact IntWalk.i64_in _ (by omega)
  have hd2 : IntKind.i64.wrap (r - q / 11) = r - q / 11 := IntWalk.i64_in _ (by omega)
  clear hp q1
  go_wp2_with fail
  refine hK.out _ _ hS (fun hHa2 => ?_)
  clear hK K
  try simp only [Act.put, List.setIfInBounds_toArray, List.set_cons_zero, List.set_cons_succ]
  refine wpAnyH_take (i := 11) (v := ?_) (by simp only [List.getElem?_toArray, List.getElem?_cons_succ, List.getElem?_cons_zero]; rfl) (by kernel_rfl) (by kernel_rfl) (by kernel_rfl) (by exact fun _ _ _ h => h) (Or.inl ⟨by rfl, ?_⟩) (by assumption) ?_
  rotate_left
  · intro w' hSw; (try dsimp only at hSw); obtain ⟨e0, e1⟩ := hSw
    go_simp; try with_reducible rfl
  try simp only [Act.put, List.setIfInBounds_toArray, List.set_cons_zero, List.set_cons_succ]
  refine wpAnyH_take (i := 12) (v := ?_) (by simp only [List.getElem?_toArray, List.getElem?_cons_succ, List.getElem?_cons_zero]; rfl) (by kernel_rfl) (by kernel_rfl) (by kernel_rfl) (by exact fun _ _ _ h => h) (Or.inl ⟨by rfl, ?_⟩) (by assumption) ?_
  rotate_left
  · intro w' hSw; (try dsimp only at hSw); obtain ⟨e0, e1⟩ := hSw
    go_simp; try with_reducible rfl
  try simp only [Act.put, List.setIfInBounds_toArray, List.set_cons_zero, List.set_cons_succ]
  refine wpAnyH_ready (rs := [13]) (by kernel_rfl) (by simp) ?_
  refine AllReadyH.cons (by simp only [List.getElem?_toArray, List.getElem?_cons_succ, List.getElem?_cons_zero]; rfl) (fun K hK => ?_) AllReadyH.nil
  go_simp
  refine hK.out _ _ (kq2 _ _ hzx hS) (fun hHa3 => ?_)
  clear hK K
  try simp only [Act.put, List.setIfInBounds_toArray, List.set_cons_zero, List.set_cons_succ]
  refine wpAnyH_take (i := 14) (v := ?_) (by simp only [List.getElem?_toArray, List.getElem?_cons_succ, List.getElem?_cons_zero]; rfl) (by kernel_rfl) (by kernel_rfl) (by kernel_rfl) (by exact fun _ _ _ h => h) (Or.inl ⟨by rfl, ?_⟩) (by assumption) ?_
  rotate_left
  · intro w' hSw; (try dsimp only at hSw); obtain ⟨e0, e1⟩ := hSw
    go_simp; try with_reducible rfl
  try simp only [Act.put, List.setIfInBounds_toArray, List.set_cons_zero, List.set_cons_succ]
  refine wpAnyH_take (i := 15) (v := ?_) (by simp only [List.getElem?_toArray, List.getElem?_cons_succ, List.getElem?_cons_zero]; rfl) (by kernel_rfl) (by kernel_rfl) (by kernel_rfl) (by exact fun _ _ _ h => h) (Or.inl ⟨by rfl, ?_⟩) (by assumption) ?_
  rotate_left
  · intro w' hSw; (try dsimp only at hSw); obtain ⟨e0, e1⟩ := hSw
    go_simp; try with_reducible rfl
  try simp only [Act.put, List.setIfInBounds_toArray, List.set_cons_zero, List.set_cons_succ]
  refine wpAnyH_take (i := 16) (v := ?_) (by simp only [List.getElem?_toArray, List.getElem?_cons_succ, List.getElem?_cons_zero]; rfl) (by kernel_rfl) (by kernel_rfl) (by kernel_rfl) (by exact fun _ _ _ h => h) (Or.inl ⟨by rfl, ?_⟩) (by assumption) ?_
  rotate_left
  · intro w' hSw; (try dsimp only at hSw); obtain ⟨e0, e1⟩ := hSw
    go_simp; try with_reducible rfl
  try simp only [Act.put, List.setIfInBounds_toArray, List.set_cons_zero, List.set_cons_succ]
  refine wpAnyH_done (by kernel_rfl) ?_ _
  clear hHeld hS
  have HBe := Lib.hid (below_curR (Nat.le_succ w.heap.size) HB.out HP.out)
  go_wp2_with fail
  refine bodyPost_ret (v := .tuple #[.agg #[.slice a N c, .slice oa d.lines.length oc], .slice la xs.length lc, .int .i64 f, .int .i64 (r - q / 11)]) ?_ ?_ ?_
  · simp only [results, Try.results30]; go_simp
  · rfl
  · have hW := (HW.out.base (show w.heap.size + 1 ≤ w.heap.size + 2 by omega)).set w.heap.size (by omega) (.slice a N c) (.slice oa d.lines.length oc)
    have hn := HNe.out
    subst hn
    exact ⟨⟨d, a, c, oa, oc, xs, la, lc, f, (r - q / 11), rfl, hW, HR0.out, ⟨by omega, by omega⟩⟩, (HBe.out.setCell (p := ⟨w.heap.size, 0, none⟩) (Nat.le_refl _) _).setCell (p := ⟨w.heap.size, 1, none⟩) (Nat.le_refl _) _⟩
end Go.Proofs.Ytemejcbilhcebaa
