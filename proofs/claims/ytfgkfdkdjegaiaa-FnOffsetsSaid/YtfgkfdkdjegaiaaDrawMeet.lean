import Derived.Test.YtfgkfdkdjegaiaaMk27
import Derived.Test.YtfgkfdkdjegaiaaMk39
import Derived.Test.YtfgkfdkdjegaiaaMk02
import Derived.Test.YtfgkfdkdjegaiaaMk03
namespace Go.Proofs.Ytfgkfdkdjegaiaa
open Go.RowKit
set_option linter.unusedVariables false
set_option linter.unusedSimpArgs false

set_option maxRecDepth 100000 in
set_option maxHeartbeats 8000000 in
theorem drawMeeting_any (v : Value) (w : World) (h : CodeAt w v) :
    Calls Try.prog 34 #[v] w fun e w' => (∃ (d : NetD) (a : Option Addr) (c : Nat) (oa : Option Addr) (oc : Nat) (p : Int) (xs : List PatternD) (la : Option Addr) (lc : Nat) (x : Int) (y : Int), e = .returned (.tuple #[.agg #[.slice a d.stops.length c, .slice oa d.lines.length oc], .int .i64 p, .slice la xs.length lc, .int .i64 x, .int .i64 y]) ∧ Drawn (w.heap.size + 1) (.agg #[.slice a d.stops.length c, .slice oa d.lines.length oc]) p (.slice la xs.length lc) d xs w') ∧ Below w.heap.size w w' := by
  obtain ⟨l0, ca, cc, rfl, hcc⟩ := h
  obtain ⟨cn, hcn⟩ : ∃ cn, (l0.map byteV).length = cn := ⟨_, rfl⟩
  have hk : CodeAt (w.alloc (.cells #[.slice none 0 0, .slice none 0 0] 27)) (.slice ca (l0.map byteV).length cc) := ⟨l0, (show RowAt w (.slice ca (l0.map byteV).length cc) (l0.map byteV) from ⟨ca, cc, rfl, hcc⟩).below rfl ((Below.refl _ _).alloc (Nat.le_refl _) _)⟩
  obtain ⟨hc, ho, hb⟩ := cur_new _ _ hk
  rw [hcn] at hc ho hb
  rw [hcn]
  have hbuild := build_curP ca cn cc
  have hsz : (w.alloc (.cells #[.slice none 0 0, .slice none 0 0] 27)).heap.size = w.heap.size + 1 := World.size_alloc _ _
  rw [hsz] at hc ho
  obtain ⟨wa, hwa⟩ : ∃ wa : World, wa = (w.alloc (.cells #[.slice none 0 0, .slice none 0 0] 27)).alloc (.cells #[.slice ca cn cc, .int .i64 0, .int .u64 0] 84) := ⟨_, rfl⟩
  rw [← hwa] at hc ho hb
  have hza : wa.heap.size = w.heap.size + 2 := by rw [hwa]; simp
  have HB : Hid (Below w.heap.size w wa ∧ w.heap.size ≤ wa.heap.size) := ⟨((Below.refl _ w).alloc (Nat.le_refl _) _).trans (hb.mono (by simp)), by omega⟩
  have HZ : Hid (wa.cell? ⟨w.heap.size, 0, none⟩ = some (.slice none 0 0) ∧ wa.cell? ⟨w.heap.size, 1, none⟩ = some (.slice none 0 0) ∧ ∀ o, wa.frozen? ⟨w.heap.size, o, none⟩ = false) := by
    refine ⟨?_, ?_, fun o => ?_⟩
    · rw [hwa]; exact acell (by go_simp) _
    · rw [hwa]; exact acell (by go_simp) _
    · rw [hwa, World.frozen?_of_block (a := ⟨w.heap.size, o, none⟩) (Below.heap_alloc _ _ _ (by simp))]; go_simp
  have HV := Lib.hid ho
  have H1 := Lib.hid (patterns_any (w.heap.size + 1) 0 (.slice ca cn cc) 9 wa hc ho (by omega) (by omega))
  have HWA := Lib.hid hwa
  clear hc ho hb hk hsz hcc hwa hcn
  go_enter Try.func34, Try.ntmps34
  go_wp2_with fail
  rw [← HWA.out]
  go_at_call 69
  refine H1.out.mono ?_
  rintro e w1 ⟨⟨d, a, c, oa, oc, p, xs, la, lc, rfl, hd8, hd12, hln, hp0, hx4, hxs, hnet, hrow⟩, hp⟩
  rw [hza] at hnet hrow
  have hsz1 : w.heap.size + 2 ≤ w1.heap.size := by have := hp.2.2.size; omega
  obtain ⟨nb, hnb⟩ : ∃ nb, nb = w1.heap.size := ⟨_, rfl⟩
  obtain ⟨w2, hw2⟩ : ∃ w2 : World, w2 = w1.alloc (.cells #[.slice a d.stops.length c, .slice oa d.lines.length oc] 27) := ⟨_, rfl⟩
  have hb2 : Below w1.heap.size w1 w2 := by rw [hw2]; exact (Below.refl _ _).alloc (Nat.le_refl _) _
  have hlta : w.heap.size + 1 < wa.heap.size := by omega
  have hc2 := curPost_later HV.out hlta hp (hb2.trans (Below.refl _ _).drew)
  have hnet2 := hnet.later (hb2.trans (Below.refl _ _).drew)
  have hrow2 := own_later hrow (hb2.trans (Below.refl _ _).drew)
  have z0 : w2.cell? ⟨w.heap.size, 0, none⟩ = some (.slice none 0 0) := bkeep hb2 (hp.2.2.cell HZ.out.1 (by simp))
  have z1 : w2.cell? ⟨w.heap.size, 1, none⟩ = some (.slice none 0 0) := bkeep hb2 (hp.2.2.cell HZ.out.2.1 (by simp))
  have hzw : w.heap.size < w2.heap.size := by have := hb2.size; omega
  have zf : ∀ o, w2.frozen? ⟨w.heap.size, o, none⟩ = false := fun o => by
    rw [World.frozen?_of_block (a := ⟨w.heap.size, o, none⟩) (hb2.block w.heap.size (by omega)), World.frozen?_of_block (a := ⟨w.heap.size, o, none⟩) (hp.2.2.block w.heap.size (by omega) (by simp))]
    exact HZ.out.2.2 o
  have c0 : w2.cell? ⟨nb, 0, none⟩ = some (.slice a d.stops.length c) := by rw [hnb, hw2]; go_simp
  have c1 : w2.cell? ⟨nb, 1, none⟩ = some (.slice oa d.lines.length oc) := by rw [hnb, hw2]; go_simp
  have hnbb : w.heap.size + 1 < nb := by omega
  have HB2 : Hid (Below w.heap.size w w2.drew ∧ w.heap.size ≤ w2.drew.heap.size) := ⟨((below_curP (Nat.le_succ w.heap.size) HB.out hp).trans (hb2.mono (by omega))).drew, by show w.heap.size ≤ w2.heap.size; omega⟩
  have HDr : Hid (∀ W k, CurPost w2.drew (w.heap.size + 1) k (.slice ca cn cc) W → Drawn (w.heap.size + 1) (.agg #[.slice a d.stops.length c, .slice oa d.lines.length oc]) p (.slice la xs.length lc) d xs W) := fun W k hW => by
    have hzz : w2.drew.heap.size ≤ W.heap.size := hW.2.2.size
    have hz12 : w1.heap.size ≤ w2.drew.heap.size := by show w1.heap.size ≤ w2.heap.size; exact hb2.size
    exact ⟨⟨hd8, hd12, hln⟩, hp0, hx4, hxs, (hnet2.keep hzz (fun q a1 a2 a3 => hW.2.2.block q a3 (by simp; omega))).base (by omega) (by omega), own_base (own_cur hrow2 (by omega) hW) (by omega)⟩
  have HSt : Hid (∀ W k, CurPost w2.drew (w.heap.size + 1) k (.slice ca cn cc) W → (W.cell? ⟨nb, 0, none⟩ = some (.slice a d.stops.length c) ∧ W.cell? ⟨nb, 1, none⟩ = some (.slice oa d.lines.length oc)) ∧ W.cell? ⟨w.heap.size, 0, none⟩ = some (.slice none 0 0) ∧ W.cell? ⟨w.heap.size, 1, none⟩ = some (.slice none 0 0) ∧ ∀ o, W.frozen? ⟨w.heap.size, o, none⟩ = false) := fun W k hW =>
    ⟨⟨hW.2.2.cell c0 (by simp; omega), hW.2.2.cell c1 (by simp; omega)⟩, hW.2.2.cell z0 (by simp), hW.2.2.cell z1 (by simp), fun o => by rw [World.frozen?_of_block (a := ⟨w.heap.size, o, none⟩) (hW.2.2.block w.heap.size hzw (by simp))]; exact zf o⟩
  have HPk : Hid (∀ W k (x : Int), CurPost w2.drew (w.heap.size + 1) k (.slice ca cn cc) W → k ≤ 2000 → x ≤ 1000 → Calls Try.prog 70 #[.pointer (some ⟨w.heap.size + 1, 0, none⟩), .int .i64 x] W fun e w' => (∃ r : Int, e = .returned (.int .i64 r) ∧ 0 ≤ r ∧ (1 ≤ x → r < x)) ∧ CurPost w2.drew (w.heap.size + 1) (k + 2) (.slice ca cn cc) w') := fun W k x hW hk hx =>
    (pick_any (w.heap.size + 1) k (.slice ca cn cc) x W hW.1 hW.2.1 (by omega) (by omega)).mono (fun e w' hh => ⟨hh.1, curPost_trans hW hh.2⟩)
  have HMo := Lib.hid (fun W => l1MostN_any xs.length 1 W)
  obtain ⟨kk, hkk⟩ : ∃ kk : Nat, kk = max xs.length 1 := ⟨_, rfl⟩
  have hk1 : 1 ≤ kk := by omega
  have hk4 : kk ≤ 4 := by omega
  rw [← hkk] at HMo
  have hwk : IntKind.i64.wrap ((kk : Int) + 1) = (kk : Int) + 1 := IntWalk.i64_in _ (by omega)
  have HPc : Hid (CurPost w2.drew (w.heap.size + 1) 900 (.slice ca cn cc) w2.drew) := ⟨hc2.1, hc2.2.1, grown_refl _ _⟩
  have HW2 := Lib.hid (And.intro hw2 hnb)
  clear hw2 hnb hp H1 HB HZ hnet hrow hb2 hc2 hnet2 hrow2 hd8 hd12 hln hxs HV hza hlta
  go_wp2_with fail
  rw [← HW2.out.1]
  try rw [← HW2.out.2]
  go_at_call 75
  refine (HMo.out _).mono ?_
  rintro e w' ⟨rfl, rfl⟩
  clear HMo hkk
  go_wp2_with fail
  refine wp_region_held_drew (S := (fun w' => w'.cell? ⟨nb, 0, none⟩ = some (.slice a d.stops.length c) ∧ w'.cell? ⟨nb, 1, none⟩ = some (.slice oa d.lines.length oc))) (by kernel_rfl) ?_ (fun hHeld => ?_)
  · exact ⟨c0, c1⟩
  refine wpAnyH_take (i := 0) (v := ?_) (by simp only [List.getElem?_toArray, List.getElem?_cons_zero]; rfl) (by kernel_rfl) (by kernel_rfl) (by kernel_rfl) (by exact fun _ _ _ h => h) (Or.inl ⟨by rfl, ?_⟩) (by assumption) ?_
  rotate_left
  · intro w' hSw; (try dsimp only at hSw); obtain ⟨e0, e1⟩ := hSw
    go_simp; try with_reducible rfl
  try simp only [Act.put, List.setIfInBounds_toArray, List.set_cons_zero, List.set_cons_succ]
  refine wpAnyH_take (i := 1) (v := ?_) (by simp only [List.getElem?_toArray, List.getElem?_cons_succ, List.getElem?_cons_zero]; rfl) (by kernel_rfl) (by kernel_rfl) (by kernel_rfl) (by exact fun _ _ _ h => h) (Or.inl ⟨by rfl, ?_⟩) (by assumption) ?_
  rotate_left
  · intro w' hSw; (try dsimp only at hSw); obtain ⟨e0, e1⟩ := hSw
    go_simp; try with_reducible rfl
  try simp only [Act.put, List.setIfInBounds_toArray, List.set_cons_zero, List.set_cons_succ]
  refine wpAnyH_take (i := 2) (v := ?_) (by simp only [List.getElem?_toArray, List.getElem?_cons_succ, List.getElem?_cons_zero]; rfl) (by kernel_rfl) (by kernel_rfl) (by kernel_rfl) (by exact fun _ _ _ h => h) (Or.inl ⟨by rfl, ?_⟩) (by assumption) ?_
  rotate_left
  · intro w' hSw; (try dsimp only at hSw); obtain ⟨e0, e1⟩ := hSw
    go_simp; try with_reducible rfl
  try simp only [Act.put, List.setIfInBounds_toArray, List.set_cons_zero, List.set_cons_succ]
  refine wpAnyH_take (i := 3) (v := ?_) (by simp only [List.getElem?_toArray, List.getElem?_cons_succ, List.getElem?_cons_zero]; rfl) (by kernel_rfl) (by kernel_rfl) (by kernel_rfl) (by exact fun _ _ _ h => h) (Or.inl ⟨by rfl, ?_⟩) (by assumption) ?_
  rotate_left
  · intro w' hSw; (try dsimp only at hSw); obtain ⟨e0, e1⟩ := hSw
    go_simp; try with_reducible rfl
  try simp only [Act.put, List.setIfInBounds_toArray, List.set_cons_zero, List.set_cons_succ]
  refine wpAnyH_take (i := 4) (v := ?_) (by simp only [List.getElem?_toArray, List.getElem?_cons_succ, List.getElem?_cons_zero]; rfl) (by kernel_rfl) (by kernel_rfl) (by kernel_rfl) (by exact fun _ _ _ h => h) (Or.inl ⟨by rfl, ?_⟩) (by assumption) ?_
  rotate_left
  · intro w' hSw; (try dsimp only at hSw); obtain ⟨e0, e1⟩ := hSw
    go_simp; try with_reducible rfl
  try simp only [Act.put, List.setIfInBounds_toArray, List.set_cons_zero, List.set_cons_succ]
  refine wpAnyH_take (i := 6) (v := ?_) (by simp only [List.getElem?_toArray, List.getElem?_cons_succ, List.getElem?_cons_zero]; rfl) (by kernel_rfl) (by kernel_rfl) (by kernel_rfl) (by exact fun _ _ _ h => h) (Or.inl ⟨by rfl, ?_⟩) (by assumption) ?_
  rotate_left
  · intro w' hSw; (try dsimp only at hSw); obtain ⟨e0, e1⟩ := hSw
    go_simp; try with_reducible rfl
  try simp only [Act.put, List.setIfInBounds_toArray, List.set_cons_zero, List.set_cons_succ]
  refine wpAnyH_take (i := 7) (v := ?_) (by simp only [List.getElem?_toArray, List.getElem?_cons_succ, List.getElem?_cons_zero]; rfl) (by kernel_rfl) (by kernel_rfl) (by kernel_rfl) (by exact fun _ _ _ h => h) (Or.inl ⟨by rfl, ?_⟩) (by assumption) ?_
  rotate_left
  · intro w' hSw; (try dsimp only at hSw); obtain ⟨e0, e1⟩ := hSw
    go_simp; try with_reducible rfl
  try simp only [Act.put, List.setIfInBounds_toArray, List.set_cons_zero, List.set_cons_succ]
  refine wpAnyH_take (i := 8) (v := ?_) (by simp only [List.getElem?_toArray, List.getElem?_cons_succ, List.getElem?_cons_zero]; rfl) (by kernel_rfl) (by kernel_rfl) (by kernel_rfl) (by exact fun _ _ _ h => h) (Or.inl ⟨by rfl, ?_⟩) (by assumption) ?_
  rotate_left
  · intro w' hSw; (try dsimp only at hSw); obtain ⟨e0, e1⟩ := hSw
    go_simp; try with_reducible rfl
  try simp only [Act.put, List.setIfInBounds_toArray, List.set_cons_zero, List.set_cons_succ]
  refine wpAnyH_take (i := 10) (v := ?_) (by simp only [List.getElem?_toArray, List.getElem?_cons_succ, List.getElem?_cons_zero]; rfl) (by kernel_rfl) (by kernel_rfl) (by kernel_rfl) (by exact fun _ _ _ h => h) (Or.inl ⟨by rfl, ?_⟩) (by assumption) ?_
  rotate_left
  · intro w' hSw; (try dsimp only at hSw); obtain ⟨e0, e1⟩ := hSw
    go_simp; try with_reducible rfl
  try simp only [Act.put, List.setIfInBounds_toArray, List.set_cons_zero, List.set_cons_succ]
  refine wpAnyH_ready (rs := [5]) (by kernel_rfl) (by simp) ?_
  refine AllReadyH.cons (by simp only [List.getElem?_toArray, List.getElem?_cons_succ, List.getElem?_cons_zero]; rfl) (fun K hK => ?_) AllReadyH.nil
  go_simp
  go_at_call 70
  refine (HPk.out _ 900 (kk : Int) HPc.out (by omega) (by omega)).mono ?_
  rintro e v1 ⟨⟨r1, rfl, h10, h11⟩, hp⟩
  have h12 := h11 (by omega)
  obtain ⟨k1, rfl⟩ := Int.eq_ofNat_of_zero_le h10
  have HPc := Lib.hid hp
  have hSt := (HSt.out _ _ hp).1
  clear hp h11 h10
  go_wp2_with fail
  refine hK.out _ _ hSt (fun hH5 => ?_)
  clear hK K
  try simp only [Act.put, List.setIfInBounds_toArray, List.set_cons_zero, List.set_cons_succ]
  refine wpAnyH_ready (rs := [9]) (by kernel_rfl) (by simp) ?_
  refine AllReadyH.cons (by simp only [List.getElem?_toArray, List.getElem?_cons_succ, List.getElem?_cons_zero]; rfl) (fun K hK => ?_) AllReadyH.nil
  go_simp
  go_at_call 70
  refine (HPk.out _ (900 + 2) ((kk : Int) + 1) HPc.out (by omega) (by omega)).mono ?_
  rintro e v2 ⟨⟨r2, rfl, h20, h21⟩, hp⟩
  have h22 := h21 (by omega)
  obtain ⟨k2, rfl⟩ := Int.eq_ofNat_of_zero_le h20
  have HPc := Lib.hid hp
  have hSt := (HSt.out _ _ hp).1
  clear hp h21 h20
  go_wp2_with fail
  refine hK.out _ _ hSt (fun hH9 => ?_)
  clear hK K
  try simp only [Act.put, List.setIfInBounds_toArray, List.set_cons_zero, List.set_cons_succ]
  refine wpAnyH_ready (rs := [11]) (by kernel_rfl) (by simp) ?_
  refine AllReadyH.cons (by simp only [List.getElem?_toArray, List.getElem?_cons_succ, List.getElem?_cons_zero]; rfl) (fun K hK => ?_) AllReadyH.nil
  go_simp
  go_at_call 70
  refine (HPk.out _ (900 + 2 + 2) 12 HPc.out (by omega) (by omega)).mono ?_
  rintro e v3 ⟨⟨r3, rfl, h30, h31⟩, hp⟩
  have h32 := h31 (by omega)
  obtain ⟨k3, rfl⟩ := Int.eq_ofNat_of_zero_le h30
  have HPc := Lib.hid hp
  have hSt := (HSt.out _ _ hp).1
  clear hp h31 h30
  have hq3 : IntKind.i64.wrap ((k3 : Int) / 11) = (k3 : Int) / 11 := IntWalk.i64_in _ (by omega)
  have ht3 : (k3 : Int).tdiv 11 = (k3 : Int) / 11 := rfl
  have hs3 : IntKind.i64.wrap ((k2 : Int) - (k3 : Int) / 11) = (k2 : Int) - (k3 : Int) / 11 := IntWalk.i64_in _ (by omega)
  go_wp2_with fail
  refine hK.out _ _ hSt (fun hH11 => ?_)
  clear hK K
  try simp only [Act.put, List.setIfInBounds_toArray, List.set_cons_zero, List.set_cons_succ]
  refine wpAnyH_take (i := 12) (v := ?_) (by simp only [List.getElem?_toArray, List.getElem?_cons_succ, List.getElem?_cons_zero]; rfl) (by kernel_rfl) (by kernel_rfl) (by kernel_rfl) (by exact fun _ _ _ h => h) (Or.inl ⟨by rfl, ?_⟩) (by assumption) ?_
  rotate_left
  · intro w' hSw; (try dsimp only at hSw); obtain ⟨e0, e1⟩ := hSw
    go_simp; try with_reducible rfl
  try simp only [Act.put, List.setIfInBounds_toArray, List.set_cons_zero, List.set_cons_succ]
  refine wpAnyH_take (i := 13) (v := ?_) (by simp only [List.getElem?_toArray, List.getElem?_cons_succ, List.getElem?_cons_zero]; rfl) (by kernel_rfl) (by kernel_rfl) (by kernel_rfl) (by exact fun _ _ _ h => h) (Or.inl ⟨by rfl, ?_⟩) (by assumption) ?_
  rotate_left
  · intro w' hSw; (try dsimp only at hSw); obtain ⟨e0, e1⟩ := hSw
    go_simp; try with_reducible rfl
  try simp only [Act.put, List.setIfInBounds_toArray, List.set_cons_zero, List.set_cons_succ]
  refine wpAnyH_ready (rs := [14]) (by kernel_rfl) (by simp) ?_
  refine AllReadyH.cons (by simp only [List.getElem?_toArray, List.getElem?_cons_succ, List.getElem?_cons_zero]; rfl) (fun K hK => ?_) AllReadyH.nil
  obtain ⟨hS5, hz0, hz1, hzf⟩ := HSt.out _ _ HPc.out
  go_simp
  refine hK.out _ _ ⟨by rw [World.cell?_setCell_other _ _ _ _ (fun e => by simp only [Addr.mk.injEq] at e; omega), World.cell?_setCell_other _ _ _ _ (fun e => by simp only [Addr.mk.injEq] at e; omega)]; exact hS5.1, by rw [World.cell?_setCell_other _ _ _ _ (fun e => by simp only [Addr.mk.injEq] at e; omega), World.cell?_setCell_other _ _ _ _ (fun e => by simp only [Addr.mk.injEq] at e; omega)]; exact hS5.2⟩ (fun hH14 => ?_)
  clear hK K
  try simp only [Act.put, List.setIfInBounds_toArray, List.set_cons_zero, List.set_cons_succ]
  refine wpAnyH_take (i := 15) (v := ?_) (by simp only [List.getElem?_toArray, List.getElem?_cons_succ, List.getElem?_cons_zero]; rfl) (by kernel_rfl) (by kernel_rfl) (by kernel_rfl) (by exact fun _ _ _ h => h) (Or.inl ⟨by rfl, ?_⟩) (by assumption) ?_
  rotate_left
  · intro w' hSw; (try dsimp only at hSw); obtain ⟨e0, e1⟩ := hSw
    go_simp; try with_reducible rfl
  try simp only [Act.put, List.setIfInBounds_toArray, List.set_cons_zero, List.set_cons_succ]
  refine wpAnyH_take (i := 16) (v := ?_) (by simp only [List.getElem?_toArray, List.getElem?_cons_succ, List.getElem?_cons_zero]; rfl) (by kernel_rfl) (by kernel_rfl) (by kernel_rfl) (by exact fun _ _ _ h => h) (Or.inl ⟨by rfl, ?_⟩) (by assumption) ?_
  rotate_left
  · intro w' hSw; (try dsimp only at hSw); obtain ⟨e0, e1⟩ := hSw
    go_simp; try with_reducible rfl
  try simp only [Act.put, List.setIfInBounds_toArray, List.set_cons_zero, List.set_cons_succ]
  refine wpAnyH_take (i := 17) (v := ?_) (by simp only [List.getElem?_toArray, List.getElem?_cons_succ, List.getElem?_cons_zero]; rfl) (by kernel_rfl) (by kernel_rfl) (by kernel_rfl) (by exact fun _ _ _ h => h) (Or.inl ⟨by rfl, ?_⟩) (by assumption) ?_
  rotate_left
  · intro w' hSw; (try dsimp only at hSw); obtain ⟨e0, e1⟩ := hSw
    go_simp; try with_reducible rfl
  try simp only [Act.put, List.setIfInBounds_toArray, List.set_cons_zero, List.set_cons_succ]
  refine wpAnyH_take (i := 18) (v := ?_) (by simp only [List.getElem?_toArray, List.getElem?_cons_succ, List.getElem?_cons_zero]; rfl) (by kernel_rfl) (by kernel_rfl) (by kernel_rfl) (by exact fun _ _ _ h => h) (Or.inl ⟨by rfl, ?_⟩) (by assumption) ?_
  rotate_left
  · intro w' hSw; (try dsimp only at hSw); obtain ⟨e0, e1⟩ := hSw
    go_simp; try with_reducible rfl
  try simp only [Act.put, List.setIfInBounds_toArray, List.set_cons_zero, List.set_cons_succ]
  refine wpAnyH_done (by kernel_rfl) ?_ _
  have HF := Lib.hid ((HDr.out _ _ HPc.out).set w.heap.size (Nat.lt_succ_self _) (.slice a d.stops.length c) (.slice oa d.lines.length oc))
  have HBf := Lib.hid (((below_curP (Nat.le_succ w.heap.size) HB2.out HPc.out).setCell (p := ⟨w.heap.size, 0, none⟩) (Nat.le_refl w.heap.size) (.slice a d.stops.length c)).setCell (p := ⟨w.heap.size, 1, none⟩) (Nat.le_refl w.heap.size) (.slice oa d.lines.length oc))
  clear hHeld HPc HSt HPk HDr hS5 z0 z1 zf c0 c1
  go_wp2_with fail
  refine bodyPost_ret (v := .tuple #[.agg #[.slice a d.stops.length c, .slice oa d.lines.length oc], .int .i64 p, .slice la xs.length lc, .int .i64 ((k1 : Int)), .int .i64 ((k2 : Int) - (k3 : Int) / 11)]) ?_ ?_ ?_
  · simp only [results, Try.results34]
    go_simp
  · rfl
  · exact ⟨⟨d, a, c, oa, oc, p, xs, la, lc, ((k1 : Int)), ((k2 : Int) - (k3 : Int) / 11), rfl, HF.out⟩, HBf.out⟩
end Go.Proofs.Ytfgkfdkdjegaiaa
