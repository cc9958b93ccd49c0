import Derived.Test.YtemejcbilhcebaaDrawCal
import Derived.Test.YtemejcbilhcebaaRI
import Derived.Deep.RegionHeld
import Derived.WalkKit
import Derived.Deep.AppendLies
import Derived.Deep.Upon
import Derived.OrdersHeld
import Derived.BigQuiet
namespace Go.Proofs.Ytemejcbilhcebaa
open Go.RowKit
set_option linter.unusedVariables false
set_option linter.unusedSimpArgs false

theorem l3Regular_some (v : Value) (c : CalD) (d : Int) (w : World) (hr : CalAt w v c) (h0 : 0 ≤ c.frm) (h1 : c.too ≤ 4000) :
    Calls Try.prog 74 #[v, .int .i64 d] w fun e w' => (∃ t : Bool, e = .returned (.bool t)) ∧ Below w.heap.size w w' := by
  obtain ⟨av, rv, rfl, ha, hrm⟩ := hr
  obtain ⟨a, ca, rfl, _⟩ := ints_open ha
  obtain ⟨b, cb, rfl, _⟩ := ints_open hrm
  clear ha hrm
  by_cases hd : c.frm ≤ d ∧ d ≤ c.too
  · have HD := Lib.hid hd
    have d0 : 0 ≤ d := by omega
    have d1 : d ≤ 4000 := by omega
    clear hd
    have hm0 : 0 ≤ d % 7 := by omega
    have hm1 : d % 7 < 7 := by omega
    go_enter Try.func74, Try.ntmps74
    go_wp2_with (go_at_call 49; refine (l1In_yes _ _ _ _ HD.out).mono ?_; rintro e w' ⟨rfl, rfl⟩)
    go_ret
    exact ⟨⟨_, rfl⟩, (Below.refl _ _).alloc (Nat.le_refl _) _⟩
  · have HD := Lib.hid hd
    clear hd
    go_enter Try.func74, Try.ntmps74
    go_wp2_with (go_at_call 49; refine (l1In_no _ _ _ _ HD.out).mono ?_; rintro e w' ⟨rfl, rfl⟩)
    go_ret
    exact ⟨⟨_, rfl⟩, (Below.refl _ _).alloc (Nat.le_refl _) _⟩

theorem l3Runs_some (v : Value) (c : CalD) (d : Int) (w : World) (hr : CalAt w v c) (h0 : 0 ≤ c.frm) (h1 : c.too ≤ 4000) :
    Calls Try.prog 63 #[v, .int .i64 d] w fun e w' => (∃ t : Bool, e = .returned (.bool t)) ∧ Below w.heap.size w w' := by
  have HReg := Lib.hid (fun W (h : Below w.heap.size w W) => l3Regular_some v c d W (hr.below rfl h) h0 h1)
  obtain ⟨av, rv, rfl, ha, hrm⟩ := hr
  have HA := Lib.hid (fun W (h : Below w.heap.size w W) => l1Has_any av c.added d W (ha.below rfl h))
  have HR := Lib.hid (fun W (h : Below w.heap.size w W) => l1Has_any rv c.removed d W (hrm.below rfl h))
  obtain ⟨a, ca, rfl, _⟩ := ints_open ha
  obtain ⟨b, cb, rfl, _⟩ := ints_open hrm
  clear ha hrm h0 h1
  generalize inB d c.added = t1 at *
  generalize inB d c.removed = t2 at *
  go_enter Try.func63, Try.ntmps63
  go_wp2_with fail
  go_at_call 73
  refine (HA.out _ ((Below.refl _ _).alloc (Nat.le_refl _) _)).mono ?_
  rintro e w' ⟨rfl, rfl⟩
  cases t1
  rotate_left
  · go_wp2_with fail
    go_ret
    exact ⟨⟨_, rfl⟩, (Below.refl _ _).alloc (Nat.le_refl _) _⟩
  go_wp2_with fail
  go_at_call 74
  refine (HReg.out _ ((Below.refl _ _).alloc (Nat.le_refl _) _)).mono ?_
  rintro e w1 ⟨⟨t, rfl⟩, hb1⟩
  have HB1 : Hid (Below w.heap.size w w1) := ((Below.refl _ _).alloc (Nat.le_refl _) _).trans (hb1.mono (by simp))
  obtain ⟨c0, c1, c2, c3, c4⟩ := (calBox_new w c (.slice a c.added.length ca) (.slice b c.removed.length cb) _).keep hb1
  clear hb1
  cases t
  · go_wp2_with fail
    go_ret
    exact ⟨⟨_, rfl⟩, HB1.out⟩
  · go_wp2_with fail
    go_at_call 73
    refine (HR.out _ HB1.out).mono ?_
    rintro e w' ⟨rfl, rfl⟩
    go_wp2_with fail
    go_ret
    exact ⟨⟨_, rfl⟩, HB1.out⟩

set_option maxHeartbeats 1000000 in
theorem rCalendars_any (v v' : Value) (c : CalD) (w : World) (hr : CalAt w v c) (hr' : CalAt w v' c) :
    Calls Try.prog 21 #[v, v'] w fun e w' => e = .returned (.bool true) ∧ Below w.heap.size w w' := by
  obtain ⟨av, rv, rfl, ha, hrm⟩ := hr
  obtain ⟨av', rv', rfl, ha', hrm'⟩ := hr'
  have HA := Lib.hid (fun W (h : Below w.heap.size w W) => rInts_any av av' c.added W (ha.below rfl h) (ha'.below rfl h))
  have HR := Lib.hid (fun W (h : Below w.heap.size w W) => rInts_any rv rv' c.removed W (hrm.below rfl h) (hrm'.below rfl h))
  obtain ⟨a, ca, rfl, _⟩ := ints_open ha
  obtain ⟨b, cb, rfl, _⟩ := ints_open hrm
  obtain ⟨a', ca', rfl, _⟩ := ints_open ha'
  obtain ⟨b', cb', rfl, _⟩ := ints_open hrm'
  clear ha hrm ha' hrm'
  obtain ⟨cf, ct, cw, cA, cR⟩ := c
  simp only at *
  go_enter Try.func21, Try.ntmps21
  go_wp2_with fail
  go_at_call 26
  refine (HA.out _ (((Below.refl _ _).alloc (Nat.le_refl _) _).alloc (by simp) _)).mono ?_
  rintro e w1 ⟨rfl, hb1⟩
  have HB1 : Hid (Below w.heap.size w w1) := (((Below.refl _ _).alloc (Nat.le_refl _) _).alloc (by simp) _).trans (hb1.mono (by simp; omega))
  have p4 : w1.cell? ⟨w.heap.size, 4, none⟩ = some (.slice b cR.length cb) := bkeep hb1 (by go_simp)
  have q4 : w1.cell? ⟨w.heap.size + 1, 4, none⟩ = some (.slice b' cR.length cb') := bkeep hb1 (by go_simp)
  clear hb1
  go_wp2_with fail
  go_at_call 26
  refine (HR.out _ HB1.out).mono ?_
  rintro e w2 ⟨rfl, hb2⟩
  have HB2 : Hid (Below w.heap.size w w2) := HB1.out.trans (hb2.mono HB1.out.size)
  clear hb2
  go_wp2_with fail
  go_ret
  exact ⟨rfl, HB2.out⟩

set_option maxRecDepth 100000 in
set_option maxHeartbeats 4000000 in
theorem dayNear_any (b n : Nat) (v av rv : Value) (f t wd : Int) (w : World) (hc : CurAt w b v n) (hv : CodeOff w b v) (hn : n ≤ 500000) (hf : 0 ≤ f ∧ f ≤ 3600) (ht : -1 ≤ t ∧ t ≤ 3651) :
    Calls Try.prog 108 #[.pointer (some ⟨b, 0, none⟩), .agg #[.int .i64 f, .int .i64 t, .int .i64 wd, av, rv]] w fun e w' => (∃ d : Int, e = .returned (.int .i64 d) ∧ -2 ≤ d ∧ d ≤ 4000) ∧ CurPost w b (n + 4) v w' := by
  have hlt := curAt_lt hc
  have hp0 := curPost_start hc hv (.cells #[.int .i64 f, .int .i64 t, .int .i64 wd, av, rv] 46)
  have HP := Lib.hid (curPost_later hv hlt hp0 (Below.refl _ _).drew)
  have HV := Lib.hid hv
  have HPk := Lib.hid (pick_any b n v 41 _ HP.out.1 HP.out.2.1 (by omega) (by omega))
  obtain ⟨wz, hwz⟩ : ∃ wz : World, wz = w.alloc (.cells #[.int .i64 f, .int .i64 t, .int .i64 wd, av, rv] 46) := ⟨_, rfl⟩
  have c0 : wz.cell? ⟨w.heap.size, 0, none⟩ = some (.int .i64 f) := by rw [hwz]; go_simp
  have c1 : wz.cell? ⟨w.heap.size, 1, none⟩ = some (.int .i64 t) := by rw [hwz]; go_simp
  rw [← hwz] at HP HPk
  have HWZ := Lib.hid hwz
  have hs1 : IntKind.i64.wrap (f - 1) = f - 1 := IntWalk.i64_in _ (by omega)
  have hs2 : IntKind.i64.wrap (t + 1) = t + 1 := IntWalk.i64_in _ (by omega)
  clear hc hv hp0 hwz
  go_enter Try.func108, Try.ntmps108
  go_wp2_with fail
  rw [← HWZ.out]
  generalize hxb : w.heap.size = xb at *
  have hbx : xb ≠ b := by omega
  have hnb : (some xb : Option Nat) ≠ some b := fun e => by injection e with e; omega
  clear HWZ
  refine wp_region_held_drew (S := (fun w' => w'.cell? ⟨xb, 0, none⟩ = some (.int .i64 f) ∧ w'.cell? ⟨xb, 1, none⟩ = some (.int .i64 t))) (by kernel_rfl) ?_ (fun hHeld => ?_)
  · exact ⟨c0, c1⟩
  refine wpAnyH_take (i := 0) (v := ?_) (by simp only [List.getElem?_toArray, List.getElem?_cons_zero]; rfl) (by kernel_rfl) (by kernel_rfl) (by kernel_rfl) (by exact fun _ _ _ h => h) (Or.inl ⟨by rfl, ?_⟩) (by assumption) ?_
  rotate_left
  · intro w' hSw; (try dsimp only at hSw); obtain ⟨e0, e1⟩ := hSw
    go_simp; try with_reducible rfl
  try simp only [Act.put, List.setIfInBounds_toArray, List.set_cons_zero, List.set_cons_succ]
  refine wpAnyH_take (i := 1) (v := ?_) (by simp only [List.getElem?_toArray, List.getElem?_cons_succ, List.getElem?_cons_zero]; rfl) (by kernel_rfl) (by kernel_rfl) (by kernel_rfl) (by exact fun _ _ _ h => h) (Or.inl ⟨by rfl, ?_⟩) (by assumption) ?_
  rotate_left
  · intro w' hSw; (try dsimp only at hSw); obtain ⟨e0, e1⟩ := hSw
    go_simp; try with_reducible rfl
  try simp only [Act.put, List.setIfInBounds_toArray, List.set_cons_zero, List.set_cons_succ]
  refine wpAnyH_take (i := 2) (v := ?_) (by simp only [List.getElem?_toArray, List.getElem?_cons_succ, List.getElem?_cons_zero]; rfl) (by kernel_rfl) (by kernel_rfl) (by kernel_rfl) (by exact fun _ _ _ h => h) (Or.inl ⟨by rfl, ?_⟩) (by assumption) ?_
  rotate_left
  · intro w' hSw; (try dsimp only at hSw); obtain ⟨e0, e1⟩ := hSw
    go_simp; try with_reducible rfl
  try simp only [Act.put, List.setIfInBounds_toArray, List.set_cons_zero, List.set_cons_succ]
  refine wpAnyH_take (i := 3) (v := ?_) (by simp only [List.getElem?_toArray, List.getElem?_cons_succ, List.getElem?_cons_zero]; rfl) (by kernel_rfl) (by kernel_rfl) (by kernel_rfl) (by exact fun _ _ _ h => h) (Or.inl ⟨by rfl, ?_⟩) (by assumption) ?_
  rotate_left
  · intro w' hSw; (try dsimp only at hSw); obtain ⟨e0, e1⟩ := hSw
    go_simp; try with_reducible rfl
  try simp only [Act.put, List.setIfInBounds_toArray, List.set_cons_zero, List.set_cons_succ]
  refine wpAnyH_take (i := 4) (v := ?_) (by simp only [List.getElem?_toArray, List.getElem?_cons_succ, List.getElem?_cons_zero]; rfl) (by kernel_rfl) (by kernel_rfl) (by kernel_rfl) (by exact fun _ _ _ h => h) (Or.inl ⟨by rfl, ?_⟩) (by assumption) ?_
  rotate_left
  · intro w' hSw; (try dsimp only at hSw); obtain ⟨e0, e1⟩ := hSw
    go_simp; try with_reducible rfl
  try simp only [Act.put, List.setIfInBounds_toArray, List.set_cons_zero, List.set_cons_succ]
  refine wpAnyH_take (i := 5) (v := ?_) (by simp only [List.getElem?_toArray, List.getElem?_cons_succ, List.getElem?_cons_zero]; rfl) (by kernel_rfl) (by kernel_rfl) (by kernel_rfl) (by exact fun _ _ _ h => h) (Or.inl ⟨by rfl, ?_⟩) (by assumption) ?_
  rotate_left
  · intro w' hSw; (try dsimp only at hSw); obtain ⟨e0, e1⟩ := hSw
    go_simp; try with_reducible rfl
  try simp only [Act.put, List.setIfInBounds_toArray, List.set_cons_zero, List.set_cons_succ]
  refine wpAnyH_take (i := 6) (v := ?_) (by simp only [List.getElem?_toArray, List.getElem?_cons_succ, List.getElem?_cons_zero]; rfl) (by kernel_rfl) (by kernel_rfl) (by kernel_rfl) (by exact fun _ _ _ h => h) (Or.inl ⟨by rfl, ?_⟩) (by assumption) ?_
  rotate_left
  · intro w' hSw; (try dsimp only at hSw); obtain ⟨e0, e1⟩ := hSw
    go_simp; try with_reducible rfl
  try simp only [Act.put, List.setIfInBounds_toArray, List.set_cons_zero, List.set_cons_succ]
  refine wpAnyH_take (i := 7) (v := ?_) (by simp only [List.getElem?_toArray, List.getElem?_cons_succ, List.getElem?_cons_zero]; rfl) (by kernel_rfl) (by kernel_rfl) (by kernel_rfl) (by exact fun _ _ _ h => h) (Or.inl ⟨by rfl, ?_⟩) (by assumption) ?_
  rotate_left
  · intro w' hSw; (try dsimp only at hSw); obtain ⟨e0, e1⟩ := hSw
    go_simp; try with_reducible rfl
  try simp only [Act.put, List.setIfInBounds_toArray, List.set_cons_zero, List.set_cons_succ]
  refine wpAnyH_take (i := 10) (v := ?_) (by simp only [List.getElem?_toArray, List.getElem?_cons_succ, List.getElem?_cons_zero]; rfl) (by kernel_rfl) (by kernel_rfl) (by kernel_rfl) (by exact fun _ _ _ h => h) (Or.inl ⟨by rfl, ?_⟩) (by assumption) ?_
  rotate_left
  · intro w' hSw; (try dsimp only at hSw); obtain ⟨e0, e1⟩ := hSw
    go_simp; try with_reducible rfl
  try simp only [Act.put, List.setIfInBounds_toArray, List.set_cons_zero, List.set_cons_succ]
  refine wpAnyH_take (i := 11) (v := ?_) (by simp only [List.getElem?_toArray, List.getElem?_cons_succ, List.getElem?_cons_zero]; rfl) (by kernel_rfl) (by kernel_rfl) (by kernel_rfl) (by exact fun _ _ _ h => h) (Or.inl ⟨by rfl, ?_⟩) (by assumption) ?_
  rotate_left
  · intro w' hSw; (try dsimp only at hSw); obtain ⟨e0, e1⟩ := hSw
    go_simp; try with_reducible rfl
  try simp only [Act.put, List.setIfInBounds_toArray, List.set_cons_zero, List.set_cons_succ]
  refine wpAnyH_take (i := 12) (v := ?_) (by simp only [List.getElem?_toArray, List.getElem?_cons_succ, List.getElem?_cons_zero]; rfl) (by kernel_rfl) (by kernel_rfl) (by kernel_rfl) (by exact fun _ _ _ h => h) (Or.inl ⟨by rfl, ?_⟩) (by assumption) ?_
  rotate_left
  · intro w' hSw; (try dsimp only at hSw); obtain ⟨e0, e1⟩ := hSw
    go_simp; try with_reducible rfl
  try simp only [Act.put, List.setIfInBounds_toArray, List.set_cons_zero, List.set_cons_succ]
  refine wpAnyH_take (i := 13) (v := ?_) (by simp only [List.getElem?_toArray, List.getElem?_cons_succ, List.getElem?_cons_zero]; rfl) (by kernel_rfl) (by kernel_rfl) (by kernel_rfl) (by exact fun _ _ _ h => h) (Or.inl ⟨by rfl, ?_⟩) (by assumption) ?_
  rotate_left
  · intro w' hSw; (try dsimp only at hSw); obtain ⟨e0, e1⟩ := hSw
    go_simp; try with_reducible rfl
  try simp only [Act.put, List.setIfInBounds_toArray, List.set_cons_zero, List.set_cons_succ]
  refine wpAnyH_take (i := 14) (v := ?_) (by simp only [List.getElem?_toArray, List.getElem?_cons_succ, List.getElem?_cons_zero]; rfl) (by kernel_rfl) (by kernel_rfl) (by kernel_rfl) (by exact fun _ _ _ h => h) (Or.inl ⟨by rfl, ?_⟩) (by assumption) ?_
  rotate_left
  · intro w' hSw; (try dsimp only at hSw); obtain ⟨e0, e1⟩ := hSw
    go_simp; try with_reducible rfl
  try simp only [Act.put, List.setIfInBounds_toArray, List.set_cons_zero, List.set_cons_succ]
  refine wpAnyH_take (i := 15) (v := ?_) (by simp only [List.getElem?_toArray, List.getElem?_cons_succ, List.getElem?_cons_zero]; rfl) (by kernel_rfl) (by kernel_rfl) (by kernel_rfl) (by exact fun _ _ _ h => h) (Or.inl ⟨by rfl, ?_⟩) (by assumption) ?_
  rotate_left
  · intro w' hSw; (try dsimp only at hSw); obtain ⟨e0, e1⟩ := hSw
    go_simp; try with_reducible rfl
  try simp only [Act.put, List.setIfInBounds_toArray, List.set_cons_zero, List.set_cons_succ]
  refine wpAnyH_ready (rs := [8]) (by kernel_rfl) (by simp) ?_
  refine AllReadyH.cons (by simp only [List.getElem?_toArray, List.getElem?_cons_succ, List.getElem?_cons_zero]; rfl) (fun K hK => ?_) AllReadyH.nil
  go_simp
  go_at_call 42
  refine HPk.out.mono ?_
  rintro e v1 ⟨⟨r, rfl, r0, r1⟩, hp⟩
  have r2 := r1 (by omega)
  have HP := Lib.hid (curPost_trans HP.out hp)
  have hS := And.intro (hp.2.2.cell c0 hnb) (hp.2.2.cell c1 hnb)
  have hs3 : IntKind.i64.wrap (f + r) = f + r := IntWalk.i64_in _ (by omega)
  clear hp HPk r1
  go_wp2_with fail
  refine hK.out _ _ hS (fun hHa1 => ?_)
  clear hK K
  try simp only [Act.put, List.setIfInBounds_toArray, List.set_cons_zero, List.set_cons_succ]
  refine wpAnyH_take (i := 9) (v := ?_) (by simp only [List.getElem?_toArray, List.getElem?_cons_succ, List.getElem?_cons_zero]; rfl) (by kernel_rfl) (by kernel_rfl) (by kernel_rfl) (by exact fun _ _ _ h => h) (Or.inl ⟨by rfl, ?_⟩) (by assumption) ?_
  rotate_left
  · intro w' hSw; (try dsimp only at hSw); obtain ⟨e0, e1⟩ := hSw
    go_simp; try with_reducible rfl
  try simp only [Act.put, List.setIfInBounds_toArray, List.set_cons_zero, List.set_cons_succ]
  refine wpAnyH_ready (rs := [16]) (by kernel_rfl) (by simp) ?_
  refine AllReadyH.cons (by simp only [List.getElem?_toArray, List.getElem?_cons_succ, List.getElem?_cons_zero]; rfl) (fun K hK => ?_) AllReadyH.nil
  go_simp
  obtain ⟨wl, hwl⟩ : ∃ wl : World, wl = v1.alloc (.cells #[.int .i64 f, .int .i64 t, .int .i64 (f + r), .int .i64 (f - 1), .int .i64 (t + 1), .int .i64 3651] 3) := ⟨_, rfl⟩
  have hltw : b < v1.heap.size := curAt_lt HP.out.1
  have hlo : ListOff wl b (.slice (some ⟨v1.heap.size, 0, none⟩) 6 6) (([f, t, f + r, f - 1, t + 1, 3651] : List Int).map (.int .i64)) := by rw [hwl]; exact listOff_built v1 b (([f, t, f + r, f - 1, t + 1, 3651] : List Int).map (.int .i64)) 3 hltw (by simp)
  have hp4 : CurPost w b (n + 2) v wl := by rw [hwl]; exact curPost_alloc HP.out _
  have HAm := Lib.hid (among_any b (n + 2) v (.slice (some ⟨v1.heap.size, 0, none⟩) 6 6) [f, t, f + r, f - 1, t + 1, 3651] wl hp4.1 hp4.2.1 (by omega) hlo (by simp) (by simp) (fun z hz => by simp at hz; omega))
  have HP := Lib.hid hp4
  have hS : wl.cell? ⟨xb, 0, none⟩ = some (.int .i64 f) ∧ wl.cell? ⟨xb, 1, none⟩ = some (.int .i64 t) := by rw [hwl]; exact ⟨acell hS.1 _, acell hS.2 _⟩
  rw [← hwl]
  clear hwl hltw hlo hp4
  refine hK.out _ _ hS (fun hHa2 => ?_)
  clear hK K
  try simp only [Act.put, List.setIfInBounds_toArray, List.set_cons_zero, List.set_cons_succ]
  refine wpAnyH_ready (rs := [17]) (by kernel_rfl) (by simp) ?_
  refine AllReadyH.cons (by simp only [List.getElem?_toArray, List.getElem?_cons_succ, List.getElem?_cons_zero]; rfl) (fun K hK => ?_) AllReadyH.nil
  go_simp
  go_at_call 65
  refine HAm.out.mono ?_
  rintro e v2 ⟨⟨d, hd, rfl⟩, hp⟩
  have hS := And.intro (hp.2.2.cell hS.1 hnb) (hp.2.2.cell hS.2 hnb)
  have HP := Lib.hid (curPost_trans HP.out hp)
  have hd2 : -2 ≤ d ∧ d ≤ 4000 := by simp at hd; omega
  clear hp HAm hd
  go_wp2_with fail
  refine hK.out _ _ hS (fun hHa3 => ?_)
  clear hK K
  try simp only [Act.put, List.setIfInBounds_toArray, List.set_cons_zero, List.set_cons_succ]
  refine wpAnyH_take (i := 18) (v := ?_) (by simp only [List.getElem?_toArray, List.getElem?_cons_succ, List.getElem?_cons_zero]; rfl) (by kernel_rfl) (by kernel_rfl) (by kernel_rfl) (by exact fun _ _ _ h => h) (Or.inl ⟨by rfl, ?_⟩) (by assumption) ?_
  rotate_left
  · intro w' hSw; (try dsimp only at hSw); obtain ⟨e0, e1⟩ := hSw
    go_simp; try with_reducible rfl
  try simp only [Act.put, List.setIfInBounds_toArray, List.set_cons_zero, List.set_cons_succ]
  refine wpAnyH_done (by kernel_rfl) ?_ _
  clear hHeld hS c0 c1
  go_wp2_with fail
  go_ret
  exact ⟨⟨d, rfl, hd2⟩, HP.out⟩

end Go.Proofs.Ytemejcbilhcebaa
