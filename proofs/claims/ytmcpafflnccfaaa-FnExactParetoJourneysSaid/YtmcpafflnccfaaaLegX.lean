/-
  THE LAWS' HELPERS on Leg (written by gen_struct.py), in the one form that the laws' walks take.
-/
import Derived.Test.YtmcpafflnccfaaaRows
import Derived.Test.YtmcpafflnccfaaaLeg
import Derived.LoopTactic
import Derived.WalkLawsBesides
import Derived.BigQuiet
import Derived.Deep.RegionHeld3
import Derived.Deep.QuietTactic
import Derived.Laws.Entries
namespace Go.Proofs.Ytmcpafflnccfaaa
open Go.RowKit
set_option linter.unusedVariables false

theorem infoLeg : (Try.prog.info? 62).map (fun i => (i.zero, i.size, i.bytes)) = some (some (.agg #[.int .i64 0, .int .i64 0, .int .i64 0, .int .i64 0, .int .i64 0]), 5, 40) := by kernel_rfl
def LegsSmall (xs : List LegD) : Prop := xs.length ≤ 1048576
def LegsFit (xs : List LegD) : Prop := ∀ s ∈ xs, LegWf s

def LegSmall (_ : LegD) : Prop := True
def LegAt (_ : World) (v : Value) (s : LegD) : Prop := v = .agg #[.int .i64 s.trip, .int .i64 s.frm, .int .i64 s.dst, .int .i64 s.dep, .int .i64 s.arr]
theorem LegAt.below {w w' : World} {v : Value} {s : LegD} (h : LegAt w v s) {B : Nat} (_hB : B = w.heap.size) (_hb : Below B w w') : LegAt w' v s := h
def LegIn (_ _ : Nat) (w : World) (v : Value) (s : LegD) : Prop := LegAt w v s
theorem LegIn.at {l u : Nat} {w : World} {v : Value} {s : LegD} (h : LegIn l u w v s) : LegAt w v s := h
theorem LegIn.later {l u : Nat} {w w' : World} {v : Value} {s : LegD} (h : LegIn l u w v s) (_hb : Below w.heap.size w w') : LegIn l u w' v s := h
theorem LegIn.out {l u lo hi : Nat} {w w' : World} {v : Value} {s : LegD} (h : LegIn l u w v s) (_ho : Out lo hi w w') (_hs : True) : LegIn l u w' v s := h
theorem LegIn.base {l l' u u' : Nat} {w : World} {v : Value} {s : LegD} (h : LegIn l u w v s) (_hl : l' ≤ l) (_hu : u ≤ u') : LegIn l' u' w v s := h
theorem Leg_open {w : World} {v : Value} {s : LegD} (h : LegAt w v s) : v = .agg #[.int .i64 s.trip, .int .i64 s.frm, .int .i64 s.dst, .int .i64 s.dep, .int .i64 s.arr] := h

theorem szLegS_x2 (v : Value) (xs : List LegD) (left : Int) (w : World) (hr : LegsAt w v xs) (_hf : LegsFit xs) (h0 : 0 ≤ left) (h1 : left ≤ 1048576) :
    Calls Try.prog 20 #[v, .int .i64 left] w fun e w' => (∃ r : Int, e = .returned (.int .i64 r) ∧ (r = -1 ∨ (0 ≤ r ∧ r ≤ left ∧ LegsSmall xs))) ∧ Below w.heap.size w w' := by
  obtain ⟨a, c, rfl, hc, hm, HC⟩ := legs_open hr
  clear hr _hf
  by_cases hneg : left - (xs.length : Int) < 0
  · go_enter Try.func20, Try.ntmps20
    go_wp2
    go_ret
    exact ⟨⟨-1, rfl, .inl rfl⟩, Below.refl _ _⟩
  · go_enter Try.func20, Try.ntmps20
    go_wp2
    go_ret
    exact ⟨⟨_, rfl, .inr ⟨by omega, by omega, by unfold LegsSmall; omega⟩⟩, Below.refl _ _⟩

set_option maxHeartbeats 1000000 in
theorem toLeg_any (s : LegD) (w : World) : Calls Try.prog 67 #[.agg #[.int .i64 s.trip, .int .i64 s.frm, .int .i64 s.dst, .int .i64 s.dep, .int .i64 s.arr]] w fun e w' => e = .returned (.agg #[.int .i64 s.trip, .int .i64 s.frm, .int .i64 s.dst, .int .i64 s.dep, .int .i64 s.arr]) ∧ Below w.heap.size w w' := by
  go_enter Try.func67, Try.ntmps67
  go_wp2_with fail
  refine bodyPost_ret (v := .agg #[.int .i64 s.trip, .int .i64 s.frm, .int .i64 s.dst, .int .i64 s.dep, .int .i64 s.arr]) (by simp only [results, Try.results67]; go_simp) rfl ⟨rfl, ?_⟩
  exact ((((Below.refl _ _).alloc (by simp <;> omega) _).alloc (by simp <;> omega) _).alloc (by simp <;> omega) _)

theorem toLeg_x (v : Value) (s : LegD) (w : World) (hr : LegAt w v s) (_hs : LegSmall s) : Calls Try.prog 67 #[v] w fun e w' => e = .returned (.agg #[.int .i64 s.trip, .int .i64 s.frm, .int .i64 s.dst, .int .i64 s.dep, .int .i64 s.arr]) ∧ LegIn w.heap.size w'.heap.size w' (.agg #[.int .i64 s.trip, .int .i64 s.frm, .int .i64 s.dst, .int .i64 s.dep, .int .i64 s.arr]) s ∧ Below w.heap.size w w' := by
  rw [Leg_open hr]; exact (toLeg_any s w).mono fun e w' ⟨he, hb⟩ => ⟨he, rfl, hb⟩
set_option maxHeartbeats 1000000 in
theorem eqLeg_any (s : LegD) (w : World) : Calls Try.prog 58 #[.agg #[.int .i64 s.trip, .int .i64 s.frm, .int .i64 s.dst, .int .i64 s.dep, .int .i64 s.arr], .agg #[.int .i64 s.trip, .int .i64 s.frm, .int .i64 s.dst, .int .i64 s.dep, .int .i64 s.arr]] w fun e w' => e = .returned (.bool true) ∧ Below w.heap.size w w' := by
  have h0 : (s.trip != s.trip) = false := by simp
  have h1 : (s.frm != s.frm) = false := by simp
  have h2 : (s.dst != s.dst) = false := by simp
  have h3 : (s.dep != s.dep) = false := by simp
  have h4 : (s.arr != s.arr) = false := by simp
  go_enter Try.func58, Try.ntmps58
  go_wp2_with fail
  go_ret
  exact ⟨rfl, (((Below.refl _ _).alloc (by simp <;> omega) _).alloc (by simp <;> omega) _)⟩
theorem eqLeg_x (v v' : Value) (s : LegD) (w : World) (hr : LegAt w v s) (hr' : LegAt w v' s) (_hs : LegSmall s) : Calls Try.prog 58 #[v, v'] w fun e w' => e = .returned (.bool true) ∧ Below w.heap.size w w' := by
  rw [Leg_open hr, Leg_open hr']; exact eqLeg_any s w

set_option maxHeartbeats 2000000 in
theorem toLegS_x (v : Value) (xs : List LegD) (w : World) (hr : LegsAt w v xs) (hn : LegsSmall xs) :
    Calls Try.prog 22 #[v] w fun e w' => ∃ a c, e = .returned (.slice a xs.length c) ∧ LegsIn w.heap.size w'.heap.size w' (.slice a xs.length c) xs ∧ Below w.heap.size w w' := by
  unfold LegsSmall at hn
  obtain ⟨a, c, rfl, hc, hm, HC⟩ := legs_open hr
  clear hr
  obtain ⟨i0, hi, hz0, hz1, hz2⟩ := info_parts infoLeg
  go_enter Try.func22, Try.ntmps22
  go_wp2_with (at_make; refine wpList_make_full _ rfl _ _ 30 rfl w.heap.size 62 i0 _ 5 Try.underlying30 hi hz0 hz1 .i64 .i64 (xs.length : Int) (xs.length : Int) xs.length rfl rfl rfl rfl ?c1 ?c2 ?c3 ?_)
  case c1 => rw [hz2]; omega
  case c2 => unfold maxLen; omega
  case c3 => exact Nat.le_refl _
  intro w1 hown hgrow
  have hbel : Below w.heap.size w w1 := (Below.refl _ _).grown hgrow (Nat.le_refl _) (fun k hk => by cases hk)
  have hzl := hown.1
  generalize Array.toList (madeCells _ _) = z0 at *
  clear hgrow
  go_wp2
  go_loopw [4] (fun i wr => ∃ k : Nat, k ≤ xs.length ∧ i = .int .i64 k ∧ (∃ zs : List Value, zs.length = xs.length * 5 ∧ Hid (zs.take (k * 5) = (legC xs).take (k * 5)) ∧ Hid (wr.ownsRow w.heap.size 62 5 (.slice (some ⟨w.heap.size, 0, none⟩) xs.length xs.length) xs.length zs)) ∧ Hid (Below w.heap.size w wr))
    (fun i _ => xs.length - (RowKit.intOf i).toNat)
  case atStart => exact ⟨0, Nat.zero_le _, rfl, ⟨z0, hzl, rfl, hown⟩, hbel⟩
  case round =>
    obtain ⟨k, hk, rfl, ⟨zs, hzs, HT, HOwn⟩, HBel⟩ := hrel
    by_cases hlt : k < xs.length
    · obtain ⟨b, off, rfl, hbl, y0, y1, y2, y3, y4⟩ := HC.out k hlt
      have hx0 := HBel.out.cell (p := ⟨b, off + k * 5, none⟩) hbl
      rw [y0] at hx0
      have hx1 := HBel.out.cell (p := ⟨b, off + k * 5 + 1, none⟩) hbl
      rw [y1] at hx1
      have hx2 := HBel.out.cell (p := ⟨b, off + k * 5 + 2, none⟩) hbl
      rw [y2] at hx2
      have hx3 := HBel.out.cell (p := ⟨b, off + k * 5 + 3, none⟩) hbl
      rw [y3] at hx3
      have hx4 := HBel.out.cell (p := ⟨b, off + k * 5 + 4, none⟩) hbl
      rw [y4] at hx4
      have HTo := Lib.hid (toLeg_any xs[k] wr)
      clear y0 y1 y2 y3 y4 hbel hown
      go_wp2_with fail
      go_at_call 67
      refine HTo.out.mono ?_
      rintro e w2 ⟨rfl, hb1⟩
      have hown1 := own_later HOwn.out hb1
      have hgl := (HOwn.out.lt w.heap.size rfl).2
      have q0 : w2.cell? ⟨w.heap.size, k * 5, none⟩ = some (zs[k * 5]'(by omega)) := by rw [hown1.cellAt (k * 5) (by omega)]; exact List.getElem?_eq_getElem _
      have q1 : w2.cell? ⟨w.heap.size, k * 5 + 1, none⟩ = some (zs[k * 5 + 1]'(by omega)) := by rw [hown1.cellAt (k * 5 + 1) (by omega)]; exact List.getElem?_eq_getElem _
      have q2 : w2.cell? ⟨w.heap.size, k * 5 + 2, none⟩ = some (zs[k * 5 + 2]'(by omega)) := by rw [hown1.cellAt (k * 5 + 2) (by omega)]; exact List.getElem?_eq_getElem _
      have q3 : w2.cell? ⟨w.heap.size, k * 5 + 3, none⟩ = some (zs[k * 5 + 3]'(by omega)) := by rw [hown1.cellAt (k * 5 + 3) (by omega)]; exact List.getElem?_eq_getElem _
      have q4 : w2.cell? ⟨w.heap.size, k * 5 + 4, none⟩ = some (zs[k * 5 + 4]'(by omega)) := by rw [hown1.cellAt (k * 5 + 4) (by omega)]; exact List.getElem?_eq_getElem _
      have hf := fun o => hown1.frozenAt o
      have HOwn2 := Lib.hid ((((((hown1.stored (k * 5) (.int .i64 xs[k].trip)).1.stored (k * 5 + 1) (.int .i64 xs[k].frm)).1.stored (k * 5 + 2) (.int .i64 xs[k].dst)).1.stored (k * 5 + 3) (.int .i64 xs[k].dep)).1.stored (k * 5 + 4) (.int .i64 xs[k].arr)).1)
      have HT2 : Hid ((((((zs.set (k * 5) (.int .i64 xs[k].trip)).set (k * 5 + 1) (.int .i64 xs[k].frm)).set (k * 5 + 2) (.int .i64 xs[k].dst)).set (k * 5 + 3) (.int .i64 xs[k].dep)).set (k * 5 + 4) (.int .i64 xs[k].arr)).take ((k + 1) * 5) = (legC xs).take ((k + 1) * 5)) := by
        have hl := legC_len xs
        have e0 : (legC xs)[k * 5]'(by omega) = .int .i64 xs[k].trip := by
          have := legC_get0 xs k hlt; rw [List.getElem?_eq_getElem (by omega)] at this; exact Option.some.inj this
        have e1 : (legC xs)[k * 5 + 1]'(by omega) = .int .i64 xs[k].frm := by
          have := legC_get1 xs k hlt; rw [List.getElem?_eq_getElem (by omega)] at this; exact Option.some.inj this
        have e2 : (legC xs)[k * 5 + 2]'(by omega) = .int .i64 xs[k].dst := by
          have := legC_get2 xs k hlt; rw [List.getElem?_eq_getElem (by omega)] at this; exact Option.some.inj this
        have e3 : (legC xs)[k * 5 + 3]'(by omega) = .int .i64 xs[k].dep := by
          have := legC_get3 xs k hlt; rw [List.getElem?_eq_getElem (by omega)] at this; exact Option.some.inj this
        have e4 : (legC xs)[k * 5 + 4]'(by omega) = .int .i64 xs[k].arr := by
          have := legC_get4 xs k hlt; rw [List.getElem?_eq_getElem (by omega)] at this; exact Option.some.inj this
        have s1 := take_set_succ zs (legC xs) (k * 5) (by omega) (by omega) HT.out
        have s2 := take_set_succ (zs.set (k * 5) (.int .i64 xs[k].trip)) (legC xs) (k * 5 + 1) (by simp; omega) (by omega) (by rw [← e0]; exact s1)
        have s3 := take_set_succ ((zs.set (k * 5) (.int .i64 xs[k].trip)).set (k * 5 + 1) (.int .i64 xs[k].frm)) (legC xs) (k * 5 + 2) (by simp; omega) (by omega) (by rw [← e1]; exact s2)
        have s4 := take_set_succ (((zs.set (k * 5) (.int .i64 xs[k].trip)).set (k * 5 + 1) (.int .i64 xs[k].frm)).set (k * 5 + 2) (.int .i64 xs[k].dst)) (legC xs) (k * 5 + 3) (by simp; omega) (by omega) (by rw [← e2]; exact s3)
        have s5 := take_set_succ ((((zs.set (k * 5) (.int .i64 xs[k].trip)).set (k * 5 + 1) (.int .i64 xs[k].frm)).set (k * 5 + 2) (.int .i64 xs[k].dst)).set (k * 5 + 3) (.int .i64 xs[k].dep)) (legC xs) (k * 5 + 4) (by simp; omega) (by omega) (by rw [← e3]; exact s4)
        rw [e4] at s5
        rw [show (k + 1) * 5 = k * 5 + 4 + 1 by omega]
        exact s5
      have HB1 : Hid (Below w.heap.size w w2) := HBel.out.trans (hb1.mono (by omega))
      generalize zs[k * 5] = o0 at *
      generalize zs[k * 5 + 1] = o1 at *
      generalize zs[k * 5 + 2] = o2 at *
      generalize zs[k * 5 + 3] = o3 at *
      generalize zs[k * 5 + 4] = o4 at *
      clear hown1 hb1 hx0 hx1 hx2 hx3 hx4 HOwn HT HBel
      go_wp2_with fail
      go_roundw
      case rel =>
        exact ⟨k + 1, by omega, by go_num, ⟨_, by simpa using hzs, HT2, HOwn2⟩, (((((HB1.out.setCell (p := ⟨w.heap.size, _, none⟩) (Nat.le_refl _) _).setCell (p := ⟨w.heap.size, _, none⟩) (Nat.le_refl _) _).setCell (p := ⟨w.heap.size, _, none⟩) (Nat.le_refl _) _).setCell (p := ⟨w.heap.size, _, none⟩) (Nat.le_refl _) _).setCell (p := ⟨w.heap.size, _, none⟩) (Nat.le_refl _) _)⟩
      case measure => simp [RowKit.intOf]; omega
    · go_wp2
      go_ret
      have hkl : k = xs.length := by omega
      have := HT.out
      rw [List.take_of_length_le (by omega), List.take_of_length_le (by rw [legC_len]; omega)] at this
      refine ⟨some ⟨w.heap.size, 0, none⟩, xs.length, rfl, LegsIn.mk ?_, HBel.out⟩
      rw [← this]; exact HOwn.out

theorem keepLeg2 {W w w' : World} {p0 p1 p2 p3 p4 p5 p6 p7 p8 p9 : Addr} {x0 x1 x2 x3 x4 x5 x6 x7 x8 x9 : Value} (hb : Below w.heap.size w w') (h : w.cell? p0 = some x0 ∧ w.cell? p1 = some x1 ∧ w.cell? p2 = some x2 ∧ w.cell? p3 = some x3 ∧ w.cell? p4 = some x4 ∧ w.cell? p5 = some x5 ∧ w.cell? p6 = some x6 ∧ w.cell? p7 = some x7 ∧ w.cell? p8 = some x8 ∧ w.cell? p9 = some x9 ∧ Below W.heap.size W w) : w'.cell? p0 = some x0 ∧ w'.cell? p1 = some x1 ∧ w'.cell? p2 = some x2 ∧ w'.cell? p3 = some x3 ∧ w'.cell? p4 = some x4 ∧ w'.cell? p5 = some x5 ∧ w'.cell? p6 = some x6 ∧ w'.cell? p7 = some x7 ∧ w'.cell? p8 = some x8 ∧ w'.cell? p9 = some x9 ∧ Below W.heap.size W w' := by
  obtain ⟨h0, h1, h2, h3, h4, h5, h6, h7, h8, h9, hl⟩ := h
  exact ⟨bkeep hb h0, bkeep hb h1, bkeep hb h2, bkeep hb h3, bkeep hb h4, bkeep hb h5, bkeep hb h6, bkeep hb h7, bkeep hb h8, bkeep hb h9, hl.trans (hb.mono hl.size)⟩
set_option maxHeartbeats 2000000 in
theorem eqLegS_x (v v' : Value) (xs : List LegD) (w : World) (hr : LegsAt w v xs) (hr' : LegsAt w v' xs) (hs : LegsSmall xs) :
    Calls Try.prog 15 #[v, v'] w fun e w' => e = .returned (.bool true) ∧ Below w.heap.size w w' := by
  obtain ⟨a, c, rfl, hc, hm, HC⟩ := legs_open hr
  obtain ⟨a', c', rfl, hc', hm', HC'⟩ := legs_open hr'
  clear hr hr'
  go_enter Try.func15, Try.ntmps15
  go_wp2
  go_loopw [5] (fun i wr => ∃ k : Nat, k ≤ xs.length ∧ i = .int .i64 k ∧ Hid (Below w.heap.size w wr))
    (fun i _ => xs.length - (RowKit.intOf i).toNat)
  case atStart => exact ⟨0, Nat.zero_le _, rfl, Below.refl _ _⟩
  case round =>
    obtain ⟨k, hk, rfl, HB⟩ := hrel
    by_cases hlt : k < xs.length
    · obtain ⟨b, off, rfl, hbl, y0, y1, y2, y3, y4⟩ := HC.out k hlt
      obtain ⟨b', off', rfl, hbl', z0, z1, z2, z3, z4⟩ := HC'.out k hlt
      have hx0 := HB.out.cell (p := ⟨b, off + k * 5, none⟩) hbl
      rw [y0] at hx0
      have hx1 := HB.out.cell (p := ⟨b, off + k * 5 + 1, none⟩) hbl
      rw [y1] at hx1
      have hx2 := HB.out.cell (p := ⟨b, off + k * 5 + 2, none⟩) hbl
      rw [y2] at hx2
      have hx3 := HB.out.cell (p := ⟨b, off + k * 5 + 3, none⟩) hbl
      rw [y3] at hx3
      have hx4 := HB.out.cell (p := ⟨b, off + k * 5 + 4, none⟩) hbl
      rw [y4] at hx4
      have hu0 := HB.out.cell (p := ⟨b', off' + k * 5, none⟩) hbl'
      rw [z0] at hu0
      have hu1 := HB.out.cell (p := ⟨b', off' + k * 5 + 1, none⟩) hbl'
      rw [z1] at hu1
      have hu2 := HB.out.cell (p := ⟨b', off' + k * 5 + 2, none⟩) hbl'
      rw [z2] at hu2
      have hu3 := HB.out.cell (p := ⟨b', off' + k * 5 + 3, none⟩) hbl'
      rw [z3] at hu3
      have hu4 := HB.out.cell (p := ⟨b', off' + k * 5 + 4, none⟩) hbl'
      rw [z4] at hu4
      have HEq := Lib.hid (eqLeg_any xs[k])
      clear y0 z0 y1 z1 y2 z2 y3 z3 y4 z4
      have hk1 : (k : Int) < (xs.length : Int) := by omega
      generalize xs[k] = y at *
      have hbel := HB.out
      go_wp2_with fail
      go_region_held3 (fun w' => w'.cell? ⟨b, off + k * 5, none⟩ = some (.int .i64 y.trip) ∧ w'.cell? ⟨b, off + k * 5 + 1, none⟩ = some (.int .i64 y.frm) ∧ w'.cell? ⟨b, off + k * 5 + 2, none⟩ = some (.int .i64 y.dst) ∧ w'.cell? ⟨b, off + k * 5 + 3, none⟩ = some (.int .i64 y.dep) ∧ w'.cell? ⟨b, off + k * 5 + 4, none⟩ = some (.int .i64 y.arr) ∧ w'.cell? ⟨b', off' + k * 5, none⟩ = some (.int .i64 y.trip) ∧ w'.cell? ⟨b', off' + k * 5 + 1, none⟩ = some (.int .i64 y.frm) ∧ w'.cell? ⟨b', off' + k * 5 + 2, none⟩ = some (.int .i64 y.dst) ∧ w'.cell? ⟨b', off' + k * 5 + 3, none⟩ = some (.int .i64 y.dep) ∧ w'.cell? ⟨b', off' + k * 5 + 4, none⟩ = some (.int .i64 y.arr) ∧ Below w.heap.size w w')
        (first | (exact ⟨hx0, hx1, hx2, hx3, hx4, hu0, hu1, hu2, hu3, hu4, hbel.drew⟩) | (exact keepLeg2 hb (by assumption)))
        ((go_at_call 58; refine (HEq.out _).mono ?_; rintro e w' ⟨rfl, hb⟩))
      obtain ⟨_, _, _, _, _, _, _, _, _, _, qb⟩ := (by assumption : _ ∧ _)
      clear hx0 hu0 hx1 hu1 hx2 hu2 hx3 hu3 hx4 hu4 hbel HB
      go_wp2_with fail
      go_roundw
      case rel => exact ⟨k + 1, by omega, by go_num, qb⟩
      case measure => simp [RowKit.intOf]; omega
    · go_wp2
      go_ret
      exact ⟨rfl, HB.out⟩

def upLegs (k : Int) : Nat → List LegD
  | 0 => []
  | n + 1 => upLegs k n ++ [⟨k + 5 * (n : Int), k + 5 * (n : Int) + 1, k + 5 * (n : Int) + 1 + 1, k + 5 * (n : Int) + 1 + 1 + 1, k + 5 * (n : Int) + 1 + 1 + 1 + 1⟩]
theorem upLegs_len (k : Int) : ∀ n, (upLegs k n).length = n
  | 0 => rfl
  | n + 1 => by simp [upLegs, upLegs_len k n]
theorem upLegs_get (k : Int) : ∀ n j (h : j < (upLegs k n).length), (upLegs k n)[j] = ⟨k + 5 * (j : Int), k + 5 * (j : Int) + 1, k + 5 * (j : Int) + 1 + 1, k + 5 * (j : Int) + 1 + 1 + 1, k + 5 * (j : Int) + 1 + 1 + 1 + 1⟩
  | 0, j, h => by simp [upLegs] at h
  | n + 1, j, h => by
    simp only [upLegs]
    rw [List.getElem_append]
    have hl := upLegs_len k n
    split
    · exact upLegs_get k n j (by assumption)
    · have : j = n := by simp [upLegs, hl] at h; omega
      subst this
      simp

def LegsMk (k : Int) (w : World) (v : Value) (xs : List LegD) : Prop := LegsAt w v (upLegs k xs.length)
theorem LegsMk.later {k : Int} {w w' : World} {v : Value} {xs : List LegD} (h : LegsMk k w v xs) (hb : Below w.heap.size w w') : LegsMk k w' v xs := LegsAt.below h rfl hb

set_option maxHeartbeats 4000000 in
theorem markLegS_own (v : Value) (xs : List LegD) (k : Int) (B : Nat) (w : World) (hr : w.ownsRow B 62 5 v xs.length (legC xs)) (hn : xs.length ≤ 1048576) (hk0 : 0 ≤ k) (hk : k ≤ 1073741824) :
    Calls Try.prog 18 #[v, .int .i64 k] w fun e w' => e = .returned (.int .i64 (k + 5 * (xs.length : Int))) ∧ w'.ownsRow B 62 5 v xs.length (legC (upLegs k xs.length)) ∧ w.grownBy w' v.ownBlock := by
  obtain ⟨a, c, rfl⟩ := own_shape hr
  have HO := Lib.hid hr
  clear hr
  go_enter Try.func18, Try.ntmps18
  go_wp2
  go_loopw [1, 5] (fun q i wr => ∃ j : Nat, j ≤ xs.length ∧ i = .int .i64 j ∧ q = .int .i64 (k + 5 * (j : Int)) ∧ (∃ ys : List LegD, ys.length = xs.length ∧ Hid (ys.take j = (upLegs k xs.length).take j) ∧ Hid (wr.ownsRow B 62 5 (.slice a xs.length c) xs.length (legC ys))) ∧ Hid (w.grownBy wr (Value.ownBlock (.slice a xs.length c))))
    (fun _ i _ => xs.length - (RowKit.intOf i).toNat)
  case atStart => exact ⟨0, Nat.zero_le _, rfl, by simp, ⟨_, rfl, rfl, HO.out⟩, World.grownBy.refl _ _⟩
  case round =>
    obtain ⟨j, hj, rfl, rfl, ⟨ys, hys, HT, HOwn⟩, HG⟩ := hrel
    by_cases hlt : j < xs.length
    · obtain ⟨_, h2⟩ := HOwn.out
      rcases h2 with ⟨hv, h0⟩ | ⟨g, cap, cur, hv, hg, hblk, h3, h4, h5, h6⟩
      · omega
      simp at hv
      obtain ⟨rfl, rfl⟩ := hv
      have hown := HOwn.out
      have hjl : j < ys.length := by omega
      have q0 : wr.cell? ⟨g, j * 5, none⟩ = some (.int .i64 ys[j].trip) := by rw [hown.cellAt (j * 5) (by omega)]; exact legC_get0 ys j hjl
      have q1 : wr.cell? ⟨g, j * 5 + 1, none⟩ = some (.int .i64 ys[j].frm) := by rw [hown.cellAt (j * 5 + 1) (by omega)]; exact legC_get1 ys j hjl
      have q2 : wr.cell? ⟨g, j * 5 + 2, none⟩ = some (.int .i64 ys[j].dst) := by rw [hown.cellAt (j * 5 + 2) (by omega)]; exact legC_get2 ys j hjl
      have q3 : wr.cell? ⟨g, j * 5 + 3, none⟩ = some (.int .i64 ys[j].dep) := by rw [hown.cellAt (j * 5 + 3) (by omega)]; exact legC_get3 ys j hjl
      have q4 : wr.cell? ⟨g, j * 5 + 4, none⟩ = some (.int .i64 ys[j].arr) := by rw [hown.cellAt (j * 5 + 4) (by omega)]; exact legC_get4 ys j hjl
      have hf := fun o => hown.frozenAt o
      have HOwn2 : Hid ((((((wr.setCell ⟨g, j * 5, none⟩ (.int .i64 (k + 5 * (j : Int)))).setCell ⟨g, j * 5 + 1, none⟩ (.int .i64 (k + 5 * (j : Int) + 1))).setCell ⟨g, j * 5 + 2, none⟩ (.int .i64 (k + 5 * (j : Int) + 1 + 1))).setCell ⟨g, j * 5 + 3, none⟩ (.int .i64 (k + 5 * (j : Int) + 1 + 1 + 1))).setCell ⟨g, j * 5 + 4, none⟩ (.int .i64 (k + 5 * (j : Int) + 1 + 1 + 1 + 1))).ownsRow B 62 5 (.slice (some ⟨g, 0, none⟩) xs.length c) xs.length (legC (ys.set j ⟨k + 5 * (j : Int), k + 5 * (j : Int) + 1, k + 5 * (j : Int) + 1 + 1, k + 5 * (j : Int) + 1 + 1 + 1, k + 5 * (j : Int) + 1 + 1 + 1 + 1⟩))) := by
        have := (((((hown.stored (j * 5) (.int .i64 (k + 5 * (j : Int)))).1.stored (j * 5 + 1) (.int .i64 (k + 5 * (j : Int) + 1))).1.stored (j * 5 + 2) (.int .i64 (k + 5 * (j : Int) + 1 + 1))).1.stored (j * 5 + 3) (.int .i64 (k + 5 * (j : Int) + 1 + 1 + 1))).1.stored (j * 5 + 4) (.int .i64 (k + 5 * (j : Int) + 1 + 1 + 1 + 1))).1
        rw [legC_set ys j ⟨k + 5 * (j : Int), k + 5 * (j : Int) + 1, k + 5 * (j : Int) + 1 + 1, k + 5 * (j : Int) + 1 + 1 + 1, k + 5 * (j : Int) + 1 + 1 + 1 + 1⟩ hjl] at this
        exact this
      have HT2 : Hid ((ys.set j ⟨k + 5 * (j : Int), k + 5 * (j : Int) + 1, k + 5 * (j : Int) + 1 + 1, k + 5 * (j : Int) + 1 + 1 + 1, k + 5 * (j : Int) + 1 + 1 + 1 + 1⟩).take (j + 1) = (upLegs k xs.length).take (j + 1)) := by
        have hl2 : j < (upLegs k xs.length).length := by rw [upLegs_len]; exact hlt
        have := take_set_succ ys (upLegs k xs.length) j hjl hl2 HT.out
        rw [upLegs_get] at this; exact this
      have hset : ∀ (W : World) (o : Nat) (u : Value), w.grownBy W (some g) → w.grownBy (W.setCell ⟨g, o, none⟩ u) (some g) := fun W o u h =>
        ⟨h.os, h.tape, h.output, by have := h.size; simp [World.setCell]; omega, fun q hq hne => by
          rw [Below.heap_setCell _ _ _ _ (fun e => hne (by rw [e]))]; exact h.block q hq hne⟩
      have HG2 : Hid (w.grownBy (((((wr.setCell ⟨g, j * 5, none⟩ (.int .i64 (k + 5 * (j : Int)))).setCell ⟨g, j * 5 + 1, none⟩ (.int .i64 (k + 5 * (j : Int) + 1))).setCell ⟨g, j * 5 + 2, none⟩ (.int .i64 (k + 5 * (j : Int) + 1 + 1))).setCell ⟨g, j * 5 + 3, none⟩ (.int .i64 (k + 5 * (j : Int) + 1 + 1 + 1))).setCell ⟨g, j * 5 + 4, none⟩ (.int .i64 (k + 5 * (j : Int) + 1 + 1 + 1 + 1))) (some g)) := hset _ _ _ (hset _ _ _ (hset _ _ _ (hset _ _ _ (hset _ _ _ (HG.out)))))
      clear HG hset
      clear hown hblk h4 h5 h6
      generalize ys[j] = old at *
      go_wp2
      go_roundw
      case rel => exact ⟨j + 1, by omega, by go_num, by go_num, ⟨_, by simpa using hys, HT2, HOwn2⟩, HG2⟩
      case measure => simp [RowKit.intOf]; omega
    · have hjl : j = xs.length := by omega
      subst hjl
      go_wp2
      go_ret
      refine ⟨rfl, ?_, HG.out⟩
      have := HT.out
      rw [List.take_of_length_le (by omega), List.take_of_length_le (by rw [upLegs_len]; omega)] at this
      rw [← this]; exact HOwn.out
theorem markLegS_x (v : Value) (xs : List LegD) (k : Int) (l u : Nat) (w : World) (hr : LegsIn l u w v xs) (hl : l ≤ w.heap.size) (hs : LegsSmall xs) (hk0 : 0 ≤ k) (hk : k ≤ 1073741824) :
    Calls Try.prog 18 #[v, .int .i64 k] w fun e w' => e = .returned (.int .i64 (k + 5 * (xs.length : Int))) ∧ LegsMk k w' v xs ∧ w.grownBy w' v.ownBlock ∧ Out l u w w' :=
  (markLegS_own v xs k l w hr.1 hs hk0 hk).mono fun e w' ⟨he, ho, hg⟩ => ⟨he, legsAt_own (by rw [upLegs_len]; exact ho), hg, Out.of_grown hg hl (fun g hg' => ⟨hr.lo g hg', hr.2 g hg'⟩)⟩
set_option maxRecDepth 100000 in
theorem legs_of {H : Type} {enc : TypeId × Value → H} {W : World} {base base' : Nat} {spare : Nat → Bool} {held : Bool} {v : Value} {d : DataW H} {p : List MemPlace}
    (hv : Value.okWide Try.prog W .any base 45 v) (h : DataW.Trod enc Try.prog W base' spare held 45 v d p) : ∃ xs, LegsAt W v xs ∧ LegsFit xs :=
  legsAt_of Try.underlying45 Try.underlying102 (by kernel_rfl) (by kernel_rfl) Try.underlying3 Try.underlying3 Try.underlying3 Try.underlying3 Try.underlying3 hv h
theorem szLegS_x (v : Value) (xs : List LegD) (left : Int) (w : World) (hr : LegsAt w v xs) (hf : LegsFit xs) (h0 : 0 ≤ left) (h1 : left ≤ 1048576) :
    Calls Try.prog 20 #[v, .int .i64 left] w fun e w' => (∃ r : Int, e = .returned (.int .i64 r) ∧ (r = -1 ∨ (0 ≤ r ∧ r ≤ 1048576 ∧ LegsSmall xs))) ∧ Below w.heap.size w w' :=
  (szLegS_x2 v xs left w hr hf h0 h1).mono fun e w' ⟨⟨r, he, h⟩, hb⟩ => ⟨⟨r, he, h.imp id (fun ⟨h0', h1', h2'⟩ => ⟨h0', by omega, h2'⟩)⟩, hb⟩
end Go.Proofs.Ytmcpafflnccfaaa
