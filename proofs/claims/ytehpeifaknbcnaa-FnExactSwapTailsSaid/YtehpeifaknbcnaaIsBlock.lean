import Derived.Test.YtehpeifaknbcnaaMk39
namespace Go.Proofs.Ytehpeifaknbcnaa
open Go.RowKit
set_option linter.unusedVariables false
set_option linter.unusedSimpArgs false

structure TripBox (w : World) (b : Nat) (x : TripD) : Prop where
  c0 : w.cell? ⟨b, 0, none⟩ = some (.int .i64 x.id)
  c1 : w.cell? ⟨b, 1, none⟩ = some (.int .i64 x.line)
  c2 : w.cell? ⟨b, 2, none⟩ = some (.int .i64 x.start)
  fz : ∀ o, w.frozen? ⟨b, o, none⟩ = false
theorem TripBox.lt {w : World} {b : Nat} {x : TripD} (h : TripBox w b x) : b < w.heap.size := World.block_lt_of_cell? w _ h.c0
theorem TripBox.keep {w w' : World} {b : Nat} {x : TripD} (h : TripBox w b x) (hb : Below w.heap.size w w') : TripBox w' b x := ⟨bkeep hb h.c0, bkeep hb h.c1, bkeep hb h.c2, fun o => fkeep hb (show b < _ from h.lt) (h.fz o)⟩
theorem TripBox.set {w : World} {b : Nat} {x : TripD} (h : TripBox w b x) (i l s : Int) : TripBox (((w.setCell ⟨b, 0, none⟩ (.int .i64 i)).setCell ⟨b, 1, none⟩ (.int .i64 l)).setCell ⟨b, 2, none⟩ (.int .i64 s)) b ⟨i, l, s⟩ :=
  ⟨(set_other (by omega)).trans ((set_other (by omega)).trans (set_same h.c0)), (set_other (by omega)).trans (set_same (z := .int .i64 x.line) ((set_other (by omega)).trans h.c1)),
   set_same (z := .int .i64 x.start) ((set_other (by omega)).trans ((set_other (by omega)).trans h.c2)), fun o => by rw [World.frozen?_setCell, World.frozen?_setCell, World.frozen?_setCell]; exact h.fz o⟩
theorem set3_cell {w : World} {p0 p1 p2 a : Addr} {u0 u1 u2 : Value} (h : p0.block ≠ a.block ∧ p1.block ≠ a.block ∧ p2.block ≠ a.block) : (((w.setCell p0 u0).setCell p1 u1).setCell p2 u2).cell? a = w.cell? a := by
  have key : ∀ (W : World) (p : Addr) (u : Value), p.block ≠ a.block → (W.setCell p u).cell? a = W.cell? a := fun W p u hp => World.cell?_of_block (Below.heap_setCell _ _ _ _ (fun e => hp (by rw [e])))
  rw [key _ _ _ h.2.2, key _ _ _ h.2.1, key _ _ _ h.1]

def prevT (t : TTD) (b : List Int) : Nat → TripD
  | 0 => zeroTrip
  | k + 1 => tripOf t (b.getD k 0)

set_option maxRecDepth 100000 in
set_option maxHeartbeats 4000000 in
theorem isBlock_any (tv fv bv : Value) (t : TTD) (f : FleetD) (bl : List Int) (w : World) (hr : TTAt w tv t) (hg : FleetAt w fv f) (hA : AskedGood t f) (hb : RowAt w bv (ints bl)) (hbl : bl.length ≤ 1048576) :
    Calls Try.prog 68 #[tv, fv, bv] w fun e w' => e = .returned (.bool (blkB t f bl)) ∧ Below w.heap.size w w' := by
  have HT := Lib.hid (fun W (h : Below w.heap.size w W) id => tripWith_any tv t id W (hr.below rfl h) hA.1)
  have HAt := Lib.hid hr
  have HFo := Lib.hid (fun W (h : Below w.heap.size w W) x y (h1 : CanRun t.net x) (h2 : CanRun t.net y) nv (hn : NetAt W nv t.net) => follows_any nv fv t.net f x y W hn (hg.below rfl h) hA.2 h1 h2)
  have HRow := Lib.hid hb
  have HG := Lib.hid hA
  obtain ⟨c0, d0, c1, d1, c2, d2, rfl, -, -⟩ := tt_open hr
  obtain ⟨fa, fc, rfl, -⟩ := fleet_open hg
  obtain ⟨ba, bc, rfl⟩ := IntS_open hb
  clear hr hg hA hb
  go_enter Try.func68, Try.ntmps68
  go_wp2_with fail
  go_loopw [14] (fun i wr => ∃ k : Nat, k ≤ bl.length ∧ i = .int .i64 k ∧ Hid (BlkTo t f bl k) ∧ Hid (TripBox wr (w.heap.size + 1 + 1) (prevT t bl k)) ∧
      wr.cell? ⟨w.heap.size, 0, none⟩ = some (.slice c0 t.net.stops.length d0) ∧ wr.cell? ⟨w.heap.size, 1, none⟩ = some (.slice c1 t.net.lines.length d1) ∧ wr.cell? ⟨w.heap.size, 2, none⟩ = some (.slice c2 t.trips.length d2) ∧
      wr.cell? ⟨w.heap.size + 1, 0, none⟩ = some (.slice fa f.dead.length fc) ∧ wr.cell? ⟨w.heap.size + 1, 1, none⟩ = some (.int .i64 f.turn) ∧ Hid (Below w.heap.size w wr ∧ w.heap.size + 3 ≤ wr.heap.size))
    (fun i _ => bl.length - (RowKit.intOf i).toNat)
  case atStart => exact ⟨0, Nat.zero_le _, rfl, (fun j hj h => by omega), ⟨by go_simp; rfl, by go_simp; rfl, by go_simp; rfl, fun o => by go_simp⟩, by go_simp, by go_simp, by go_simp, by go_simp, by go_simp, (((Below.refl _ _).alloc (Nat.le_refl _) _).alloc (by simp) _).alloc (by simp; omega) _, by simp⟩
  case round =>
    obtain ⟨k, hk, rfl, HTo, HBx, p0, p1, p2, q0, q1, HB⟩ := hrel
    have hzr := HB.out.2
    by_cases hlt : k < bl.length
    · obtain ⟨g, go, rfl, hgb, y⟩ := rowAt_cell (HRow.out.below rfl HB.out.1) k (by rw [ints_len]; exact hlt)
      have hyk : (ints bl)[k]'(by rw [ints_len]; exact hlt) = .int .i64 bl[k] := by simp [ints]
      rw [hyk] at y
      clear hyk
      have hk1 : (k : Int) < (bl.length : Int) := by omega
      have HStep : Hid (IdOk t f bl k hlt → BlkTo t f bl (k + 1)) := fun h => blkTo_succ hlt HTo.out h
      have HNo : Hid (¬ IdOk t f bl k hlt → blkB t f bl = false) := fun h => blkB_no (fun q => h (q.2 k hlt hlt))
      have HIf : Hid (foundT t bl[k] = true → (0 < k → follF t.net f (prevT t bl k) (tripOf t bl[k]) = true) → IdOk t f bl k hlt) := fun h1 h2 => ⟨h1, fun j hj => by
        have h3 := h2 (by omega)
        subst hj
        have e : prevT t bl (j + 1) = tripOf t (bl[j]'(by omega)) := by simp [prevT, show j < bl.length by omega]
        rw [e] at h3
        exact h3⟩
      have HFl : Hid (0 < k → IdOk t f bl k hlt → follF t.net f (prevT t bl k) (tripOf t bl[k]) = true) := fun h0 h1 => by
        obtain ⟨j, rfl⟩ : ∃ j, k = j + 1 := ⟨k - 1, by omega⟩
        have e : prevT t bl (j + 1) = tripOf t (bl[j]'(by omega)) := by simp [prevT, show j < bl.length by omega]
        rw [e]
        exact h1.2 j rfl
      have HCp : Hid (0 < k → CanRun t.net (prevT t bl k)) := fun h0 => by
        obtain ⟨j, rfl⟩ : ∃ j, k = j + 1 := ⟨k - 1, by omega⟩
        have e : prevT t bl (j + 1) = tripOf t (bl[j]'(by omega)) := by simp [prevT, show j < bl.length by omega]
        rw [e]
        exact can_of HG.out.1 (HTo.out j (by omega) (by omega)).1
      have HFd : Hid (IdOk t f bl k hlt → foundT t bl[k] = true) := fun h => h.1
      have HPn : Hid (prevT t bl (k + 1) = tripOf t bl[k]) := by show _ = _; simp [prevT, hlt]
      have HCy : Hid (foundT t bl[k] = true → CanRun t.net (tripOf t bl[k])) := fun h => can_of HG.out.1 h
      generalize bl[k] = id at *
      generalize prevT t bl k = x at *
      obtain ⟨xi, xl, xs⟩ := x
      have hbx := HBx.out
      obtain ⟨b0, b1, b2, bf⟩ := hbx
      simp only at b0 b1 b2
      clear HTo
      go_wp2_with fail
      go_at_call 62
      refine (HT.out _ HB.out.1 id).mono ?_
      rintro e w2 ⟨rfl, hb2⟩
      have HB2 : Hid (Below w.heap.size w w2 ∧ w.heap.size + 3 ≤ w2.heap.size) := ⟨HB.out.1.trans (hb2.mono HB.out.1.size), Nat.le_trans hzr hb2.size⟩
      have hz2 := HB2.out.2
      obtain ⟨y0, hy⟩ : ∃ y0, (if foundT t id = true then tripOf t id else zeroTrip) = y0 := ⟨_, rfl⟩
      have HY := Lib.hid hy
      rw [hy]
      clear hy
      obtain ⟨yi, yl, ys⟩ := y0
      have P0 := acell (bkeep hb2 p0) (.cells #[.int .i64 yi, .int .i64 yl, .int .i64 ys] 89)
      have P1 := acell (bkeep hb2 p1) (.cells #[.int .i64 yi, .int .i64 yl, .int .i64 ys] 89)
      have P2 := acell (bkeep hb2 p2) (.cells #[.int .i64 yi, .int .i64 yl, .int .i64 ys] 89)
      have Q0 := acell (bkeep hb2 q0) (.cells #[.int .i64 yi, .int .i64 yl, .int .i64 ys] 89)
      have Q1 := acell (bkeep hb2 q1) (.cells #[.int .i64 yi, .int .i64 yl, .int .i64 ys] 89)
      have B0 := acell (bkeep hb2 b0) (.cells #[.int .i64 yi, .int .i64 yl, .int .i64 ys] 89)
      have B1 := acell (bkeep hb2 b1) (.cells #[.int .i64 yi, .int .i64 yl, .int .i64 ys] 89)
      have B2 := acell (bkeep hb2 b2) (.cells #[.int .i64 yi, .int .i64 yl, .int .i64 ys] 89)
      have HBx2 : Hid (TripBox (w2.alloc (.cells #[.int .i64 yi, .int .i64 yl, .int .i64 ys] 89)) (w.heap.size + 1 + 1) ⟨xi, xl, xs⟩) := (HBx.out.keep hb2).keep ((Below.refl _ _).alloc (Nat.le_refl _) _)
      have bf2 := HBx2.out.fz
      clear hb2 p0 p1 p2 q0 q1 b0 b1 b2 bf HB HBx hzr y hgb
      unfold tripV
      simp only
      cases h1 : foundT t id
      · have HF : Hid (blkB t f bl = false) := HNo.out (fun h => by have := HFd.out h; rw [h1] at this; cases this)
        go_wp2_with fail
        go_ret
        exact ⟨by rw [HF.out]; rfl, HB2.out.1.alloc (by omega) _⟩
      · have hY := HY.out
        rw [h1] at hY
        simp only [if_true] at hY
        rw [hY] at HIf HFl HPn HCy
        clear HY hY
        by_cases h0 : k = 0
        · have HT2 : Hid (BlkTo t f bl (k + 1)) := HStep.out (HIf.out h1 (fun h => by omega))
          have hk0 : ¬ (0 : Int) < (k : Int) := by omega
          clear h0
          go_wp2_with fail
          go_roundw
          case rel =>
            refine ⟨k + 1, by omega, by go_num, HT2, ?_, (set3_cell (by dsimp only; omega)).trans P0, (set3_cell (by dsimp only; omega)).trans P1, (set3_cell (by dsimp only; omega)).trans P2, (set3_cell (by dsimp only; omega)).trans Q0, (set3_cell (by dsimp only; omega)).trans Q1, (((HB2.out.1.alloc (by omega) _).setCell (p := ⟨_, 0, none⟩) (by dsimp only; omega) _).setCell (p := ⟨_, 1, none⟩) (by dsimp only; omega) _).setCell (p := ⟨_, 2, none⟩) (by dsimp only; omega) _, by simp [World.setCell]; omega⟩
            show TripBox _ _ _
            rw [HPn.out]
            exact HBx2.out.set yi yl ys
          case measure => simp [RowKit.intOf]; omega
        · have hk0 : (0 : Int) < (k : Int) := by omega
          have HC := Lib.hid (fun W (h : Below w.heap.size w W) nv hn => HFo.out W h ⟨xi, xl, xs⟩ ⟨yi, yl, ys⟩ (HCp.out (by omega)) (HCy.out h1) nv hn)
          unfold tripV at HC
          simp only at HC
          have HFl2 := Lib.hid (HFl.out (by omega))
          have HIf2 := Lib.hid (fun h => HIf.out h1 (fun _ => h))
          clear HFl HIf HCp HCy HFo HT
          generalize hr : follF t.net f ⟨xi, xl, xs⟩ ⟨yi, yl, ys⟩ = r at *
          clear hr
          go_wp2_with fail
          go_at_call 63
          refine (HC.out _ (HB2.out.1.alloc (by omega) _) _ (tt_net (HAt.out.below rfl (HB2.out.1.alloc (by omega) _))).1).mono ?_
          rintro e w4 ⟨rfl, hb4⟩
          have HB4 : Hid (Below w.heap.size w w4 ∧ w.heap.size + 3 ≤ w4.heap.size) := ⟨(HB2.out.1.alloc (by omega) _).trans (hb4.mono (by simp; omega)), by have := hb4.size; simp at this; omega⟩
          have hz4 := HB4.out.2
          have P0 := bkeep hb4 P0
          have P1 := bkeep hb4 P1
          have P2 := bkeep hb4 P2
          have Q0 := bkeep hb4 Q0
          have Q1 := bkeep hb4 Q1
          have Y0 : w4.cell? ⟨w2.heap.size, 0, none⟩ = some (.int .i64 yi) := bkeep hb4 (by go_simp)
          have Y1 : w4.cell? ⟨w2.heap.size, 1, none⟩ = some (.int .i64 yl) := bkeep hb4 (by go_simp)
          have Y2 : w4.cell? ⟨w2.heap.size, 2, none⟩ = some (.int .i64 ys) := bkeep hb4 (by go_simp)
          have HBx4 := Lib.hid (HBx2.out.keep hb4)
          obtain ⟨b0, b1, b2, bf⟩ := HBx4.out
          simp only at b0 b1 b2
          clear hb4 B0 B1 B2 bf2 HBx2
          cases r
          · have HF : Hid (blkB t f bl = false) := HNo.out (fun h => by have := HFl2.out h; cases this)
            go_wp2_with fail
            go_ret
            exact ⟨by rw [HF.out]; rfl, HB4.out.1⟩
          · have HT2 : Hid (BlkTo t f bl (k + 1)) := HStep.out (HIf2.out rfl)
            clear h0
            go_wp2_with fail
            go_roundw
            case rel =>
              refine ⟨k + 1, by omega, by go_num, HT2, ?_, (set3_cell (by dsimp only; omega)).trans P0, (set3_cell (by dsimp only; omega)).trans P1, (set3_cell (by dsimp only; omega)).trans P2, (set3_cell (by dsimp only; omega)).trans Q0, (set3_cell (by dsimp only; omega)).trans Q1, ((HB4.out.1.setCell (p := ⟨_, 0, none⟩) (by dsimp only; omega) _).setCell (p := ⟨_, 1, none⟩) (by dsimp only; omega) _).setCell (p := ⟨_, 2, none⟩) (by dsimp only; omega) _, by simp [World.setCell]; omega⟩
              show TripBox _ _ _
              rw [HPn.out]
              exact HBx4.out.set yi yl ys
            case measure => simp [RowKit.intOf]; omega
    · obtain rfl : k = bl.length := by omega
      by_cases hn : bl = []
      · have HF : Hid (blkB t f bl = false) := blkB_no (fun h => h.1 hn)
        have hpos : ¬ (0 : Int) < (bl.length : Int) := by simp [hn]
        have HNi := Lib.hid hn
        clear hn
        go_wp2_with fail
        go_ret
        exact ⟨by rw [HF.out]; exact ret_bool (by simp [HNi.out]), HB.out.1⟩
      · have HF : Hid (blkB t f bl = true) := blkB_yes ⟨hn, HTo.out⟩
        have hpos : (0 : Int) < (bl.length : Int) := by have := List.length_pos_iff.2 hn; omega
        have HNi := Lib.hid (List.length_pos_iff.2 hn)
        clear hn
        go_wp2_with fail
        go_ret
        exact ⟨by rw [HF.out]; exact ret_bool (by simpa using HNi.out), HB.out.1⟩
end Go.Proofs.Ytehpeifaknbcnaa
