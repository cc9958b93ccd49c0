import Derived.Test.YtehpeifaknbcnaaValidBlocksS
import Derived.Test.YtehpeifaknbcnaaDeadP
namespace Go.Proofs.Ytehpeifaknbcnaa
open Go.RowKit
set_option linter.unusedVariables false
set_option linter.unusedSimpArgs false

theorem tripFnd_any (tv : Value) (t : TTD) (id : Int) (w : World) (hr : TTAt w tv t) (hg : TTGood t) (hf : foundT t id = true) :
    Calls Try.prog 62 #[tv, .int .i64 id] w fun e w' => e = .returned (.tuple #[tripV (tripOf t id), .bool true]) ∧ Below w.heap.size w w' := by
  have h := tripWith_any tv t id w hr hg
  rw [hf] at h
  simpa using h

set_option maxRecDepth 100000 in
set_option maxHeartbeats 8000000 in
theorem deadOf_any (tv fv bv : Value) (t : TTD) (f : FleetD) (bs : List (List Int)) (w : World) (hr : TTAt w tv t) (hg : FleetAt w fv f) (hA : AskedGood t f) (hb : GrpsAt w bv bs) (hbs : GrpsSmall bs) (hfn : AllFnd t bs) :
    Calls Try.prog 78 #[tv, fv, bv] w fun e w' => e = .returned (.int .i64 (deadAll t f bs)) ∧ Below w.heap.size w w' := by
  have HT := Lib.hid (fun id (h1 : foundT t id = true) W (h : Below w.heap.size w W) => tripFnd_any tv t id W (hr.below rfl h) hA.1 h1)
  obtain ⟨c0, d0, c1, d1, c2, d2, rfl, hn, -⟩ := tt_open hr
  have HDG := Lib.hid (fun (x y : TripD) (h1 : 0 ≤ x.line ∧ x.line < (t.net.lines.length : Int)) (h2 : 0 ≤ y.line ∧ y.line < (t.net.lines.length : Int)) W (h : Below w.heap.size w W) => deadBetween_any _ fv t.net f x y W (hn.below rfl h) (hg.below rfl h) hA.2 h1 h2)
  have HGr := Lib.hid hb
  have HG := Lib.hid hA
  have HFn := Lib.hid hfn
  have hsz := hbs.1
  have HSb : Hid (∀ i, i ≤ bs.length → 0 ≤ deadS t f bs i ∧ deadS t f bs i ≤ 125829120) := fun i hi => by
    have h1 := deadS_in hA.1 hA.2 hfn i hi
    have h2 := preL_le (xss := bs) hi
    have := hbs.2
    omega
  have HSm : Hid (∀ i (h : i < bs.length), bs[i].length ≤ 1048576) := fun i h => by
    have e1 := preL_succ h
    have e2 := preL_le (xss := bs) (i := i + 1) (by omega)
    have := hbs.2
    omega
  have HTb : Hid (∀ i (h : i < bs.length) k, k ≤ bs[i].length → 0 ≤ deadTo t f bs[i] k ∧ deadTo t f bs[i] k ≤ 125829120) := fun i h k hk => by
    have h1 := deadTo_in hA.1 hA.2 (hfn i h).2 k hk
    have e1 := preL_succ h
    have e2 := preL_le (xss := bs) (i := i + 1) (by omega)
    have := hbs.2
    omega
  obtain ⟨fa, fc, rfl, -⟩ := fleet_open hg
  obtain ⟨ba, bc, rfl⟩ := IntSS_open hb
  clear hr hg hb hbs hA hn hfn
  go_enter Try.func78, Try.ntmps78
  go_wp2_with fail
  go_loopw [7, 17] (fun dv q wr => ∃ i : Nat, i ≤ bs.length ∧ q = .int .i64 i ∧ dv = .int .i64 (deadS t f bs i) ∧ wr.cell? ⟨w.heap.size, 0, none⟩ = some (.slice c0 t.net.stops.length d0) ∧ wr.cell? ⟨w.heap.size, 1, none⟩ = some (.slice c1 t.net.lines.length d1) ∧ wr.cell? ⟨w.heap.size, 2, none⟩ = some (.slice c2 t.trips.length d2) ∧ wr.cell? ⟨w.heap.size + 1, 0, none⟩ = some (.slice fa f.dead.length fc) ∧ wr.cell? ⟨w.heap.size + 1, 1, none⟩ = some (.int .i64 f.turn) ∧ Hid (Below w.heap.size w wr ∧ w.heap.size + 2 ≤ wr.heap.size))
    (fun _ q _ => bs.length - (RowKit.intOf q).toNat)
  case atStart => exact ⟨0, Nat.zero_le _, rfl, rfl, by go_simp, by go_simp, by go_simp, by go_simp, by go_simp, ((Below.refl _ _).alloc (Nat.le_refl _) _).alloc (by simp) _, by simp⟩
  case round =>
    obtain ⟨i, hi, rfl, rfl, p0, p1, p2, q0, q1, HB⟩ := hrel
    by_cases hlt : i < bs.length
    · obtain ⟨vb, vo, rfl, hC⟩ := grp_cells HGr.out (by omega)
      have hpos := (HFn.out i hlt).1
      obtain ⟨pb, po, pc, hy⟩ := (hC i hlt).2 hpos
      have HY := Lib.hid hy
      obtain ⟨y, -⟩ := hy _ HB.out.1
      have hi1 : (i : Int) < (bs.length : Int) := by omega
      have hrs := HSm.out i hlt
      have hsb := HSb.out i hi
      have HSs := Lib.hid (deadS_succ (t := t) (f := f) hlt)
      generalize hD : deadS t f bs i = Di at *
      clear hD hy hC
      go_wp2_with fail
      go_loopw [7, 10] (fun dv q wr2 => ∃ m : Nat, m + 1 ≤ bs[i].length ∧ q = .int .i64 ((m + 1 : Nat) : Int) ∧ dv = .int .i64 (Di + deadTo t f bs[i] (m + 1)) ∧ wr2.cell? ⟨w.heap.size, 0, none⟩ = some (.slice c0 t.net.stops.length d0) ∧ wr2.cell? ⟨w.heap.size, 1, none⟩ = some (.slice c1 t.net.lines.length d1) ∧ wr2.cell? ⟨w.heap.size, 2, none⟩ = some (.slice c2 t.trips.length d2) ∧ wr2.cell? ⟨w.heap.size + 1, 0, none⟩ = some (.slice fa f.dead.length fc) ∧ wr2.cell? ⟨w.heap.size + 1, 1, none⟩ = some (.int .i64 f.turn) ∧ Hid (Below w.heap.size w wr2 ∧ w.heap.size + 2 ≤ wr2.heap.size))
        (fun _ q _ => bs[i].length - (RowKit.intOf q).toNat)
      case atStart => exact ⟨0, by omega, rfl, by rw [deadTo_one]; simp, p0, p1, p2, q0, q1, HB⟩
      case round =>
        clear p0 p1 p2 q0 q1 HB y
        obtain ⟨m, hm, rfl, rfl, p0, p1, p2, q0, q1, HB⟩ := hrel
        have htb := HTb.out i hlt (m + 1) hm
        by_cases hml : m + 1 < bs[i].length
        · have zP := (HY.out _ HB.out.1).2 m (by omega)
          have zK := (HY.out _ HB.out.1).2 (m + 1) hml
          have htb2 := HTb.out i hlt (m + 2) (by omega)
          have hk1 : ((m + 1 : Nat) : Int) < (bs[i].length : Int) := by omega
          have hk5 : (m : Int) + 1 < (bs[i].length : Int) := by omega
          have hk6 : (0 : Int) ≤ (m : Int) + 1 := by omega
          have htn : ((m : Int) + 1).toNat = m + 1 := by omega
          have hwm : IntKind.i64.wrap (m : Int) = (m : Int) := IntWalk.i64_in _ (by omega)
          have hkm : ((m + 1 : Nat) : Int) - 1 = (m : Int) := by omega
          have hm1 : (m : Int) < (bs[i].length : Int) := by omega
          have hs := deadTo_succ (t := t) (f := f) hml
          rw [hs] at htb2
          have hf1 := (HFn.out i hlt).2 m (by omega)
          have hf2 := (HFn.out i hlt).2 (m + 1) hml
          have HSum : Hid (Di + deadTo t f bs[i] (m + 1 + 1) = Di + deadTo t f bs[i] (m + 1) + deadF t.net f (tripOf t (bs[i][m]'(by omega))) (tripOf t bs[i][m + 1])) := by show _ = _; rw [hs]; omega
          have HT1 := Lib.hid (HT.out _ hf1)
          have HT2 := Lib.hid (HT.out _ hf2)
          have HD := Lib.hid (HDG.out (tripOf t (bs[i][m]'(by omega))) (tripOf t bs[i][m + 1]) (line_in HG.out.1 hf1) (line_in HG.out.1 hf2))
          clear hs hf1 hf2
          generalize (bs[i][m]'(by omega)) = idp at *
          generalize bs[i][m + 1] = id at *
          generalize hde : deadF t.net f (tripOf t idp) (tripOf t id) = D at *
          clear hde
          generalize tripOf t idp = x at *
          generalize tripOf t id = y at *
          obtain ⟨xi, xl, xs⟩ := x
          obtain ⟨yi, yl, ys⟩ := y
          unfold tripV at HT1 HT2 HD
          simp only at HT1 HT2 HD
          go_upto_region 8 with fail
          refine wp_region_held_drew (S := (fun w' => w'.cell? ⟨w.heap.size, 0, none⟩ = some (.slice c0 t.net.stops.length d0) ∧ w'.cell? ⟨w.heap.size, 1, none⟩ = some (.slice c1 t.net.lines.length d1) ∧ w'.cell? ⟨w.heap.size, 2, none⟩ = some (.slice c2 t.trips.length d2) ∧ w'.cell? ⟨w.heap.size + 1, 0, none⟩ = some (.slice fa f.dead.length fc) ∧ w'.cell? ⟨w.heap.size + 1, 1, none⟩ = some (.int .i64 f.turn) ∧ w'.cell? ⟨pb, po + m, none⟩ = some (.int .i64 idp) ∧ w'.cell? ⟨pb, po + (m + 1), none⟩ = some (.int .i64 id))) (by kernel_rfl) ?_ (fun hHeld => ?_)
          · exact ⟨p0, p1, p2, q0, q1, zP, zK⟩
          refine wpAnyH_take (i := 0) (v := ?_) (by simp only [List.getElem?_toArray, List.getElem?_cons_zero]; rfl) (by kernel_rfl) (by kernel_rfl) (by kernel_rfl) (by exact fun _ _ _ h => h) (Or.inl ⟨by rfl, ?_⟩) (by assumption) ?_
          rotate_left
          · intro w' hSw; obtain ⟨e0, e1, e2, e3, e4, e5, e6⟩ := hSw
            go_simp; try with_reducible rfl
          try simp only [Act.put, List.setIfInBounds_toArray, List.set_cons_zero, List.set_cons_succ]
          refine wpAnyH_take (i := 1) (v := ?_) (by simp only [List.getElem?_toArray, List.getElem?_cons_succ, List.getElem?_cons_zero]; rfl) (by kernel_rfl) (by kernel_rfl) (by kernel_rfl) (by exact fun _ _ _ h => h) (Or.inl ⟨by rfl, ?_⟩) (by assumption) ?_
          rotate_left
          · intro w' hSw; obtain ⟨e0, e1, e2, e3, e4, e5, e6⟩ := hSw
            go_simp; try with_reducible rfl
          try simp only [Act.put, List.setIfInBounds_toArray, List.set_cons_zero, List.set_cons_succ]
          refine wpAnyH_take (i := 2) (v := ?_) (by simp only [List.getElem?_toArray, List.getElem?_cons_succ, List.getElem?_cons_zero]; rfl) (by kernel_rfl) (by kernel_rfl) (by kernel_rfl) (by exact fun _ _ _ h => h) (Or.inl ⟨by rfl, ?_⟩) (by assumption) ?_
          rotate_left
          · intro w' hSw; obtain ⟨e0, e1, e2, e3, e4, e5, e6⟩ := hSw
            go_simp; try with_reducible rfl
          try simp only [Act.put, List.setIfInBounds_toArray, List.set_cons_zero, List.set_cons_succ]
          refine wpAnyH_take (i := 3) (v := ?_) (by simp only [List.getElem?_toArray, List.getElem?_cons_succ, List.getElem?_cons_zero]; rfl) (by kernel_rfl) (by kernel_rfl) (by kernel_rfl) (by exact fun _ _ _ h => h) (Or.inl ⟨by rfl, ?_⟩) (by assumption) ?_
          rotate_left
          · intro w' hSw; obtain ⟨e0, e1, e2, e3, e4, e5, e6⟩ := hSw
            go_simp; try with_reducible rfl
          try simp only [Act.put, List.setIfInBounds_toArray, List.set_cons_zero, List.set_cons_succ]
          refine wpAnyH_take (i := 4) (v := ?_) (by simp only [List.getElem?_toArray, List.getElem?_cons_succ, List.getElem?_cons_zero]; rfl) (by kernel_rfl) (by kernel_rfl) (by kernel_rfl) (by exact fun _ _ _ h => h) (Or.inl ⟨by rfl, ?_⟩) (by assumption) ?_
          rotate_left
          · intro w' hSw; obtain ⟨e0, e1, e2, e3, e4, e5, e6⟩ := hSw
            go_simp; try with_reducible rfl
          try simp only [Act.put, List.setIfInBounds_toArray, List.set_cons_zero, List.set_cons_succ]
          refine wpAnyH_take (i := 5) (v := ?_) (by simp only [List.getElem?_toArray, List.getElem?_cons_succ, List.getElem?_cons_zero]; rfl) (by kernel_rfl) (by kernel_rfl) (by kernel_rfl) (by exact fun _ _ _ h => h) (Or.inl ⟨by rfl, ?_⟩) (by assumption) ?_
          rotate_left
          · intro w' hSw; obtain ⟨e0, e1, e2, e3, e4, e5, e6⟩ := hSw
            go_simp; try with_reducible rfl
          try simp only [Act.put, List.setIfInBounds_toArray, List.set_cons_zero, List.set_cons_succ]
          refine wpAnyH_ready (rs := [6, 10]) (by kernel_rfl) (by simp) ?_
          refine AllReadyH.cons (by simp only [List.getElem?_toArray, List.getElem?_cons_succ, List.getElem?_cons_zero]; rfl) (fun K hK => ?_) (AllReadyH.cons (by simp only [List.getElem?_toArray, List.getElem?_cons_succ, List.getElem?_cons_zero]; rfl) (fun K hK => ?_) AllReadyH.nil)
          · go_simp
            go_at_call 62
            refine (HT1.out _ (HB.out.1.drew)).mono ?_
            rintro e wua ⟨rfl, hb⟩
            have rbw : Below wr.heap.size wr wua := (Below.refl _ _).drew.trans hb
            have hS2 : wua.cell? ⟨w.heap.size, 0, none⟩ = some (.slice c0 t.net.stops.length d0) ∧ wua.cell? ⟨w.heap.size, 1, none⟩ = some (.slice c1 t.net.lines.length d1) ∧ wua.cell? ⟨w.heap.size, 2, none⟩ = some (.slice c2 t.trips.length d2) ∧ wua.cell? ⟨w.heap.size + 1, 0, none⟩ = some (.slice fa f.dead.length fc) ∧ wua.cell? ⟨w.heap.size + 1, 1, none⟩ = some (.int .i64 f.turn) ∧ wua.cell? ⟨pb, po + m, none⟩ = some (.int .i64 idp) ∧ wua.cell? ⟨pb, po + (m + 1), none⟩ = some (.int .i64 id) := ⟨bkeep rbw p0, bkeep rbw p1, bkeep rbw p2, bkeep rbw q0, bkeep rbw q1, bkeep rbw zP, bkeep rbw zK⟩
            have HBu1 : Hid (Below w.heap.size w wua ∧ w.heap.size + 2 ≤ wua.heap.size) := ⟨HB.out.1.trans (rbw.mono HB.out.1.size), Nat.le_trans HB.out.2 rbw.size⟩
            clear hb rbw
            go_wp2_with fail
            refine hK.out _ _ hS2 (fun hH6 => ?_)
            obtain ⟨p0, p1, p2, q0, q1, zP, zK⟩ := hS2
            clear hK K
            try simp only [Act.put, List.setIfInBounds_toArray, List.set_cons_zero, List.set_cons_succ]
            refine wpAnyH_take (i := 7) (v := ?_) (by simp only [List.getElem?_toArray, List.getElem?_cons_succ, List.getElem?_cons_zero]; rfl) (by kernel_rfl) (by kernel_rfl) (by kernel_rfl) (by exact fun _ _ _ h => h) (Or.inl ⟨by rfl, ?_⟩) (by assumption) ?_
            rotate_left
            · intro w' hSw; obtain ⟨e0, e1, e2, e3, e4, e5, e6⟩ := hSw
              go_simp; try with_reducible rfl
            try simp only [Act.put, List.setIfInBounds_toArray, List.set_cons_zero, List.set_cons_succ]
            refine wpAnyH_take (i := 8) (v := ?_) (by simp only [List.getElem?_toArray, List.getElem?_cons_succ, List.getElem?_cons_zero]; rfl) (by kernel_rfl) (by kernel_rfl) (by kernel_rfl) (by exact fun _ _ _ h => h) (Or.inl ⟨by rfl, ?_⟩) (by assumption) ?_
            rotate_left
            · intro w' hSw; obtain ⟨e0, e1, e2, e3, e4, e5, e6⟩ := hSw
              go_simp; try with_reducible rfl
            try simp only [Act.put, List.setIfInBounds_toArray, List.set_cons_zero, List.set_cons_succ]
            refine wpAnyH_take (i := 9) (v := ?_) (by simp only [List.getElem?_toArray, List.getElem?_cons_succ, List.getElem?_cons_zero]; rfl) (by kernel_rfl) (by kernel_rfl) (by kernel_rfl) (by exact fun _ _ _ h => h) (Or.inl ⟨by rfl, ?_⟩) (by assumption) ?_
            rotate_left
            · intro w' hSw; obtain ⟨e0, e1, e2, e3, e4, e5, e6⟩ := hSw
              go_simp; try with_reducible rfl
            try simp only [Act.put, List.setIfInBounds_toArray, List.set_cons_zero, List.set_cons_succ]
            refine wpAnyH_ready (rs := [10]) (by kernel_rfl) (by simp) ?_
            refine AllReadyH.cons (by simp only [List.getElem?_toArray, List.getElem?_cons_succ, List.getElem?_cons_zero]; rfl) (fun K hK => ?_) AllReadyH.nil
            go_simp
            obtain ⟨wub, hwA⟩ : ∃ wA : World, wA = (World.alloc wua (.cells #[.int .i64 0, .int .i64 0, .int .i64 0] 89)) := ⟨_, rfl⟩
            have rbw : Below wua.heap.size wua wub := by rw [hwA]; exact ((Below.refl _ _).alloc (Nat.le_refl _) _)
            have hS2 : wub.cell? ⟨w.heap.size, 0, none⟩ = some (.slice c0 t.net.stops.length d0) ∧ wub.cell? ⟨w.heap.size, 1, none⟩ = some (.slice c1 t.net.lines.length d1) ∧ wub.cell? ⟨w.heap.size, 2, none⟩ = some (.slice c2 t.trips.length d2) ∧ wub.cell? ⟨w.heap.size + 1, 0, none⟩ = some (.slice fa f.dead.length fc) ∧ wub.cell? ⟨w.heap.size + 1, 1, none⟩ = some (.int .i64 f.turn) ∧ wub.cell? ⟨pb, po + m, none⟩ = some (.int .i64 idp) ∧ wub.cell? ⟨pb, po + (m + 1), none⟩ = some (.int .i64 id) := ⟨bkeep rbw p0, bkeep rbw p1, bkeep rbw p2, bkeep rbw q0, bkeep rbw q1, bkeep rbw zP, bkeep rbw zK⟩
            have HBu2 : Hid (Below w.heap.size w wub ∧ w.heap.size + 2 ≤ wub.heap.size) := ⟨HBu1.out.1.trans (rbw.mono HBu1.out.1.size), Nat.le_trans HBu1.out.2 rbw.size⟩
            obtain ⟨bA, hbA⟩ : ∃ b, wua.heap.size = b := ⟨_, rfl⟩
            have HBxbA : Hid (TripBox wub bA ⟨0, 0, 0⟩) := by rw [hwA, ← hbA]; exact ⟨by show World.cell? (World.alloc wua _) _ = _; go_simp, by show World.cell? (World.alloc wua _) _ = _; go_simp, by show World.cell? (World.alloc wua _) _ = _; go_simp, fun o => by show World.frozen? (World.alloc wua _) _ = _; go_simp⟩
            have hPBbA : pb < bA := by rw [← hbA]; exact World.block_lt_of_cell? _ _ zP
            have HLbA : Hid (w.heap.size + 2 ≤ bA) := by show _ ≤ _; have := HBu1.out.2; omega
            rw [← hwA]
            rw [hbA]
            clear rbw hwA
            refine hK.out _ _ hS2 (fun hH10 => ?_)
            obtain ⟨p0, p1, p2, q0, q1, zP, zK⟩ := hS2
            clear hK K
            try simp only [Act.put, List.setIfInBounds_toArray, List.set_cons_zero, List.set_cons_succ]
            refine wpAnyH_ready (rs := [11]) (by kernel_rfl) (by simp) ?_
            refine AllReadyH.cons (by simp only [List.getElem?_toArray, List.getElem?_cons_succ, List.getElem?_cons_zero]; rfl) (fun K hK => ?_) AllReadyH.nil
            have hb0 := HBxbA.out.c0
            have hb1 := HBxbA.out.c1
            have hb2 := HBxbA.out.c2
            have hbf := HBxbA.out.fz
            have hbl := HLbA.out
            go_simp
            obtain ⟨wuc, hwA⟩ : ∃ wA : World, wA = (((World.setCell wub ⟨bA, 0, none⟩ (.int .i64 xi)).setCell ⟨bA, 1, none⟩ (.int .i64 xl)).setCell ⟨bA, 2, none⟩ (.int .i64 xs)) := ⟨_, rfl⟩
            have hS2 : wuc.cell? ⟨w.heap.size, 0, none⟩ = some (.slice c0 t.net.stops.length d0) ∧ wuc.cell? ⟨w.heap.size, 1, none⟩ = some (.slice c1 t.net.lines.length d1) ∧ wuc.cell? ⟨w.heap.size, 2, none⟩ = some (.slice c2 t.trips.length d2) ∧ wuc.cell? ⟨w.heap.size + 1, 0, none⟩ = some (.slice fa f.dead.length fc) ∧ wuc.cell? ⟨w.heap.size + 1, 1, none⟩ = some (.int .i64 f.turn) ∧ wuc.cell? ⟨pb, po + m, none⟩ = some (.int .i64 idp) ∧ wuc.cell? ⟨pb, po + (m + 1), none⟩ = some (.int .i64 id) := by rw [hwA]; exact ⟨(set3_cell (by dsimp only; omega)).trans p0, (set3_cell (by dsimp only; omega)).trans p1, (set3_cell (by dsimp only; omega)).trans p2, (set3_cell (by dsimp only; omega)).trans q0, (set3_cell (by dsimp only; omega)).trans q1, (set3_cell (by dsimp only; omega)).trans zP, (set3_cell (by dsimp only; omega)).trans zK⟩
            have HBxbAc : Hid (TripBox wuc bA ⟨xi, xl, xs⟩) := by rw [hwA]; exact HBxbA.out.set _ _ _
            have HBu3 : Hid (Below w.heap.size w wuc ∧ w.heap.size + 2 ≤ wuc.heap.size) := by rw [hwA]; exact ⟨((HBu2.out.1.setCell (p := ⟨bA, 0, none⟩) (by dsimp only; omega) _).setCell (p := ⟨bA, 1, none⟩) (by dsimp only; omega) _).setCell (p := ⟨bA, 2, none⟩) (by dsimp only; omega) _, by simpa [World.setCell] using HBu2.out.2⟩
            rw [← hwA]
            clear hwA hb0 hb1 hb2 hbf
            refine hK.out _ _ hS2 (fun hH11 => ?_)
            obtain ⟨p0, p1, p2, q0, q1, zP, zK⟩ := hS2
            clear HBxbA HBu2
            clear hK K
            try simp only [Act.put, List.setIfInBounds_toArray, List.set_cons_zero, List.set_cons_succ]
            refine wpAnyH_take (i := 12) (v := ?_) (by simp only [List.getElem?_toArray, List.getElem?_cons_succ, List.getElem?_cons_zero]; rfl) (by kernel_rfl) (by kernel_rfl) (by kernel_rfl) (by exact fun _ _ _ h => h) (Or.inl ⟨by rfl, ?_⟩) (by assumption) ?_
            rotate_left
            · intro w' hSw; obtain ⟨e0, e1, e2, e3, e4, e5, e6⟩ := hSw
              go_simp; try with_reducible rfl
            try simp only [Act.put, List.setIfInBounds_toArray, List.set_cons_zero, List.set_cons_succ]
            refine wpAnyH_done (by kernel_rfl) ?_ _
            have x0 := HBxbAc.out.c0
            have x1 := HBxbAc.out.c1
            have x2 := HBxbAc.out.c2
            simp only at x0 x1 x2
            have hbA2 := HLbA.out
            clear HBxbAc
            go_upto_region 9 with fail
            refine wp_region_held_drew (S := (fun w' => w'.cell? ⟨w.heap.size, 0, none⟩ = some (.slice c0 t.net.stops.length d0) ∧ w'.cell? ⟨w.heap.size, 1, none⟩ = some (.slice c1 t.net.lines.length d1) ∧ w'.cell? ⟨w.heap.size, 2, none⟩ = some (.slice c2 t.trips.length d2) ∧ w'.cell? ⟨w.heap.size + 1, 0, none⟩ = some (.slice fa f.dead.length fc) ∧ w'.cell? ⟨w.heap.size + 1, 1, none⟩ = some (.int .i64 f.turn) ∧ w'.cell? ⟨pb, po + m, none⟩ = some (.int .i64 idp) ∧ w'.cell? ⟨pb, po + (m + 1), none⟩ = some (.int .i64 id) ∧ w'.cell? ⟨bA, 0, none⟩ = some (.int .i64 xi) ∧ w'.cell? ⟨bA, 1, none⟩ = some (.int .i64 xl) ∧ w'.cell? ⟨bA, 2, none⟩ = some (.int .i64 xs))) (by kernel_rfl) ?_ (fun hHeld => ?_)
            · exact ⟨p0, p1, p2, q0, q1, zP, zK, x0, x1, x2⟩
            refine wpAnyH_take (i := 0) (v := ?_) (by simp only [List.getElem?_toArray, List.getElem?_cons_zero]; rfl) (by kernel_rfl) (by kernel_rfl) (by kernel_rfl) (by exact fun _ _ _ h => h) (Or.inl ⟨by rfl, ?_⟩) (by assumption) ?_
            rotate_left
            · intro w' hSw; obtain ⟨e0, e1, e2, e3, e4, e5, e6, e7, e8, e9⟩ := hSw
              go_simp; try with_reducible rfl
            try simp only [Act.put, List.setIfInBounds_toArray, List.set_cons_zero, List.set_cons_succ]
            refine wpAnyH_take (i := 1) (v := ?_) (by simp only [List.getElem?_toArray, List.getElem?_cons_succ, List.getElem?_cons_zero]; rfl) (by kernel_rfl) (by kernel_rfl) (by kernel_rfl) (by exact fun _ _ _ h => h) (Or.inl ⟨by rfl, ?_⟩) (by assumption) ?_
            rotate_left
            · intro w' hSw; obtain ⟨e0, e1, e2, e3, e4, e5, e6, e7, e8, e9⟩ := hSw
              go_simp; try with_reducible rfl
            try simp only [Act.put, List.setIfInBounds_toArray, List.set_cons_zero, List.set_cons_succ]
            refine wpAnyH_take (i := 2) (v := ?_) (by simp only [List.getElem?_toArray, List.getElem?_cons_succ, List.getElem?_cons_zero]; rfl) (by kernel_rfl) (by kernel_rfl) (by kernel_rfl) (by exact fun _ _ _ h => h) (Or.inl ⟨by rfl, ?_⟩) (by assumption) ?_
            rotate_left
            · intro w' hSw; obtain ⟨e0, e1, e2, e3, e4, e5, e6, e7, e8, e9⟩ := hSw
              go_simp; try with_reducible rfl
            try simp only [Act.put, List.setIfInBounds_toArray, List.set_cons_zero, List.set_cons_succ]
            refine wpAnyH_take (i := 3) (v := ?_) (by simp only [List.getElem?_toArray, List.getElem?_cons_succ, List.getElem?_cons_zero]; rfl) (by kernel_rfl) (by kernel_rfl) (by kernel_rfl) (by exact fun _ _ _ h => h) (Or.inl ⟨by rfl, ?_⟩) (by assumption) ?_
            rotate_left
            · intro w' hSw; obtain ⟨e0, e1, e2, e3, e4, e5, e6, e7, e8, e9⟩ := hSw
              go_simp; try with_reducible rfl
            try simp only [Act.put, List.setIfInBounds_toArray, List.set_cons_zero, List.set_cons_succ]
            refine wpAnyH_take (i := 4) (v := ?_) (by simp only [List.getElem?_toArray, List.getElem?_cons_succ, List.getElem?_cons_zero]; rfl) (by kernel_rfl) (by kernel_rfl) (by kernel_rfl) (by exact fun _ _ _ h => h) (Or.inl ⟨by rfl, ?_⟩) (by assumption) ?_
            rotate_left
            · intro w' hSw; obtain ⟨e0, e1, e2, e3, e4, e5, e6, e7, e8, e9⟩ := hSw
              go_simp; try with_reducible rfl
            try simp only [Act.put, List.setIfInBounds_toArray, List.set_cons_zero, List.set_cons_succ]
            refine wpAnyH_ready (rs := [5, 9]) (by kernel_rfl) (by simp) ?_
            refine AllReadyH.cons (by simp only [List.getElem?_toArray, List.getElem?_cons_succ, List.getElem?_cons_zero]; rfl) (fun K hK => ?_) (AllReadyH.cons (by simp only [List.getElem?_toArray, List.getElem?_cons_succ, List.getElem?_cons_zero]; rfl) (fun K hK => ?_) AllReadyH.nil)
            · go_simp
              go_at_call 62
              refine (HT2.out _ (HBu3.out.1.drew)).mono ?_
              rintro e wva ⟨rfl, hb⟩
              have rbw : Below wuc.heap.size wuc wva := (Below.refl _ _).drew.trans hb
              have hS2 : wva.cell? ⟨w.heap.size, 0, none⟩ = some (.slice c0 t.net.stops.length d0) ∧ wva.cell? ⟨w.heap.size, 1, none⟩ = some (.slice c1 t.net.lines.length d1) ∧ wva.cell? ⟨w.heap.size, 2, none⟩ = some (.slice c2 t.trips.length d2) ∧ wva.cell? ⟨w.heap.size + 1, 0, none⟩ = some (.slice fa f.dead.length fc) ∧ wva.cell? ⟨w.heap.size + 1, 1, none⟩ = some (.int .i64 f.turn) ∧ wva.cell? ⟨pb, po + m, none⟩ = some (.int .i64 idp) ∧ wva.cell? ⟨pb, po + (m + 1), none⟩ = some (.int .i64 id) ∧ wva.cell? ⟨bA, 0, none⟩ = some (.int .i64 xi) ∧ wva.cell? ⟨bA, 1, none⟩ = some (.int .i64 xl) ∧ wva.cell? ⟨bA, 2, none⟩ = some (.int .i64 xs) := ⟨bkeep rbw p0, bkeep rbw p1, bkeep rbw p2, bkeep rbw q0, bkeep rbw q1, bkeep rbw zP, bkeep rbw zK, bkeep rbw x0, bkeep rbw x1, bkeep rbw x2⟩
              have HBv1 : Hid (Below w.heap.size w wva ∧ w.heap.size + 2 ≤ wva.heap.size) := ⟨HBu3.out.1.trans (rbw.mono HBu3.out.1.size), Nat.le_trans HBu3.out.2 rbw.size⟩
              clear hb rbw
              go_wp2_with fail
              refine hK.out _ _ hS2 (fun hH5 => ?_)
              obtain ⟨p0, p1, p2, q0, q1, zP, zK, x0, x1, x2⟩ := hS2
              clear hK K
              try simp only [Act.put, List.setIfInBounds_toArray, List.set_cons_zero, List.set_cons_succ]
              refine wpAnyH_take (i := 6) (v := ?_) (by simp only [List.getElem?_toArray, List.getElem?_cons_succ, List.getElem?_cons_zero]; rfl) (by kernel_rfl) (by kernel_rfl) (by kernel_rfl) (by exact fun _ _ _ h => h) (Or.inl ⟨by rfl, ?_⟩) (by assumption) ?_
              rotate_left
              · intro w' hSw; obtain ⟨e0, e1, e2, e3, e4, e5, e6, e7, e8, e9⟩ := hSw
                go_simp; try with_reducible rfl
              try simp only [Act.put, List.setIfInBounds_toArray, List.set_cons_zero, List.set_cons_succ]
              refine wpAnyH_take (i := 7) (v := ?_) (by simp only [List.getElem?_toArray, List.getElem?_cons_succ, List.getElem?_cons_zero]; rfl) (by kernel_rfl) (by kernel_rfl) (by kernel_rfl) (by exact fun _ _ _ h => h) (Or.inl ⟨by rfl, ?_⟩) (by assumption) ?_
              rotate_left
              · intro w' hSw; obtain ⟨e0, e1, e2, e3, e4, e5, e6, e7, e8, e9⟩ := hSw
                go_simp; try with_reducible rfl
              try simp only [Act.put, List.setIfInBounds_toArray, List.set_cons_zero, List.set_cons_succ]
              refine wpAnyH_take (i := 8) (v := ?_) (by simp only [List.getElem?_toArray, List.getElem?_cons_succ, List.getElem?_cons_zero]; rfl) (by kernel_rfl) (by kernel_rfl) (by kernel_rfl) (by exact fun _ _ _ h => h) (Or.inl ⟨by rfl, ?_⟩) (by assumption) ?_
              rotate_left
              · intro w' hSw; obtain ⟨e0, e1, e2, e3, e4, e5, e6, e7, e8, e9⟩ := hSw
                go_simp; try with_reducible rfl
              try simp only [Act.put, List.setIfInBounds_toArray, List.set_cons_zero, List.set_cons_succ]
              refine wpAnyH_ready (rs := [9]) (by kernel_rfl) (by simp) ?_
              refine AllReadyH.cons (by simp only [List.getElem?_toArray, List.getElem?_cons_succ, List.getElem?_cons_zero]; rfl) (fun K hK => ?_) AllReadyH.nil
              go_simp
              obtain ⟨wvb, hwA⟩ : ∃ wA : World, wA = (World.alloc wva (.cells #[.int .i64 0, .int .i64 0, .int .i64 0] 89)) := ⟨_, rfl⟩
              have rbw : Below wva.heap.size wva wvb := by rw [hwA]; exact ((Below.refl _ _).alloc (Nat.le_refl _) _)
              have hS2 : wvb.cell? ⟨w.heap.size, 0, none⟩ = some (.slice c0 t.net.stops.length d0) ∧ wvb.cell? ⟨w.heap.size, 1, none⟩ = some (.slice c1 t.net.lines.length d1) ∧ wvb.cell? ⟨w.heap.size, 2, none⟩ = some (.slice c2 t.trips.length d2) ∧ wvb.cell? ⟨w.heap.size + 1, 0, none⟩ = some (.slice fa f.dead.length fc) ∧ wvb.cell? ⟨w.heap.size + 1, 1, none⟩ = some (.int .i64 f.turn) ∧ wvb.cell? ⟨pb, po + m, none⟩ = some (.int .i64 idp) ∧ wvb.cell? ⟨pb, po + (m + 1), none⟩ = some (.int .i64 id) ∧ wvb.cell? ⟨bA, 0, none⟩ = some (.int .i64 xi) ∧ wvb.cell? ⟨bA, 1, none⟩ = some (.int .i64 xl) ∧ wvb.cell? ⟨bA, 2, none⟩ = some (.int .i64 xs) := ⟨bkeep rbw p0, bkeep rbw p1, bkeep rbw p2, bkeep rbw q0, bkeep rbw q1, bkeep rbw zP, bkeep rbw zK, bkeep rbw x0, bkeep rbw x1, bkeep rbw x2⟩
              have HBv2 : Hid (Below w.heap.size w wvb ∧ w.heap.size + 2 ≤ wvb.heap.size) := ⟨HBv1.out.1.trans (rbw.mono HBv1.out.1.size), Nat.le_trans HBv1.out.2 rbw.size⟩
              obtain ⟨bB, hbB⟩ : ∃ b, wva.heap.size = b := ⟨_, rfl⟩
              have HBxbB : Hid (TripBox wvb bB ⟨0, 0, 0⟩) := by rw [hwA, ← hbB]; exact ⟨by show World.cell? (World.alloc wva _) _ = _; go_simp, by show World.cell? (World.alloc wva _) _ = _; go_simp, by show World.cell? (World.alloc wva _) _ = _; go_simp, fun o => by show World.frozen? (World.alloc wva _) _ = _; go_simp⟩
              have hPBbB : pb < bB := by rw [← hbB]; exact World.block_lt_of_cell? _ _ zP
              have HLbB : Hid (w.heap.size + 2 ≤ bB) := by show _ ≤ _; have := HBv1.out.2; omega
              have hAB : bA < bB := by rw [← hbB]; exact World.block_lt_of_cell? _ _ x0
              rw [← hwA]
              rw [hbB]
              clear rbw hwA
              refine hK.out _ _ hS2 (fun hH9 => ?_)
              obtain ⟨p0, p1, p2, q0, q1, zP, zK, x0, x1, x2⟩ := hS2
              clear hK K
              try simp only [Act.put, List.setIfInBounds_toArray, List.set_cons_zero, List.set_cons_succ]
              refine wpAnyH_ready (rs := [10]) (by kernel_rfl) (by simp) ?_
              refine AllReadyH.cons (by simp only [List.getElem?_toArray, List.getElem?_cons_succ, List.getElem?_cons_zero]; rfl) (fun K hK => ?_) AllReadyH.nil
              have hb0 := HBxbB.out.c0
              have hb1 := HBxbB.out.c1
              have hb2 := HBxbB.out.c2
              have hbf := HBxbB.out.fz
              have hbl := HLbB.out
              go_simp
              obtain ⟨wvc, hwA⟩ : ∃ wA : World, wA = (((World.setCell wvb ⟨bB, 0, none⟩ (.int .i64 yi)).setCell ⟨bB, 1, none⟩ (.int .i64 yl)).setCell ⟨bB, 2, none⟩ (.int .i64 ys)) := ⟨_, rfl⟩
              have hS2 : wvc.cell? ⟨w.heap.size, 0, none⟩ = some (.slice c0 t.net.stops.length d0) ∧ wvc.cell? ⟨w.heap.size, 1, none⟩ = some (.slice c1 t.net.lines.length d1) ∧ wvc.cell? ⟨w.heap.size, 2, none⟩ = some (.slice c2 t.trips.length d2) ∧ wvc.cell? ⟨w.heap.size + 1, 0, none⟩ = some (.slice fa f.dead.length fc) ∧ wvc.cell? ⟨w.heap.size + 1, 1, none⟩ = some (.int .i64 f.turn) ∧ wvc.cell? ⟨pb, po + m, none⟩ = some (.int .i64 idp) ∧ wvc.cell? ⟨pb, po + (m + 1), none⟩ = some (.int .i64 id) ∧ wvc.cell? ⟨bA, 0, none⟩ = some (.int .i64 xi) ∧ wvc.cell? ⟨bA, 1, none⟩ = some (.int .i64 xl) ∧ wvc.cell? ⟨bA, 2, none⟩ = some (.int .i64 xs) := by rw [hwA]; exact ⟨(set3_cell (by dsimp only; omega)).trans p0, (set3_cell (by dsimp only; omega)).trans p1, (set3_cell (by dsimp only; omega)).trans p2, (set3_cell (by dsimp only; omega)).trans q0, (set3_cell (by dsimp only; omega)).trans q1, (set3_cell (by dsimp only; omega)).trans zP, (set3_cell (by dsimp only; omega)).trans zK, (set3_cell (by dsimp only; omega)).trans x0, (set3_cell (by dsimp only; omega)).trans x1, (set3_cell (by dsimp only; omega)).trans x2⟩
              have HBxbBc : Hid (TripBox wvc bB ⟨yi, yl, ys⟩) := by rw [hwA]; exact HBxbB.out.set _ _ _
              have HBv3 : Hid (Below w.heap.size w wvc ∧ w.heap.size + 2 ≤ wvc.heap.size) := by rw [hwA]; exact ⟨((HBv2.out.1.setCell (p := ⟨bB, 0, none⟩) (by dsimp only; omega) _).setCell (p := ⟨bB, 1, none⟩) (by dsimp only; omega) _).setCell (p := ⟨bB, 2, none⟩) (by dsimp only; omega) _, by simpa [World.setCell] using HBv2.out.2⟩
              rw [← hwA]
              clear hwA hb0 hb1 hb2 hbf
              refine hK.out _ _ hS2 (fun hH10 => ?_)
              obtain ⟨p0, p1, p2, q0, q1, zP, zK, x0, x1, x2⟩ := hS2
              clear HBxbB HBv2
              clear hK K
              try simp only [Act.put, List.setIfInBounds_toArray, List.set_cons_zero, List.set_cons_succ]
              refine wpAnyH_take (i := 11) (v := ?_) (by simp only [List.getElem?_toArray, List.getElem?_cons_succ, List.getElem?_cons_zero]; rfl) (by kernel_rfl) (by kernel_rfl) (by kernel_rfl) (by exact fun _ _ _ h => h) (Or.inl ⟨by rfl, ?_⟩) (by assumption) ?_
              rotate_left
              · intro w' hSw; obtain ⟨e0, e1, e2, e3, e4, e5, e6, e7, e8, e9⟩ := hSw
                go_simp; try with_reducible rfl
              try simp only [Act.put, List.setIfInBounds_toArray, List.set_cons_zero, List.set_cons_succ]
              refine wpAnyH_done (by kernel_rfl) ?_ _
              have y0 := HBxbBc.out.c0
              have y1 := HBxbBc.out.c1
              have y2 := HBxbBc.out.c2
              have HB9 := HBv3
              clear HBxbBc HT1 HT2
              go_wp2_with fail
              go_at_call 100
              refine (HD.out _ HB9.out.1).mono ?_
              rintro e w9 ⟨rfl, hb9⟩
              have HB10 : Hid (Below w.heap.size w w9 ∧ w.heap.size + 2 ≤ w9.heap.size) := ⟨HB9.out.1.trans (hb9.mono HB9.out.1.size), Nat.le_trans HB9.out.2 hb9.size⟩
              have p0 := bkeep hb9 p0
              have p1 := bkeep hb9 p1
              have p2 := bkeep hb9 p2
              have q0 := bkeep hb9 q0
              have q1 := bkeep hb9 q1
              clear hb9 x0 x1 x2 y0 y1 y2 zP zK
              go_wp2_with fail
              go_roundw
              case rel => exact ⟨m + 1, by omega, by go_num, by rw [HSum.out], p0, p1, p2, q0, q1, HB10⟩
              case measure => simp [RowKit.intOf]; omega
            · go_simp
              obtain ⟨wva, hwA⟩ : ∃ wA : World, wA = (World.alloc wuc (.cells #[.int .i64 0, .int .i64 0, .int .i64 0] 89)).drew := ⟨_, rfl⟩
              have rbw : Below wuc.heap.size wuc wva := by rw [hwA]; exact ((Below.refl _ _).alloc (Nat.le_refl _) _).drew
              have hS2 : wva.cell? ⟨w.heap.size, 0, none⟩ = some (.slice c0 t.net.stops.length d0) ∧ wva.cell? ⟨w.heap.size, 1, none⟩ = some (.slice c1 t.net.lines.length d1) ∧ wva.cell? ⟨w.heap.size, 2, none⟩ = some (.slice c2 t.trips.length d2) ∧ wva.cell? ⟨w.heap.size + 1, 0, none⟩ = some (.slice fa f.dead.length fc) ∧ wva.cell? ⟨w.heap.size + 1, 1, none⟩ = some (.int .i64 f.turn) ∧ wva.cell? ⟨pb, po + m, none⟩ = some (.int .i64 idp) ∧ wva.cell? ⟨pb, po + (m + 1), none⟩ = some (.int .i64 id) ∧ wva.cell? ⟨bA, 0, none⟩ = some (.int .i64 xi) ∧ wva.cell? ⟨bA, 1, none⟩ = some (.int .i64 xl) ∧ wva.cell? ⟨bA, 2, none⟩ = some (.int .i64 xs) := ⟨bkeep rbw p0, bkeep rbw p1, bkeep rbw p2, bkeep rbw q0, bkeep rbw q1, bkeep rbw zP, bkeep rbw zK, bkeep rbw x0, bkeep rbw x1, bkeep rbw x2⟩
              have HBv1 : Hid (Below w.heap.size w wva ∧ w.heap.size + 2 ≤ wva.heap.size) := ⟨HBu3.out.1.trans (rbw.mono HBu3.out.1.size), Nat.le_trans HBu3.out.2 rbw.size⟩
              obtain ⟨bB, hbB⟩ : ∃ b, wuc.heap.size = b := ⟨_, rfl⟩
              have HBxbBa : Hid (TripBox wva bB ⟨0, 0, 0⟩) := by rw [hwA, ← hbB]; exact ⟨by show World.cell? (World.alloc wuc _) _ = _; go_simp, by show World.cell? (World.alloc wuc _) _ = _; go_simp, by show World.cell? (World.alloc wuc _) _ = _; go_simp, fun o => by show World.frozen? (World.alloc wuc _) _ = _; go_simp⟩
              have hPBbB : pb < bB := by rw [← hbB]; exact World.block_lt_of_cell? _ _ zP
              have HLbB : Hid (w.heap.size + 2 ≤ bB) := by show _ ≤ _; have := HBu3.out.2; omega
              have hAB : bA < bB := by rw [← hbB]; exact World.block_lt_of_cell? _ _ x0
              rw [← hwA]
              rw [hbB]
              clear rbw hwA
              refine hK.out _ _ hS2 (fun hH9 => ?_)
              obtain ⟨p0, p1, p2, q0, q1, zP, zK, x0, x1, x2⟩ := hS2
              clear hK K
              try simp only [Act.put, List.setIfInBounds_toArray, List.set_cons_zero, List.set_cons_succ]
              refine wpAnyH_ready (rs := [5]) (by kernel_rfl) (by simp) ?_
              refine AllReadyH.cons (by simp only [List.getElem?_toArray, List.getElem?_cons_succ, List.getElem?_cons_zero]; rfl) (fun K hK => ?_) AllReadyH.nil
              go_simp
              go_at_call 62
              refine (HT2.out _ (HBv1.out.1)).mono ?_
              rintro e wvb ⟨rfl, hb⟩
              have rbw : Below wva.heap.size wva wvb := hb
              have hS2 : wvb.cell? ⟨w.heap.size, 0, none⟩ = some (.slice c0 t.net.stops.length d0) ∧ wvb.cell? ⟨w.heap.size, 1, none⟩ = some (.slice c1 t.net.lines.length d1) ∧ wvb.cell? ⟨w.heap.size, 2, none⟩ = some (.slice c2 t.trips.length d2) ∧ wvb.cell? ⟨w.heap.size + 1, 0, none⟩ = some (.slice fa f.dead.length fc) ∧ wvb.cell? ⟨w.heap.size + 1, 1, none⟩ = some (.int .i64 f.turn) ∧ wvb.cell? ⟨pb, po + m, none⟩ = some (.int .i64 idp) ∧ wvb.cell? ⟨pb, po + (m + 1), none⟩ = some (.int .i64 id) ∧ wvb.cell? ⟨bA, 0, none⟩ = some (.int .i64 xi) ∧ wvb.cell? ⟨bA, 1, none⟩ = some (.int .i64 xl) ∧ wvb.cell? ⟨bA, 2, none⟩ = some (.int .i64 xs) := ⟨bkeep rbw p0, bkeep rbw p1, bkeep rbw p2, bkeep rbw q0, bkeep rbw q1, bkeep rbw zP, bkeep rbw zK, bkeep rbw x0, bkeep rbw x1, bkeep rbw x2⟩
              have HBv2 : Hid (Below w.heap.size w wvb ∧ w.heap.size + 2 ≤ wvb.heap.size) := ⟨HBv1.out.1.trans (rbw.mono HBv1.out.1.size), Nat.le_trans HBv1.out.2 rbw.size⟩
              have HBxbB := Lib.hid (HBxbBa.out.keep rbw)
              clear HBxbBa
              clear hb rbw
              go_wp2_with fail
              refine hK.out _ _ hS2 (fun hH5 => ?_)
              obtain ⟨p0, p1, p2, q0, q1, zP, zK, x0, x1, x2⟩ := hS2
              clear hK K
              try simp only [Act.put, List.setIfInBounds_toArray, List.set_cons_zero, List.set_cons_succ]
              refine wpAnyH_take (i := 6) (v := ?_) (by simp only [List.getElem?_toArray, List.getElem?_cons_succ, List.getElem?_cons_zero]; rfl) (by kernel_rfl) (by kernel_rfl) (by kernel_rfl) (by exact fun _ _ _ h => h) (Or.inl ⟨by rfl, ?_⟩) (by assumption) ?_
              rotate_left
              · intro w' hSw; obtain ⟨e0, e1, e2, e3, e4, e5, e6, e7, e8, e9⟩ := hSw
                go_simp; try with_reducible rfl
              try simp only [Act.put, List.setIfInBounds_toArray, List.set_cons_zero, List.set_cons_succ]
              refine wpAnyH_take (i := 7) (v := ?_) (by simp only [List.getElem?_toArray, List.getElem?_cons_succ, List.getElem?_cons_zero]; rfl) (by kernel_rfl) (by kernel_rfl) (by kernel_rfl) (by exact fun _ _ _ h => h) (Or.inl ⟨by rfl, ?_⟩) (by assumption) ?_
              rotate_left
              · intro w' hSw; obtain ⟨e0, e1, e2, e3, e4, e5, e6, e7, e8, e9⟩ := hSw
                go_simp; try with_reducible rfl
              try simp only [Act.put, List.setIfInBounds_toArray, List.set_cons_zero, List.set_cons_succ]
              refine wpAnyH_take (i := 8) (v := ?_) (by simp only [List.getElem?_toArray, List.getElem?_cons_succ, List.getElem?_cons_zero]; rfl) (by kernel_rfl) (by kernel_rfl) (by kernel_rfl) (by exact fun _ _ _ h => h) (Or.inl ⟨by rfl, ?_⟩) (by assumption) ?_
              rotate_left
              · intro w' hSw; obtain ⟨e0, e1, e2, e3, e4, e5, e6, e7, e8, e9⟩ := hSw
                go_simp; try with_reducible rfl
              try simp only [Act.put, List.setIfInBounds_toArray, List.set_cons_zero, List.set_cons_succ]
              refine wpAnyH_ready (rs := [10]) (by kernel_rfl) (by simp) ?_
              refine AllReadyH.cons (by simp only [List.getElem?_toArray, List.getElem?_cons_succ, List.getElem?_cons_zero]; rfl) (fun K hK => ?_) AllReadyH.nil
              have hb0 := HBxbB.out.c0
              have hb1 := HBxbB.out.c1
              have hb2 := HBxbB.out.c2
              have hbf := HBxbB.out.fz
              have hbl := HLbB.out
              go_simp
              obtain ⟨wvc, hwA⟩ : ∃ wA : World, wA = (((World.setCell wvb ⟨bB, 0, none⟩ (.int .i64 yi)).setCell ⟨bB, 1, none⟩ (.int .i64 yl)).setCell ⟨bB, 2, none⟩ (.int .i64 ys)) := ⟨_, rfl⟩
              have hS2 : wvc.cell? ⟨w.heap.size, 0, none⟩ = some (.slice c0 t.net.stops.length d0) ∧ wvc.cell? ⟨w.heap.size, 1, none⟩ = some (.slice c1 t.net.lines.length d1) ∧ wvc.cell? ⟨w.heap.size, 2, none⟩ = some (.slice c2 t.trips.length d2) ∧ wvc.cell? ⟨w.heap.size + 1, 0, none⟩ = some (.slice fa f.dead.length fc) ∧ wvc.cell? ⟨w.heap.size + 1, 1, none⟩ = some (.int .i64 f.turn) ∧ wvc.cell? ⟨pb, po + m, none⟩ = some (.int .i64 idp) ∧ wvc.cell? ⟨pb, po + (m + 1), none⟩ = some (.int .i64 id) ∧ wvc.cell? ⟨bA, 0, none⟩ = some (.int .i64 xi) ∧ wvc.cell? ⟨bA, 1, none⟩ = some (.int .i64 xl) ∧ wvc.cell? ⟨bA, 2, none⟩ = some (.int .i64 xs) := by rw [hwA]; exact ⟨(set3_cell (by dsimp only; omega)).trans p0, (set3_cell (by dsimp only; omega)).trans p1, (set3_cell (by dsimp only; omega)).trans p2, (set3_cell (by dsimp only; omega)).trans q0, (set3_cell (by dsimp only; omega)).trans q1, (set3_cell (by dsimp only; omega)).trans zP, (set3_cell (by dsimp only; omega)).trans zK, (set3_cell (by dsimp only; omega)).trans x0, (set3_cell (by dsimp only; omega)).trans x1, (set3_cell (by dsimp only; omega)).trans x2⟩
              have HBxbBc : Hid (TripBox wvc bB ⟨yi, yl, ys⟩) := by rw [hwA]; exact HBxbB.out.set _ _ _
              have HBv3 : Hid (Below w.heap.size w wvc ∧ w.heap.size + 2 ≤ wvc.heap.size) := by rw [hwA]; exact ⟨((HBv2.out.1.setCell (p := ⟨bB, 0, none⟩) (by dsimp only; omega) _).setCell (p := ⟨bB, 1, none⟩) (by dsimp only; omega) _).setCell (p := ⟨bB, 2, none⟩) (by dsimp only; omega) _, by simpa [World.setCell] using HBv2.out.2⟩
              rw [← hwA]
              clear hwA hb0 hb1 hb2 hbf
              refine hK.out _ _ hS2 (fun hH10 => ?_)
              obtain ⟨p0, p1, p2, q0, q1, zP, zK, x0, x1, x2⟩ := hS2
              clear HBxbB HBv2
              clear hK K
              try simp only [Act.put, List.setIfInBounds_toArray, List.set_cons_zero, List.set_cons_succ]
              refine wpAnyH_take (i := 11) (v := ?_) (by simp only [List.getElem?_toArray, List.getElem?_cons_succ, List.getElem?_cons_zero]; rfl) (by kernel_rfl) (by kernel_rfl) (by kernel_rfl) (by exact fun _ _ _ h => h) (Or.inl ⟨by rfl, ?_⟩) (by assumption) ?_
              rotate_left
              · intro w' hSw; obtain ⟨e0, e1, e2, e3, e4, e5, e6, e7, e8, e9⟩ := hSw
                go_simp; try with_reducible rfl
              try simp only [Act.put, List.setIfInBounds_toArray, List.set_cons_zero, List.set_cons_succ]
              refine wpAnyH_done (by kernel_rfl) ?_ _
              have y0 := HBxbBc.out.c0
              have y1 := HBxbBc.out.c1
              have y2 := HBxbBc.out.c2
              have HB9 := HBv3
              clear HBxbBc HT1 HT2
              go_wp2_with fail
              go_at_call 100
              refine (HD.out _ HB9.out.1).mono ?_
              rintro e w9 ⟨rfl, hb9⟩
              have HB10 : Hid (Below w.heap.size w w9 ∧ w.heap.size + 2 ≤ w9.heap.size) := ⟨HB9.out.1.trans (hb9.mono HB9.out.1.size), Nat.le_trans HB9.out.2 hb9.size⟩
              have p0 := bkeep hb9 p0
              have p1 := bkeep hb9 p1
              have p2 := bkeep hb9 p2
              have q0 := bkeep hb9 q0
              have q1 := bkeep hb9 q1
              clear hb9 x0 x1 x2 y0 y1 y2 zP zK
              go_wp2_with fail
              go_roundw
              case rel => exact ⟨m + 1, by omega, by go_num, by rw [HSum.out], p0, p1, p2, q0, q1, HB10⟩
              case measure => simp [RowKit.intOf]; omega
          · go_simp
            obtain ⟨wua, hwA⟩ : ∃ wA : World, wA = (World.alloc wr (.cells #[.int .i64 0, .int .i64 0, .int .i64 0] 89)).drew := ⟨_, rfl⟩
            have rbw : Below wr.heap.size wr wua := by rw [hwA]; exact ((Below.refl _ _).alloc (Nat.le_refl _) _).drew
            have hS2 : wua.cell? ⟨w.heap.size, 0, none⟩ = some (.slice c0 t.net.stops.length d0) ∧ wua.cell? ⟨w.heap.size, 1, none⟩ = some (.slice c1 t.net.lines.length d1) ∧ wua.cell? ⟨w.heap.size, 2, none⟩ = some (.slice c2 t.trips.length d2) ∧ wua.cell? ⟨w.heap.size + 1, 0, none⟩ = some (.slice fa f.dead.length fc) ∧ wua.cell? ⟨w.heap.size + 1, 1, none⟩ = some (.int .i64 f.turn) ∧ wua.cell? ⟨pb, po + m, none⟩ = some (.int .i64 idp) ∧ wua.cell? ⟨pb, po + (m + 1), none⟩ = some (.int .i64 id) := ⟨bkeep rbw p0, bkeep rbw p1, bkeep rbw p2, bkeep rbw q0, bkeep rbw q1, bkeep rbw zP, bkeep rbw zK⟩
            have HBu1 : Hid (Below w.heap.size w wua ∧ w.heap.size + 2 ≤ wua.heap.size) := ⟨HB.out.1.trans (rbw.mono HB.out.1.size), Nat.le_trans HB.out.2 rbw.size⟩
            obtain ⟨bA, hbA⟩ : ∃ b, wr.heap.size = b := ⟨_, rfl⟩
            have HBxbAa : Hid (TripBox wua bA ⟨0, 0, 0⟩) := by rw [hwA, ← hbA]; exact ⟨by show World.cell? (World.alloc wr _) _ = _; go_simp, by show World.cell? (World.alloc wr _) _ = _; go_simp, by show World.cell? (World.alloc wr _) _ = _; go_simp, fun o => by show World.frozen? (World.alloc wr _) _ = _; go_simp⟩
            have hPBbA : pb < bA := by rw [← hbA]; exact World.block_lt_of_cell? _ _ zP
            have HLbA : Hid (w.heap.size + 2 ≤ bA) := by show _ ≤ _; have := HB.out.2; omega
            rw [← hwA]
            rw [hbA]
            clear rbw hwA
            refine hK.out _ _ hS2 (fun hH10 => ?_)
            obtain ⟨p0, p1, p2, q0, q1, zP, zK⟩ := hS2
            clear hK K
            try simp only [Act.put, List.setIfInBounds_toArray, List.set_cons_zero, List.set_cons_succ]
            refine wpAnyH_ready (rs := [6]) (by kernel_rfl) (by simp) ?_
            refine AllReadyH.cons (by simp only [List.getElem?_toArray, List.getElem?_cons_succ, List.getElem?_cons_zero]; rfl) (fun K hK => ?_) AllReadyH.nil
            go_simp
            go_at_call 62
            refine (HT1.out _ (HBu1.out.1)).mono ?_
            rintro e wub ⟨rfl, hb⟩
            have rbw : Below wua.heap.size wua wub := hb
            have hS2 : wub.cell? ⟨w.heap.size, 0, none⟩ = some (.slice c0 t.net.stops.length d0) ∧ wub.cell? ⟨w.heap.size, 1, none⟩ = some (.slice c1 t.net.lines.length d1) ∧ wub.cell? ⟨w.heap.size, 2, none⟩ = some (.slice c2 t.trips.length d2) ∧ wub.cell? ⟨w.heap.size + 1, 0, none⟩ = some (.slice fa f.dead.length fc) ∧ wub.cell? ⟨w.heap.size + 1, 1, none⟩ = some (.int .i64 f.turn) ∧ wub.cell? ⟨pb, po + m, none⟩ = some (.int .i64 idp) ∧ wub.cell? ⟨pb, po + (m + 1), none⟩ = some (.int .i64 id) := ⟨bkeep rbw p0, bkeep rbw p1, bkeep rbw p2, bkeep rbw q0, bkeep rbw q1, bkeep rbw zP, bkeep rbw zK⟩
            have HBu2 : Hid (Below w.heap.size w wub ∧ w.heap.size + 2 ≤ wub.heap.size) := ⟨HBu1.out.1.trans (rbw.mono HBu1.out.1.size), Nat.le_trans HBu1.out.2 rbw.size⟩
            have HBxbA := Lib.hid (HBxbAa.out.keep rbw)
            clear HBxbAa
            clear hb rbw
            go_wp2_with fail
            refine hK.out _ _ hS2 (fun hH6 => ?_)
            obtain ⟨p0, p1, p2, q0, q1, zP, zK⟩ := hS2
            clear hK K
            try simp only [Act.put, List.setIfInBounds_toArray, List.set_cons_zero, List.set_cons_succ]
            refine wpAnyH_take (i := 7) (v := ?_) (by simp only [List.getElem?_toArray, List.getElem?_cons_succ, List.getElem?_cons_zero]; rfl) (by kernel_rfl) (by kernel_rfl) (by kernel_rfl) (by exact fun _ _ _ h => h) (Or.inl ⟨by rfl, ?_⟩) (by assumption) ?_
            rotate_left
            · intro w' hSw; obtain ⟨e0, e1, e2, e3, e4, e5, e6⟩ := hSw
              go_simp; try with_reducible rfl
            try simp only [Act.put, List.setIfInBounds_toArray, List.set_cons_zero, List.set_cons_succ]
            refine wpAnyH_take (i := 8) (v := ?_) (by simp only [List.getElem?_toArray, List.getElem?_cons_succ, List.getElem?_cons_zero]; rfl) (by kernel_rfl) (by kernel_rfl) (by kernel_rfl) (by exact fun _ _ _ h => h) (Or.inl ⟨by rfl, ?_⟩) (by assumption) ?_
            rotate_left
            · intro w' hSw; obtain ⟨e0, e1, e2, e3, e4, e5, e6⟩ := hSw
              go_simp; try with_reducible rfl
            try simp only [Act.put, List.setIfInBounds_toArray, List.set_cons_zero, List.set_cons_succ]
            refine wpAnyH_take (i := 9) (v := ?_) (by simp only [List.getElem?_toArray, List.getElem?_cons_succ, List.getElem?_cons_zero]; rfl) (by kernel_rfl) (by kernel_rfl) (by kernel_rfl) (by exact fun _ _ _ h => h) (Or.inl ⟨by rfl, ?_⟩) (by assumption) ?_
            rotate_left
            · intro w' hSw; obtain ⟨e0, e1, e2, e3, e4, e5, e6⟩ := hSw
              go_simp; try with_reducible rfl
            try simp only [Act.put, List.setIfInBounds_toArray, List.set_cons_zero, List.set_cons_succ]
            refine wpAnyH_ready (rs := [11]) (by kernel_rfl) (by simp) ?_
            refine AllReadyH.cons (by simp only [List.getElem?_toArray, List.getElem?_cons_succ, List.getElem?_cons_zero]; rfl) (fun K hK => ?_) AllReadyH.nil
            have hb0 := HBxbA.out.c0
            have hb1 := HBxbA.out.c1
            have hb2 := HBxbA.out.c2
            have hbf := HBxbA.out.fz
            have hbl := HLbA.out
            go_simp
            obtain ⟨wuc, hwA⟩ : ∃ wA : World, wA = (((World.setCell wub ⟨bA, 0, none⟩ (.int .i64 xi)).setCell ⟨bA, 1, none⟩ (.int .i64 xl)).setCell ⟨bA, 2, none⟩ (.int .i64 xs)) := ⟨_, rfl⟩
            have hS2 : wuc.cell? ⟨w.heap.size, 0, none⟩ = some (.slice c0 t.net.stops.length d0) ∧ wuc.cell? ⟨w.heap.size, 1, none⟩ = some (.slice c1 t.net.lines.length d1) ∧ wuc.cell? ⟨w.heap.size, 2, none⟩ = some (.slice c2 t.trips.length d2) ∧ wuc.cell? ⟨w.heap.size + 1, 0, none⟩ = some (.slice fa f.dead.length fc) ∧ wuc.cell? ⟨w.heap.size + 1, 1, none⟩ = some (.int .i64 f.turn) ∧ wuc.cell? ⟨pb, po + m, none⟩ = some (.int .i64 idp) ∧ wuc.cell? ⟨pb, po + (m + 1), none⟩ = some (.int .i64 id) := by rw [hwA]; exact ⟨(set3_cell (by dsimp only; omega)).trans p0, (set3_cell (by dsimp only; omega)).trans p1, (set3_cell (by dsimp only; omega)).trans p2, (set3_cell (by dsimp only; omega)).trans q0, (set3_cell (by dsimp only; omega)).trans q1, (set3_cell (by dsimp only; omega)).trans zP, (set3_cell (by dsimp only; omega)).trans zK⟩
            have HBxbAc : Hid (TripBox wuc bA ⟨xi, xl, xs⟩) := by rw [hwA]; exact HBxbA.out.set _ _ _
            have HBu3 : Hid (Below w.heap.size w wuc ∧ w.heap.size + 2 ≤ wuc.heap.size) := by rw [hwA]; exact ⟨((HBu2.out.1.setCell (p := ⟨bA, 0, none⟩) (by dsimp only; omega) _).setCell (p := ⟨bA, 1, none⟩) (by dsimp only; omega) _).setCell (p := ⟨bA, 2, none⟩) (by dsimp only; omega) _, by simpa [World.setCell] using HBu2.out.2⟩
            rw [← hwA]
            clear hwA hb0 hb1 hb2 hbf
            refine hK.out _ _ hS2 (fun hH11 => ?_)
            obtain ⟨p0, p1, p2, q0, q1, zP, zK⟩ := hS2
            clear HBxbA HBu2
            clear hK K
            try simp only [Act.put, List.setIfInBounds_toArray, List.set_cons_zero, List.set_cons_succ]
            refine wpAnyH_take (i := 12) (v := ?_) (by simp only [List.getElem?_toArray, List.getElem?_cons_succ, List.getElem?_cons_zero]; rfl) (by kernel_rfl) (by kernel_rfl) (by kernel_rfl) (by exact fun _ _ _ h => h) (Or.inl ⟨by rfl, ?_⟩) (by assumption) ?_
            rotate_left
            · intro w' hSw; obtain ⟨e0, e1, e2, e3, e4, e5, e6⟩ := hSw
              go_simp; try with_reducible rfl
            try simp only [Act.put, List.setIfInBounds_toArray, List.set_cons_zero, List.set_cons_succ]
            refine wpAnyH_done (by kernel_rfl) ?_ _
            have x0 := HBxbAc.out.c0
            have x1 := HBxbAc.out.c1
            have x2 := HBxbAc.out.c2
            simp only at x0 x1 x2
            have hbA2 := HLbA.out
            clear HBxbAc
            go_upto_region 9 with fail
            refine wp_region_held_drew (S := (fun w' => w'.cell? ⟨w.heap.size, 0, none⟩ = some (.slice c0 t.net.stops.length d0) ∧ w'.cell? ⟨w.heap.size, 1, none⟩ = some (.slice c1 t.net.lines.length d1) ∧ w'.cell? ⟨w.heap.size, 2, none⟩ = some (.slice c2 t.trips.length d2) ∧ w'.cell? ⟨w.heap.size + 1, 0, none⟩ = some (.slice fa f.dead.length fc) ∧ w'.cell? ⟨w.heap.size + 1, 1, none⟩ = some (.int .i64 f.turn) ∧ w'.cell? ⟨pb, po + m, none⟩ = some (.int .i64 idp) ∧ w'.cell? ⟨pb, po + (m + 1), none⟩ = some (.int .i64 id) ∧ w'.cell? ⟨bA, 0, none⟩ = some (.int .i64 xi) ∧ w'.cell? ⟨bA, 1, none⟩ = some (.int .i64 xl) ∧ w'.cell? ⟨bA, 2, none⟩ = some (.int .i64 xs))) (by kernel_rfl) ?_ (fun hHeld => ?_)
            · exact ⟨p0, p1, p2, q0, q1, zP, zK, x0, x1, x2⟩
            refine wpAnyH_take (i := 0) (v := ?_) (by simp only [List.getElem?_toArray, List.getElem?_cons_zero]; rfl) (by kernel_rfl) (by kernel_rfl) (by kernel_rfl) (by exact fun _ _ _ h => h) (Or.inl ⟨by rfl, ?_⟩) (by assumption) ?_
            rotate_left
            · intro w' hSw; obtain ⟨e0, e1, e2, e3, e4, e5, e6, e7, e8, e9⟩ := hSw
              go_simp; try with_reducible rfl
            try simp only [Act.put, List.setIfInBounds_toArray, List.set_cons_zero, List.set_cons_succ]
            refine wpAnyH_take (i := 1) (v := ?_) (by simp only [List.getElem?_toArray, List.getElem?_cons_succ, List.getElem?_cons_zero]; rfl) (by kernel_rfl) (by kernel_rfl) (by kernel_rfl) (by exact fun _ _ _ h => h) (Or.inl ⟨by rfl, ?_⟩) (by assumption) ?_
            rotate_left
            · intro w' hSw; obtain ⟨e0, e1, e2, e3, e4, e5, e6, e7, e8, e9⟩ := hSw
              go_simp; try with_reducible rfl
            try simp only [Act.put, List.setIfInBounds_toArray, List.set_cons_zero, List.set_cons_succ]
            refine wpAnyH_take (i := 2) (v := ?_) (by simp only [List.getElem?_toArray, List.getElem?_cons_succ, List.getElem?_cons_zero]; rfl) (by kernel_rfl) (by kernel_rfl) (by kernel_rfl) (by exact fun _ _ _ h => h) (Or.inl ⟨by rfl, ?_⟩) (by assumption) ?_
            rotate_left
            · intro w' hSw; obtain ⟨e0, e1, e2, e3, e4, e5, e6, e7, e8, e9⟩ := hSw
              go_simp; try with_reducible rfl
            try simp only [Act.put, List.setIfInBounds_toArray, List.set_cons_zero, List.set_cons_succ]
            refine wpAnyH_take (i := 3) (v := ?_) (by simp only [List.getElem?_toArray, List.getElem?_cons_succ, List.getElem?_cons_zero]; rfl) (by kernel_rfl) (by kernel_rfl) (by kernel_rfl) (by exact fun _ _ _ h => h) (Or.inl ⟨by rfl, ?_⟩) (by assumption) ?_
            rotate_left
            · intro w' hSw; obtain ⟨e0, e1, e2, e3, e4, e5, e6, e7, e8, e9⟩ := hSw
              go_simp; try with_reducible rfl
            try simp only [Act.put, List.setIfInBounds_toArray, List.set_cons_zero, List.set_cons_succ]
            refine wpAnyH_take (i := 4) (v := ?_) (by simp only [List.getElem?_toArray, List.getElem?_cons_succ, List.getElem?_cons_zero]; rfl) (by kernel_rfl) (by kernel_rfl) (by kernel_rfl) (by exact fun _ _ _ h => h) (Or.inl ⟨by rfl, ?_⟩) (by assumption) ?_
            rotate_left
            · intro w' hSw; obtain ⟨e0, e1, e2, e3, e4, e5, e6, e7, e8, e9⟩ := hSw
              go_simp; try with_reducible rfl
            try simp only [Act.put, List.setIfInBounds_toArray, List.set_cons_zero, List.set_cons_succ]
            refine wpAnyH_ready (rs := [5, 9]) (by kernel_rfl) (by simp) ?_
            refine AllReadyH.cons (by simp only [List.getElem?_toArray, List.getElem?_cons_succ, List.getElem?_cons_zero]; rfl) (fun K hK => ?_) (AllReadyH.cons (by simp only [List.getElem?_toArray, List.getElem?_cons_succ, List.getElem?_cons_zero]; rfl) (fun K hK => ?_) AllReadyH.nil)
            · go_simp
              go_at_call 62
              refine (HT2.out _ (HBu3.out.1.drew)).mono ?_
              rintro e wva ⟨rfl, hb⟩
              have rbw : Below wuc.heap.size wuc wva := (Below.refl _ _).drew.trans hb
              have hS2 : wva.cell? ⟨w.heap.size, 0, none⟩ = some (.slice c0 t.net.stops.length d0) ∧ wva.cell? ⟨w.heap.size, 1, none⟩ = some (.slice c1 t.net.lines.length d1) ∧ wva.cell? ⟨w.heap.size, 2, none⟩ = some (.slice c2 t.trips.length d2) ∧ wva.cell? ⟨w.heap.size + 1, 0, none⟩ = some (.slice fa f.dead.length fc) ∧ wva.cell? ⟨w.heap.size + 1, 1, none⟩ = some (.int .i64 f.turn) ∧ wva.cell? ⟨pb, po + m, none⟩ = some (.int .i64 idp) ∧ wva.cell? ⟨pb, po + (m + 1), none⟩ = some (.int .i64 id) ∧ wva.cell? ⟨bA, 0, none⟩ = some (.int .i64 xi) ∧ wva.cell? ⟨bA, 1, none⟩ = some (.int .i64 xl) ∧ wva.cell? ⟨bA, 2, none⟩ = some (.int .i64 xs) := ⟨bkeep rbw p0, bkeep rbw p1, bkeep rbw p2, bkeep rbw q0, bkeep rbw q1, bkeep rbw zP, bkeep rbw zK, bkeep rbw x0, bkeep rbw x1, bkeep rbw x2⟩
              have HBv1 : Hid (Below w.heap.size w wva ∧ w.heap.size + 2 ≤ wva.heap.size) := ⟨HBu3.out.1.trans (rbw.mono HBu3.out.1.size), Nat.le_trans HBu3.out.2 rbw.size⟩
              clear hb rbw
              go_wp2_with fail
              refine hK.out _ _ hS2 (fun hH5 => ?_)
              obtain ⟨p0, p1, p2, q0, q1, zP, zK, x0, x1, x2⟩ := hS2
              clear hK K
              try simp only [Act.put, List.setIfInBounds_toArray, List.set_cons_zero, List.set_cons_succ]
              refine wpAnyH_take (i := 6) (v := ?_) (by simp only [List.getElem?_toArray, List.getElem?_cons_succ, List.getElem?_cons_zero]; rfl) (by kernel_rfl) (by kernel_rfl) (by kernel_rfl) (by exact fun _ _ _ h => h) (Or.inl ⟨by rfl, ?_⟩) (by assumption) ?_
              rotate_left
              · intro w' hSw; obtain ⟨e0, e1, e2, e3, e4, e5, e6, e7, e8, e9⟩ := hSw
                go_simp; try with_reducible rfl
              try simp only [Act.put, List.setIfInBounds_toArray, List.set_cons_zero, List.set_cons_succ]
              refine wpAnyH_take (i := 7) (v := ?_) (by simp only [List.getElem?_toArray, List.getElem?_cons_succ, List.getElem?_cons_zero]; rfl) (by kernel_rfl) (by kernel_rfl) (by kernel_rfl) (by exact fun _ _ _ h => h) (Or.inl ⟨by rfl, ?_⟩) (by assumption) ?_
              rotate_left
              · intro w' hSw; obtain ⟨e0, e1, e2, e3, e4, e5, e6, e7, e8, e9⟩ := hSw
                go_simp; try with_reducible rfl
              try simp only [Act.put, List.setIfInBounds_toArray, List.set_cons_zero, List.set_cons_succ]
              refine wpAnyH_take (i := 8) (v := ?_) (by simp only [List.getElem?_toArray, List.getElem?_cons_succ, List.getElem?_cons_zero]; rfl) (by kernel_rfl) (by kernel_rfl) (by kernel_rfl) (by exact fun _ _ _ h => h) (Or.inl ⟨by rfl, ?_⟩) (by assumption) ?_
              rotate_left
              · intro w' hSw; obtain ⟨e0, e1, e2, e3, e4, e5, e6, e7, e8, e9⟩ := hSw
                go_simp; try with_reducible rfl
              try simp only [Act.put, List.setIfInBounds_toArray, List.set_cons_zero, List.set_cons_succ]
              refine wpAnyH_ready (rs := [9]) (by kernel_rfl) (by simp) ?_
              refine AllReadyH.cons (by simp only [List.getElem?_toArray, List.getElem?_cons_succ, List.getElem?_cons_zero]; rfl) (fun K hK => ?_) AllReadyH.nil
              go_simp
              obtain ⟨wvb, hwA⟩ : ∃ wA : World, wA = (World.alloc wva (.cells #[.int .i64 0, .int .i64 0, .int .i64 0] 89)) := ⟨_, rfl⟩
              have rbw : Below wva.heap.size wva wvb := by rw [hwA]; exact ((Below.refl _ _).alloc (Nat.le_refl _) _)
              have hS2 : wvb.cell? ⟨w.heap.size, 0, none⟩ = some (.slice c0 t.net.stops.length d0) ∧ wvb.cell? ⟨w.heap.size, 1, none⟩ = some (.slice c1 t.net.lines.length d1) ∧ wvb.cell? ⟨w.heap.size, 2, none⟩ = some (.slice c2 t.trips.length d2) ∧ wvb.cell? ⟨w.heap.size + 1, 0, none⟩ = some (.slice fa f.dead.length fc) ∧ wvb.cell? ⟨w.heap.size + 1, 1, none⟩ = some (.int .i64 f.turn) ∧ wvb.cell? ⟨pb, po + m, none⟩ = some (.int .i64 idp) ∧ wvb.cell? ⟨pb, po + (m + 1), none⟩ = some (.int .i64 id) ∧ wvb.cell? ⟨bA, 0, none⟩ = some (.int .i64 xi) ∧ wvb.cell? ⟨bA, 1, none⟩ = some (.int .i64 xl) ∧ wvb.cell? ⟨bA, 2, none⟩ = some (.int .i64 xs) := ⟨bkeep rbw p0, bkeep rbw p1, bkeep rbw p2, bkeep rbw q0, bkeep rbw q1, bkeep rbw zP, bkeep rbw zK, bkeep rbw x0, bkeep rbw x1, bkeep rbw x2⟩
              have HBv2 : Hid (Below w.heap.size w wvb ∧ w.heap.size + 2 ≤ wvb.heap.size) := ⟨HBv1.out.1.trans (rbw.mono HBv1.out.1.size), Nat.le_trans HBv1.out.2 rbw.size⟩
              obtain ⟨bB, hbB⟩ : ∃ b, wva.heap.size = b := ⟨_, rfl⟩
              have HBxbB : Hid (TripBox wvb bB ⟨0, 0, 0⟩) := by rw [hwA, ← hbB]; exact ⟨by show World.cell? (World.alloc wva _) _ = _; go_simp, by show World.cell? (World.alloc wva _) _ = _; go_simp, by show World.cell? (World.alloc wva _) _ = _; go_simp, fun o => by show World.frozen? (World.alloc wva _) _ = _; go_simp⟩
              have hPBbB : pb < bB := by rw [← hbB]; exact World.block_lt_of_cell? _ _ zP
              have HLbB : Hid (w.heap.size + 2 ≤ bB) := by show _ ≤ _; have := HBv1.out.2; omega
              have hAB : bA < bB := by rw [← hbB]; exact World.block_lt_of_cell? _ _ x0
              rw [← hwA]
              rw [hbB]
              clear rbw hwA
              refine hK.out _ _ hS2 (fun hH9 => ?_)
              obtain ⟨p0, p1, p2, q0, q1, zP, zK, x0, x1, x2⟩ := hS2
              clear hK K
              try simp only [Act.put, List.setIfInBounds_toArray, List.set_cons_zero, List.set_cons_succ]
              refine wpAnyH_ready (rs := [10]) (by kernel_rfl) (by simp) ?_
              refine AllReadyH.cons (by simp only [List.getElem?_toArray, List.getElem?_cons_succ, List.getElem?_cons_zero]; rfl) (fun K hK => ?_) AllReadyH.nil
              have hb0 := HBxbB.out.c0
              have hb1 := HBxbB.out.c1
              have hb2 := HBxbB.out.c2
              have hbf := HBxbB.out.fz
              have hbl := HLbB.out
              go_simp
              obtain ⟨wvc, hwA⟩ : ∃ wA : World, wA = (((World.setCell wvb ⟨bB, 0, none⟩ (.int .i64 yi)).setCell ⟨bB, 1, none⟩ (.int .i64 yl)).setCell ⟨bB, 2, none⟩ (.int .i64 ys)) := ⟨_, rfl⟩
              have hS2 : wvc.cell? ⟨w.heap.size, 0, none⟩ = some (.slice c0 t.net.stops.length d0) ∧ wvc.cell? ⟨w.heap.size, 1, none⟩ = some (.slice c1 t.net.lines.length d1) ∧ wvc.cell? ⟨w.heap.size, 2, none⟩ = some (.slice c2 t.trips.length d2) ∧ wvc.cell? ⟨w.heap.size + 1, 0, none⟩ = some (.slice fa f.dead.length fc) ∧ wvc.cell? ⟨w.heap.size + 1, 1, none⟩ = some (.int .i64 f.turn) ∧ wvc.cell? ⟨pb, po + m, none⟩ = some (.int .i64 idp) ∧ wvc.cell? ⟨pb, po + (m + 1), none⟩ = some (.int .i64 id) ∧ wvc.cell? ⟨bA, 0, none⟩ = some (.int .i64 xi) ∧ wvc.cell? ⟨bA, 1, none⟩ = some (.int .i64 xl) ∧ wvc.cell? ⟨bA, 2, none⟩ = some (.int .i64 xs) := by rw [hwA]; exact ⟨(set3_cell (by dsimp only; omega)).trans p0, (set3_cell (by dsimp only; omega)).trans p1, (set3_cell (by dsimp only; omega)).trans p2, (set3_cell (by dsimp only; omega)).trans q0, (set3_cell (by dsimp only; omega)).trans q1, (set3_cell (by dsimp only; omega)).trans zP, (set3_cell (by dsimp only; omega)).trans zK, (set3_cell (by dsimp only; omega)).trans x0, (set3_cell (by dsimp only; omega)).trans x1, (set3_cell (by dsimp only; omega)).trans x2⟩
              have HBxbBc : Hid (TripBox wvc bB ⟨yi, yl, ys⟩) := by rw [hwA]; exact HBxbB.out.set _ _ _
              have HBv3 : Hid (Below w.heap.size w wvc ∧ w.heap.size + 2 ≤ wvc.heap.size) := by rw [hwA]; exact ⟨((HBv2.out.1.setCell (p := ⟨bB, 0, none⟩) (by dsimp only; omega) _).setCell (p := ⟨bB, 1, none⟩) (by dsimp only; omega) _).setCell (p := ⟨bB, 2, none⟩) (by dsimp only; omega) _, by simpa [World.setCell] using HBv2.out.2⟩
              rw [← hwA]
              clear hwA hb0 hb1 hb2 hbf
              refine hK.out _ _ hS2 (fun hH10 => ?_)
              obtain ⟨p0, p1, p2, q0, q1, zP, zK, x0, x1, x2⟩ := hS2
              clear HBxbB HBv2
              clear hK K
              try simp only [Act.put, List.setIfInBounds_toArray, List.set_cons_zero, List.set_cons_succ]
              refine wpAnyH_take (i := 11) (v := ?_) (by simp only [List.getElem?_toArray, List.getElem?_cons_succ, List.getElem?_cons_zero]; rfl) (by kernel_rfl) (by kernel_rfl) (by kernel_rfl) (by exact fun _ _ _ h => h) (Or.inl ⟨by rfl, ?_⟩) (by assumption) ?_
              rotate_left
              · intro w' hSw; obtain ⟨e0, e1, e2, e3, e4, e5, e6, e7, e8, e9⟩ := hSw
                go_simp; try with_reducible rfl
              try simp only [Act.put, List.setIfInBounds_toArray, List.set_cons_zero, List.set_cons_succ]
              refine wpAnyH_done (by kernel_rfl) ?_ _
              have y0 := HBxbBc.out.c0
              have y1 := HBxbBc.out.c1
              have y2 := HBxbBc.out.c2
              have HB9 := HBv3
              clear HBxbBc HT1 HT2
              go_wp2_with fail
              go_at_call 100
              refine (HD.out _ HB9.out.1).mono ?_
              rintro e w9 ⟨rfl, hb9⟩
              have HB10 : Hid (Below w.heap.size w w9 ∧ w.heap.size + 2 ≤ w9.heap.size) := ⟨HB9.out.1.trans (hb9.mono HB9.out.1.size), Nat.le_trans HB9.out.2 hb9.size⟩
              have p0 := bkeep hb9 p0
              have p1 := bkeep hb9 p1
              have p2 := bkeep hb9 p2
              have q0 := bkeep hb9 q0
              have q1 := bkeep hb9 q1
              clear hb9 x0 x1 x2 y0 y1 y2 zP zK
              go_wp2_with fail
              go_roundw
              case rel => exact ⟨m + 1, by omega, by go_num, by rw [HSum.out], p0, p1, p2, q0, q1, HB10⟩
              case measure => simp [RowKit.intOf]; omega
            · go_simp
              obtain ⟨wva, hwA⟩ : ∃ wA : World, wA = (World.alloc wuc (.cells #[.int .i64 0, .int .i64 0, .int .i64 0] 89)).drew := ⟨_, rfl⟩
              have rbw : Below wuc.heap.size wuc wva := by rw [hwA]; exact ((Below.refl _ _).alloc (Nat.le_refl _) _).drew
              have hS2 : wva.cell? ⟨w.heap.size, 0, none⟩ = some (.slice c0 t.net.stops.length d0) ∧ wva.cell? ⟨w.heap.size, 1, none⟩ = some (.slice c1 t.net.lines.length d1) ∧ wva.cell? ⟨w.heap.size, 2, none⟩ = some (.slice c2 t.trips.length d2) ∧ wva.cell? ⟨w.heap.size + 1, 0, none⟩ = some (.slice fa f.dead.length fc) ∧ wva.cell? ⟨w.heap.size + 1, 1, none⟩ = some (.int .i64 f.turn) ∧ wva.cell? ⟨pb, po + m, none⟩ = some (.int .i64 idp) ∧ wva.cell? ⟨pb, po + (m + 1), none⟩ = some (.int .i64 id) ∧ wva.cell? ⟨bA, 0, none⟩ = some (.int .i64 xi) ∧ wva.cell? ⟨bA, 1, none⟩ = some (.int .i64 xl) ∧ wva.cell? ⟨bA, 2, none⟩ = some (.int .i64 xs) := ⟨bkeep rbw p0, bkeep rbw p1, bkeep rbw p2, bkeep rbw q0, bkeep rbw q1, bkeep rbw zP, bkeep rbw zK, bkeep rbw x0, bkeep rbw x1, bkeep rbw x2⟩
              have HBv1 : Hid (Below w.heap.size w wva ∧ w.heap.size + 2 ≤ wva.heap.size) := ⟨HBu3.out.1.trans (rbw.mono HBu3.out.1.size), Nat.le_trans HBu3.out.2 rbw.size⟩
              obtain ⟨bB, hbB⟩ : ∃ b, wuc.heap.size = b := ⟨_, rfl⟩
              have HBxbBa : Hid (TripBox wva bB ⟨0, 0, 0⟩) := by rw [hwA, ← hbB]; exact ⟨by show World.cell? (World.alloc wuc _) _ = _; go_simp, by show World.cell? (World.alloc wuc _) _ = _; go_simp, by show World.cell? (World.alloc wuc _) _ = _; go_simp, fun o => by show World.frozen? (World.alloc wuc _) _ = _; go_simp⟩
              have hPBbB : pb < bB := by rw [← hbB]; exact World.block_lt_of_cell? _ _ zP
              have HLbB : Hid (w.heap.size + 2 ≤ bB) := by show _ ≤ _; have := HBu3.out.2; omega
              have hAB : bA < bB := by rw [← hbB]; exact World.block_lt_of_cell? _ _ x0
              rw [← hwA]
              rw [hbB]
              clear rbw hwA
              refine hK.out _ _ hS2 (fun hH9 => ?_)
              obtain ⟨p0, p1, p2, q0, q1, zP, zK, x0, x1, x2⟩ := hS2
              clear hK K
              try simp only [Act.put, List.setIfInBounds_toArray, List.set_cons_zero, List.set_cons_succ]
              refine wpAnyH_ready (rs := [5]) (by kernel_rfl) (by simp) ?_
              refine AllReadyH.cons (by simp only [List.getElem?_toArray, List.getElem?_cons_succ, List.getElem?_cons_zero]; rfl) (fun K hK => ?_) AllReadyH.nil
              go_simp
              go_at_call 62
              refine (HT2.out _ (HBv1.out.1)).mono ?_
              rintro e wvb ⟨rfl, hb⟩
              have rbw : Below wva.heap.size wva wvb := hb
              have hS2 : wvb.cell? ⟨w.heap.size, 0, none⟩ = some (.slice c0 t.net.stops.length d0) ∧ wvb.cell? ⟨w.heap.size, 1, none⟩ = some (.slice c1 t.net.lines.length d1) ∧ wvb.cell? ⟨w.heap.size, 2, none⟩ = some (.slice c2 t.trips.length d2) ∧ wvb.cell? ⟨w.heap.size + 1, 0, none⟩ = some (.slice fa f.dead.length fc) ∧ wvb.cell? ⟨w.heap.size + 1, 1, none⟩ = some (.int .i64 f.turn) ∧ wvb.cell? ⟨pb, po + m, none⟩ = some (.int .i64 idp) ∧ wvb.cell? ⟨pb, po + (m + 1), none⟩ = some (.int .i64 id) ∧ wvb.cell? ⟨bA, 0, none⟩ = some (.int .i64 xi) ∧ wvb.cell? ⟨bA, 1, none⟩ = some (.int .i64 xl) ∧ wvb.cell? ⟨bA, 2, none⟩ = some (.int .i64 xs) := ⟨bkeep rbw p0, bkeep rbw p1, bkeep rbw p2, bkeep rbw q0, bkeep rbw q1, bkeep rbw zP, bkeep rbw zK, bkeep rbw x0, bkeep rbw x1, bkeep rbw x2⟩
              have HBv2 : Hid (Below w.heap.size w wvb ∧ w.heap.size + 2 ≤ wvb.heap.size) := ⟨HBv1.out.1.trans (rbw.mono HBv1.out.1.size), Nat.le_trans HBv1.out.2 rbw.size⟩
              have HBxbB := Lib.hid (HBxbBa.out.keep rbw)
              clear HBxbBa
              clear hb rbw
              go_wp2_with fail
              refine hK.out _ _ hS2 (fun hH5 => ?_)
              obtain ⟨p0, p1, p2, q0, q1, zP, zK, x0, x1, x2⟩ := hS2
              clear hK K
              try simp only [Act.put, List.setIfInBounds_toArray, List.set_cons_zero, List.set_cons_succ]
              refine wpAnyH_take (i := 6) (v := ?_) (by simp only [List.getElem?_toArray, List.getElem?_cons_succ, List.getElem?_cons_zero]; rfl) (by kernel_rfl) (by kernel_rfl) (by kernel_rfl) (by exact fun _ _ _ h => h) (Or.inl ⟨by rfl, ?_⟩) (by assumption) ?_
              rotate_left
              · intro w' hSw; obtain ⟨e0, e1, e2, e3, e4, e5, e6, e7, e8, e9⟩ := hSw
                go_simp; try with_reducible rfl
              try simp only [Act.put, List.setIfInBounds_toArray, List.set_cons_zero, List.set_cons_succ]
              refine wpAnyH_take (i := 7) (v := ?_) (by simp only [List.getElem?_toArray, List.getElem?_cons_succ, List.getElem?_cons_zero]; rfl) (by kernel_rfl) (by kernel_rfl) (by kernel_rfl) (by exact fun _ _ _ h => h) (Or.inl ⟨by rfl, ?_⟩) (by assumption) ?_
              rotate_left
              · intro w' hSw; obtain ⟨e0, e1, e2, e3, e4, e5, e6, e7, e8, e9⟩ := hSw
                go_simp; try with_reducible rfl
              try simp only [Act.put, List.setIfInBounds_toArray, List.set_cons_zero, List.set_cons_succ]
              refine wpAnyH_take (i := 8) (v := ?_) (by simp only [List.getElem?_toArray, List.getElem?_cons_succ, List.getElem?_cons_zero]; rfl) (by kernel_rfl) (by kernel_rfl) (by kernel_rfl) (by exact fun _ _ _ h => h) (Or.inl ⟨by rfl, ?_⟩) (by assumption) ?_
              rotate_left
              · intro w' hSw; obtain ⟨e0, e1, e2, e3, e4, e5, e6, e7, e8, e9⟩ := hSw
                go_simp; try with_reducible rfl
              try simp only [Act.put, List.setIfInBounds_toArray, List.set_cons_zero, List.set_cons_succ]
              refine wpAnyH_ready (rs := [10]) (by kernel_rfl) (by simp) ?_
              refine AllReadyH.cons (by simp only [List.getElem?_toArray, List.getElem?_cons_succ, List.getElem?_cons_zero]; rfl) (fun K hK => ?_) AllReadyH.nil
              have hb0 := HBxbB.out.c0
              have hb1 := HBxbB.out.c1
              have hb2 := HBxbB.out.c2
              have hbf := HBxbB.out.fz
              have hbl := HLbB.out
              go_simp
              obtain ⟨wvc, hwA⟩ : ∃ wA : World, wA = (((World.setCell wvb ⟨bB, 0, none⟩ (.int .i64 yi)).setCell ⟨bB, 1, none⟩ (.int .i64 yl)).setCell ⟨bB, 2, none⟩ (.int .i64 ys)) := ⟨_, rfl⟩
              have hS2 : wvc.cell? ⟨w.heap.size, 0, none⟩ = some (.slice c0 t.net.stops.length d0) ∧ wvc.cell? ⟨w.heap.size, 1, none⟩ = some (.slice c1 t.net.lines.length d1) ∧ wvc.cell? ⟨w.heap.size, 2, none⟩ = some (.slice c2 t.trips.length d2) ∧ wvc.cell? ⟨w.heap.size + 1, 0, none⟩ = some (.slice fa f.dead.length fc) ∧ wvc.cell? ⟨w.heap.size + 1, 1, none⟩ = some (.int .i64 f.turn) ∧ wvc.cell? ⟨pb, po + m, none⟩ = some (.int .i64 idp) ∧ wvc.cell? ⟨pb, po + (m + 1), none⟩ = some (.int .i64 id) ∧ wvc.cell? ⟨bA, 0, none⟩ = some (.int .i64 xi) ∧ wvc.cell? ⟨bA, 1, none⟩ = some (.int .i64 xl) ∧ wvc.cell? ⟨bA, 2, none⟩ = some (.int .i64 xs) := by rw [hwA]; exact ⟨(set3_cell (by dsimp only; omega)).trans p0, (set3_cell (by dsimp only; omega)).trans p1, (set3_cell (by dsimp only; omega)).trans p2, (set3_cell (by dsimp only; omega)).trans q0, (set3_cell (by dsimp only; omega)).trans q1, (set3_cell (by dsimp only; omega)).trans zP, (set3_cell (by dsimp only; omega)).trans zK, (set3_cell (by dsimp only; omega)).trans x0, (set3_cell (by dsimp only; omega)).trans x1, (set3_cell (by dsimp only; omega)).trans x2⟩
              have HBxbBc : Hid (TripBox wvc bB ⟨yi, yl, ys⟩) := by rw [hwA]; exact HBxbB.out.set _ _ _
              have HBv3 : Hid (Below w.heap.size w wvc ∧ w.heap.size + 2 ≤ wvc.heap.size) := by rw [hwA]; exact ⟨((HBv2.out.1.setCell (p := ⟨bB, 0, none⟩) (by dsimp only; omega) _).setCell (p := ⟨bB, 1, none⟩) (by dsimp only; omega) _).setCell (p := ⟨bB, 2, none⟩) (by dsimp only; omega) _, by simpa [World.setCell] using HBv2.out.2⟩
              rw [← hwA]
              clear hwA hb0 hb1 hb2 hbf
              refine hK.out _ _ hS2 (fun hH10 => ?_)
              obtain ⟨p0, p1, p2, q0, q1, zP, zK, x0, x1, x2⟩ := hS2
              clear HBxbB HBv2
              clear hK K
              try simp only [Act.put, List.setIfInBounds_toArray, List.set_cons_zero, List.set_cons_succ]
              refine wpAnyH_take (i := 11) (v := ?_) (by simp only [List.getElem?_toArray, List.getElem?_cons_succ, List.getElem?_cons_zero]; rfl) (by kernel_rfl) (by kernel_rfl) (by kernel_rfl) (by exact fun _ _ _ h => h) (Or.inl ⟨by rfl, ?_⟩) (by assumption) ?_
              rotate_left
              · intro w' hSw; obtain ⟨e0, e1, e2, e3, e4, e5, e6, e7, e8, e9⟩ := hSw
                go_simp; try with_reducible rfl
              try simp only [Act.put, List.setIfInBounds_toArray, List.set_cons_zero, List.set_cons_succ]
              refine wpAnyH_done (by kernel_rfl) ?_ _
              have y0 := HBxbBc.out.c0
              have y1 := HBxbBc.out.c1
              have y2 := HBxbBc.out.c2
              have HB9 := HBv3
              clear HBxbBc HT1 HT2
              go_wp2_with fail
              go_at_call 100
              refine (HD.out _ HB9.out.1).mono ?_
              rintro e w9 ⟨rfl, hb9⟩
              have HB10 : Hid (Below w.heap.size w w9 ∧ w.heap.size + 2 ≤ w9.heap.size) := ⟨HB9.out.1.trans (hb9.mono HB9.out.1.size), Nat.le_trans HB9.out.2 hb9.size⟩
              have p0 := bkeep hb9 p0
              have p1 := bkeep hb9 p1
              have p2 := bkeep hb9 p2
              have q0 := bkeep hb9 q0
              have q1 := bkeep hb9 q1
              clear hb9 x0 x1 x2 y0 y1 y2 zP zK
              go_wp2_with fail
              go_roundw
              case rel => exact ⟨m + 1, by omega, by go_num, by rw [HSum.out], p0, p1, p2, q0, q1, HB10⟩
              case measure => simp [RowKit.intOf]; omega
        · obtain hmE : m + 1 = bs[i].length := by omega
          have HE : Hid (Di + deadTo t f bs[i] (m + 1) = deadS t f bs (i + 1)) := by show _ = _; rw [HSs.out, hmE]
          have hk1 : ¬ ((m + 1 : Nat) : Int) < (bs[i].length : Int) := by omega
          rw [HE.out]
          clear hmE
          go_wp2_with fail
          refine ⟨⟨i + 1, by omega, by go_num, rfl, p0, p1, p2, q0, q1, HB⟩, ?_⟩
          simp [RowKit.intOf]; omega
    · obtain rfl : i = bs.length := by omega
      go_wp2_with fail
      go_ret
      exact ⟨rfl, HB.out.1⟩

theorem keepF8 {W w w' : World} {p0 p1 p2 p3 p4 p5 p6 p7 : Addr} {x0 x1 x2 x3 x4 x5 x6 x7 : Value} (hb : Below w.heap.size w w') (h : w.cell? p0 = some x0 ∧ w.cell? p1 = some x1 ∧ w.cell? p2 = some x2 ∧ w.cell? p3 = some x3 ∧ w.cell? p4 = some x4 ∧ w.cell? p5 = some x5 ∧ w.cell? p6 = some x6 ∧ w.cell? p7 = some x7 ∧ Below W.heap.size W w) : w'.cell? p0 = some x0 ∧ w'.cell? p1 = some x1 ∧ w'.cell? p2 = some x2 ∧ w'.cell? p3 = some x3 ∧ w'.cell? p4 = some x4 ∧ w'.cell? p5 = some x5 ∧ w'.cell? p6 = some x6 ∧ w'.cell? p7 = some x7 ∧ Below W.heap.size W w' := by
  obtain ⟨h0, h1, h2, h3, h4, h5, h6, h7, hl⟩ := h
  exact ⟨bkeep hb h0, bkeep hb h1, bkeep hb h2, bkeep hb h3, bkeep hb h4, bkeep hb h5, bkeep hb h6, bkeep hb h7, hl.trans (hb.mono hl.size)⟩
theorem belF8 {W w : World} {p0 p1 p2 p3 p4 p5 p6 p7 : Addr} {x0 x1 x2 x3 x4 x5 x6 x7 : Value} (h : w.cell? p0 = some x0 ∧ w.cell? p1 = some x1 ∧ w.cell? p2 = some x2 ∧ w.cell? p3 = some x3 ∧ w.cell? p4 = some x4 ∧ w.cell? p5 = some x5 ∧ w.cell? p6 = some x6 ∧ w.cell? p7 = some x7 ∧ Below W.heap.size W w) : Below W.heap.size W w := h.2.2.2.2.2.2.2.2

set_option maxRecDepth 100000 in
set_option maxHeartbeats 8000000 in
theorem l11Sum_any (tv fv bv : Value) (t : TTD) (f : FleetD) (bs : List (List Int)) (w : World) (hr : TTAt w tv t) (hsm : TTSmall t) (hg : FleetAt w fv f) (hA : AskedGood t f) (hb : GrpsAt w bv bs) (hbs : GrpsSmall bs) (hfn : AllFnd t bs) :
    Calls Try.prog 77 #[tv, fv, bv] w fun e w' => e = .returned (.int .i64 (deadAll t f bs)) ∧ Below w.heap.size w w' := by
  have HFd := Lib.hid (fun W (h : Below w.heap.size w W) id => l5Find_any tv t id W (hr.below rfl h) hsm)
  have HDG := Lib.hid (fun (a b : Nat) (ha : a < t.trips.length) (hb : b < t.trips.length) W (h : Below w.heap.size w W) => l11Dead_any tv fv t f a b W (hr.below rfl h) (hg.below rfl h) hA ha hb)
  have HGr := Lib.hid hb
  have HG := Lib.hid hA
  have HFn := Lib.hid hfn
  have hsz := hbs.1
  have HSb : Hid (∀ i, i ≤ bs.length → 0 ≤ deadS t f bs i ∧ deadS t f bs i ≤ 125829120) := fun i hi => by
    have h1 := deadS_in hA.1 hA.2 hfn i hi
    have h2 := preL_le (xss := bs) hi
    have := hbs.2
    omega
  have HSm : Hid (∀ i (h : i < bs.length), bs[i].length ≤ 1048576) := fun i h => by
    have e1 := preL_succ h
    have e2 := preL_le (xss := bs) (i := i + 1) (by omega)
    have := hbs.2
    omega
  have HTb : Hid (∀ i (h : i < bs.length) k, k ≤ bs[i].length → 0 ≤ deadTo t f bs[i] k ∧ deadTo t f bs[i] k ≤ 125829120) := fun i h k hk => by
    have h1 := deadTo_in hA.1 hA.2 (hfn i h).2 k hk
    have e1 := preL_succ h
    have e2 := preL_le (xss := bs) (i := i + 1) (by omega)
    have := hbs.2
    omega
  obtain ⟨c0, d0, c1, d1, c2, d2, rfl, -, -⟩ := tt_open hr
  obtain ⟨fa, fc, rfl, -⟩ := fleet_open hg
  obtain ⟨ba, bc, rfl⟩ := IntSS_open hb
  clear hr hg hb hbs hA hfn hsm
  go_enter Try.func77, Try.ntmps77
  go_wp2_with fail
  go_loopw [7, 8] (fun dv q wr => ∃ i : Nat, i ≤ bs.length ∧ q = .int .i64 i ∧ dv = .int .i64 (deadS t f bs i) ∧ wr.cell? ⟨w.heap.size, 0, none⟩ = some (.slice c0 t.net.stops.length d0) ∧ wr.cell? ⟨w.heap.size, 1, none⟩ = some (.slice c1 t.net.lines.length d1) ∧ wr.cell? ⟨w.heap.size, 2, none⟩ = some (.slice c2 t.trips.length d2) ∧ wr.cell? ⟨w.heap.size + 1, 0, none⟩ = some (.slice fa f.dead.length fc) ∧ wr.cell? ⟨w.heap.size + 1, 1, none⟩ = some (.int .i64 f.turn) ∧ Hid (Below w.heap.size w wr ∧ w.heap.size + 2 ≤ wr.heap.size))
    (fun _ q _ => bs.length - (RowKit.intOf q).toNat)
  case atStart => exact ⟨0, Nat.zero_le _, rfl, rfl, by go_simp, by go_simp, by go_simp, by go_simp, by go_simp, ((Below.refl _ _).alloc (Nat.le_refl _) _).alloc (by simp) _, by simp⟩
  case round =>
    obtain ⟨i, hi, rfl, rfl, p0, p1, p2, q0, q1, HB⟩ := hrel
    by_cases hlt : i < bs.length
    · obtain ⟨vb, vo, rfl, hC⟩ := grp_cells HGr.out (by omega)
      have hpos := (HFn.out i hlt).1
      obtain ⟨pb, po, pc, hy⟩ := (hC i hlt).2 hpos
      have HY := Lib.hid hy
      have hi1 : (i : Int) < (bs.length : Int) := by omega
      have hrs := HSm.out i hlt
      have hsb := HSb.out i hi
      have HSs := Lib.hid (deadS_succ (t := t) (f := f) hlt)
      generalize hD : deadS t f bs i = Di at *
      clear hD hy hC
      go_wp2_with fail
      go_loopw [7, 9] (fun dv q wr2 => ∃ m : Nat, m + 1 ≤ bs[i].length ∧ q = .int .i64 ((m + 1 : Nat) : Int) ∧ dv = .int .i64 (Di + deadTo t f bs[i] (m + 1)) ∧ wr2.cell? ⟨w.heap.size, 0, none⟩ = some (.slice c0 t.net.stops.length d0) ∧ wr2.cell? ⟨w.heap.size, 1, none⟩ = some (.slice c1 t.net.lines.length d1) ∧ wr2.cell? ⟨w.heap.size, 2, none⟩ = some (.slice c2 t.trips.length d2) ∧ wr2.cell? ⟨w.heap.size + 1, 0, none⟩ = some (.slice fa f.dead.length fc) ∧ wr2.cell? ⟨w.heap.size + 1, 1, none⟩ = some (.int .i64 f.turn) ∧ Hid (Below w.heap.size w wr2 ∧ w.heap.size + 2 ≤ wr2.heap.size))
        (fun _ q _ => bs[i].length - (RowKit.intOf q).toNat)
      case atStart => exact ⟨0, by omega, rfl, by rw [deadTo_one]; simp, p0, p1, p2, q0, q1, HB⟩
      case round =>
        clear p0 p1 p2 q0 q1 HB
        obtain ⟨m, hm, rfl, rfl, p0, p1, p2, q0, q1, HB⟩ := hrel
        have htb := HTb.out i hlt (m + 1) hm
        have yI := (HY.out _ HB.out.1).1
        by_cases hml : m + 1 < bs[i].length
        · have zP := (HY.out _ HB.out.1).2 m (by omega)
          have zK := (HY.out _ HB.out.1).2 (m + 1) hml
          have htb2 := HTb.out i hlt (m + 2) (by omega)
          have hk1 : ((m + 1 : Nat) : Int) < (bs[i].length : Int) := by omega
          have hk5 : (m : Int) + 1 < (bs[i].length : Int) := by omega
          have hk6 : (0 : Int) ≤ (m : Int) + 1 := by omega
          have htn : ((m : Int) + 1).toNat = m + 1 := by omega
          have hwm : IntKind.i64.wrap (m : Int) = (m : Int) := IntWalk.i64_in _ (by omega)
          have hkm : ((m + 1 : Nat) : Int) - 1 = (m : Int) := by omega
          have hm1 : (m : Int) < (bs[i].length : Int) := by omega
          have hs := deadTo_succ (t := t) (f := f) hml
          rw [hs] at htb2
          have hf1 := (HFn.out i hlt).2 m (by omega)
          have hf2 := (HFn.out i hlt).2 (m + 1) hml
          have HSum : Hid (Di + deadTo t f bs[i] (m + 1 + 1) = Di + deadTo t f bs[i] (m + 1) + deadF t.net f (tripOf t (bs[i][m]'(by omega))) (tripOf t bs[i][m + 1])) := by show _ = _; rw [hs]; omega
          obtain ⟨g1, g2⟩ := findI_yes HG.out.1 hf1
          obtain ⟨g3, g4⟩ := findI_yes HG.out.1 hf2
          have HD := Lib.hid (HDG.out _ _ g2 g4)
          rw [← tripOf_at hf1, ← tripOf_at hf2, ← g1, ← g3] at HD
          clear hs hf1 hf2 g1 g2 g3 g4
          generalize (bs[i][m]'(by omega)) = idp at *
          generalize bs[i][m + 1] = id at *
          generalize hde : deadF t.net f (tripOf t idp) (tripOf t id) = D at *
          clear hde
          have hwS : IntKind.i64.wrap (Di + deadTo t f bs[i] (m + 1) + D) = Di + deadTo t f bs[i] (m + 1) + D := IntWalk.i64_in _ (by omega)
          generalize hSo : Di + deadTo t f bs[i] (m + 1) = So at *
          clear hSo htb htb2
          go_upto_region 8 with fail
          go_region_held3 (fun w' => w'.cell? ⟨w.heap.size, 0, none⟩ = some (.slice c0 t.net.stops.length d0) ∧ w'.cell? ⟨w.heap.size, 1, none⟩ = some (.slice c1 t.net.lines.length d1) ∧ w'.cell? ⟨w.heap.size, 2, none⟩ = some (.slice c2 t.trips.length d2) ∧ w'.cell? ⟨w.heap.size + 1, 0, none⟩ = some (.slice fa f.dead.length fc) ∧ w'.cell? ⟨w.heap.size + 1, 1, none⟩ = some (.int .i64 f.turn) ∧ w'.cell? ⟨vb, vo + i, none⟩ = some (.slice (some ⟨pb, po, none⟩) bs[i].length pc) ∧ w'.cell? ⟨pb, po + m, none⟩ = some (.int .i64 idp) ∧ w'.cell? ⟨pb, po + (m + 1), none⟩ = some (.int .i64 id) ∧ Below wr.heap.size wr w')
            (first | (exact ⟨p0, p1, p2, q0, q1, yI, zP, zK, (Below.refl _ _).drew⟩) | (exact keepF8 hb (by assumption)))
            (first | (go_at_call 57; refine (HFd.out _ (HB.out.1.trans ((belF8 (by assumption)).mono HB.out.1.size)) _).mono ?_; rintro e w' ⟨rfl, hb⟩) | (go_at_call 97; refine (HD.out _ (HB.out.1.trans ((belF8 (by assumption)).mono HB.out.1.size))).mono ?_; rintro e w' ⟨rfl, hb⟩))
          all_goals
            obtain ⟨p0, p1, p2, q0, q1, yI, zP, zK, qb⟩ := (by assumption : _ ∧ _)
            have HB2 : Hid (Below w.heap.size w _ ∧ w.heap.size + 2 ≤ _) := ⟨HB.out.1.trans (qb.mono HB.out.1.size), Nat.le_trans HB.out.2 qb.size⟩
            clear qb
            go_wp2_with fail
            go_roundw
            case rel => exact ⟨m + 1, by omega, by go_num, by rw [HSum.out], p0, p1, p2, q0, q1, HB2⟩
            case measure => simp [RowKit.intOf]; omega
        · obtain hmE : m + 1 = bs[i].length := by omega
          have HE : Hid (Di + deadTo t f bs[i] (m + 1) = deadS t f bs (i + 1)) := by show _ = _; rw [HSs.out, hmE]
          have hk1 : ¬ ((m + 1 : Nat) : Int) < (bs[i].length : Int) := by omega
          rw [HE.out]
          clear hmE
          go_wp2_with fail
          refine ⟨⟨i + 1, by omega, by go_num, rfl, p0, p1, p2, q0, q1, HB⟩, ?_⟩
          simp [RowKit.intOf]; omega
    · obtain rfl : i = bs.length := by omega
      go_wp2_with fail
      go_ret
      exact ⟨rfl, HB.out.1⟩
end Go.Proofs.Ytehpeifaknbcnaa
