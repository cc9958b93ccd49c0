import Derived.Test.YtehpeifaknbcnaaMk32
import Derived.Test.YtehpeifaknbcnaaMk34
import Derived.Test.YtehpeifaknbcnaaMk14
import Derived.RegionTactic
import Derived.BigRegion
namespace Go.Proofs.Ytehpeifaknbcnaa
open Go.RowKit
set_option linter.unusedVariables false
set_option linter.unusedSimpArgs false

theorem foldl_min : ∀ (xs : List Int) (a : Int), (xs.foldl min a = a ∨ xs.foldl min a ∈ xs) ∧ xs.foldl min a ≤ a ∧ ∀ x ∈ xs, xs.foldl min a ≤ x
  | [], a => ⟨.inl rfl, Int.le_refl _, fun x h => by simp at h⟩
  | y :: xs, a => by
    obtain ⟨h1, h2, h3⟩ := foldl_min xs (min a y)
    simp only [List.foldl_cons]
    refine ⟨?_, by omega, fun x hx => ?_⟩
    · rcases h1 with h | h
      · rw [h]
        by_cases c : a ≤ y
        · exact .inl (by omega)
        · exact .inr (by rw [show min a y = y by omega]; simp)
      · exact .inr (by simp [h])
    · rcases List.mem_cons.1 hx with e | e
      · subst e; omega
      · exact h3 x e
theorem foldl_max : ∀ (xs : List Int) (a : Int), (xs.foldl max a = a ∨ xs.foldl max a ∈ xs) ∧ a ≤ xs.foldl max a ∧ ∀ x ∈ xs, x ≤ xs.foldl max a
  | [], a => ⟨.inl rfl, Int.le_refl _, fun x h => by simp at h⟩
  | y :: xs, a => by
    obtain ⟨h1, h2, h3⟩ := foldl_max xs (max a y)
    simp only [List.foldl_cons]
    refine ⟨?_, by omega, fun x hx => ?_⟩
    · rcases h1 with h | h
      · rw [h]
        by_cases c : y ≤ a
        · exact .inl (by omega)
        · exact .inr (by rw [show max a y = y by omega]; simp)
      · exact .inr (by simp [h])
    · rcases List.mem_cons.1 hx with e | e
      · subst e; omega
      · exact h3 x e
theorem min_all {xs : List Int} (h : 0 < xs.length) (lo : Int) : (¬ Lib.minOf xs < lo) ↔ ∀ x ∈ xs, lo ≤ x := by
  cases xs with
  | nil => simp at h
  | cons a r =>
    obtain ⟨h1, h2, h3⟩ := foldl_min (a :: r) a
    have e : Lib.minOf (a :: r) = (a :: r).foldl min a := rfl
    rw [e]
    constructor
    · intro g x hx; have := h3 x hx; omega
    · intro g
      rcases h1 with q | q
      · rw [q]; have := g a (by simp); omega
      · have := g _ q; omega
theorem max_all {xs : List Int} (h : 0 < xs.length) (hi : Int) : (¬ Lib.maxOf xs > hi) ↔ ∀ x ∈ xs, x ≤ hi := by
  cases xs with
  | nil => simp at h
  | cons a r =>
    obtain ⟨h1, h2, h3⟩ := foldl_max (a :: r) a
    have e : Lib.maxOf (a :: r) = (a :: r).foldl max a := rfl
    rw [e]
    constructor
    · intro g x hx; have := h3 x hx; omega
    · intro g
      rcases h1 with q | q
      · rw [q]; have := g a (by simp); omega
      · have := g _ q; omega
theorem row_cells {w : World} {b off n c : Nat} {xs : List Int} (h : RowAt w (.slice (some ⟨b, off, none⟩) n c) (ints xs)) : ∀ j, j < xs.length → w.cell? ⟨b, off + j, none⟩ = some (.int .i64 (xs.getD j 0)) := by
  intro j hj
  obtain ⟨a, c', he, _, _, HC⟩ := ints_open h
  obtain ⟨b', off', ha, _, hx⟩ := HC.out j hj
  simp at he
  obtain ⟨⟨rfl, rfl⟩, _⟩ := (show (b = b' ∧ off = off') ∧ True by
    have h1 := he.1
    rw [ha] at h1
    simp at h1
    exact ⟨h1, trivial⟩)
  rw [hx]
  simp [hj]

set_option maxRecDepth 100000 in
set_option maxHeartbeats 2000000 in
theorem implFleet_any (nv fv : Value) (n : NetD) (f : FleetD) (w : World) (hr : NetAt w nv n) (hf : NetFits n) (hg : FleetAt w fv f) (hs : GrpsSmall f.dead) :
    Calls Try.prog 16 #[nv, fv] w fun e w' => e = .returned (.bool (fleetB n f)) ∧ Below w.heap.size w w' := by
  have HV := Lib.hid (fun W (h : Below w.heap.size w W) => implValid_any nv n W (hr.below rfl h) hf)
  obtain ⟨na, nc, na', nc', rfl, -, -⟩ := net_open hr
  obtain ⟨a, c, rfl, vs, h1, h2, h3⟩ := fleet_open hg
  have HR := Lib.hid h1
  have HE := Lib.hid h3
  have hsz := hs.1
  have HSm : Hid (∀ i (h : i < f.dead.length), f.dead[i].length ≤ 1048576) := fun i h => by
    have e1 := preL_succ h
    have e2 := preL_le (xss := f.dead) (i := i + 1) (by omega)
    have := hs.2
    omega
  clear hr hg h1 h3 hs hf
  by_cases hn : NetGood n
  · rw [netB_yes hn] at HV
    have HN := Lib.hid hn
    have hst : 2 ≤ n.stops.length ∧ n.stops.length ≤ 8 := ⟨hn.1.1, hn.1.2.1⟩
    clear hn
    have hways : (f.turn < 0) ∨ (0 ≤ f.turn ∧ 30 < f.turn) ∨ (0 ≤ f.turn ∧ f.turn ≤ 30 ∧ f.dead.length ≠ n.stops.length) ∨ (0 ≤ f.turn ∧ f.turn ≤ 30 ∧ f.dead.length = n.stops.length) := by omega
    rcases hways with h0 | ⟨h0, h1⟩ | ⟨h0, h1, h4⟩ | ⟨h0, h1, h4⟩
    rotate_left 3
    · have hne : ((f.dead.length : Int) != (n.stops.length : Int)) = false := by simp [h4]
      have H4 := Lib.hid h4
      have hkn : ∀ k, k < f.dead.length → k < n.stops.length := fun k h => by omega
      have HKn := Lib.hid hkn
      clear h4 hkn
      go_enter Try.func16, Try.ntmps16
      go_wp2_with fail
      go_at_call 51
      refine (HV.out _ (((Below.refl _ _).alloc (Nat.le_refl _) _).alloc (by simp) _)).mono ?_
      rintro e w1 ⟨rfl, hb1⟩
      have HB1 : Hid (Below w.heap.size w w1) := (((Below.refl _ _).alloc (Nat.le_refl _) _).alloc (by simp) _).trans (hb1.mono (by simp; omega))
      have p0 : w1.cell? ⟨w.heap.size, 0, none⟩ = some (.slice na n.stops.length nc) := bkeep hb1 (by go_simp)
      have p1 : w1.cell? ⟨w.heap.size + 1, 0, none⟩ = some (.slice a f.dead.length c) := bkeep hb1 (by go_simp)
      have p2 : w1.cell? ⟨w.heap.size + 1, 1, none⟩ = some (.int .i64 f.turn) := bkeep hb1 (by go_simp)
      clear hb1
      go_wp2_with fail
      go_loopw [32] (fun i wr => ∃ k : Nat, k ≤ f.dead.length ∧ i = .int .i64 k ∧ Hid (FleetTo n f k) ∧ wr.cell? ⟨w.heap.size, 0, none⟩ = some (.slice na n.stops.length nc) ∧ Hid (Below w.heap.size w wr))
        (fun i _ => f.dead.length - (RowKit.intOf i).toNat)
      case atStart => exact ⟨0, Nat.zero_le _, rfl, (fun j hj h => by omega), p0, HB1⟩
      case round =>
        clear p0 p1 p2 HB1
        obtain ⟨k, hk, rfl, HTo, p0, HB⟩ := hrel
        by_cases hlt : k < f.dead.length
        · have hrow := (HE.out k hlt (by omega)).below rfl HB.out
          obtain ⟨b, off, rfl, hbl, y⟩ := rowAt_cell (RowAt.below HR.out rfl HB.out) k (by omega)
          have HStep : Hid (DeadRow n.stops.length f.dead[k] k → FleetTo n f (k + 1)) := fun h => fleetTo_succ hlt HTo.out h
          have HNo : Hid (¬ DeadRow n.stops.length f.dead[k] k → fleetB n f = false) := fun h => fleetB_no (fun g => h (g.2.2.2 k hlt hlt))
          have hk1 : (k : Int) < (f.dead.length : Int) := by omega
          have hrs := HSm.out k hlt
          clear HTo
          generalize vs[k] = x at *
          generalize f.dead[k] = row at *
          by_cases hl : row.length = n.stops.length
          · obtain ⟨ra, rc, rfl, hcc, hmm, HC⟩ := ints_open hrow
            have hkn := HKn.out k hlt
            have hkr : k < row.length := by omega
            obtain ⟨b2, off2, rfl, hb2, z⟩ := HC.out k hkr
            have hl1 : ((row.length : Int) != (n.stops.length : Int)) = false := by simp [hl]
            have hk2 : (k : Int) < (row.length : Int) := by omega
            have hpos : 0 < row.length := by omega
            have HL := Lib.hid hl
            clear hl
            have hzd : row.getD k 0 = row[k]'hkr := by simp [hkr]
            by_cases hz : row[k]'hkr = 0
            · have hz1 : (row[k]'hkr != 0) = false := by simp [hz]
              have HMin := Lib.hid (fun W (hW : W = wr) => Try.slices_Min_int b2 off2 row.length rc row W hpos (Nat.le_refl _) (by omega) (by subst hW; exact row_cells hrow))
              have HMax := Lib.hid (fun W (hW : W = wr) => Try.slices_Max_int b2 off2 row.length rc row W hpos (Nat.le_refl _) (by omega) (by subst hW; exact row_cells hrow))
              rw [List.take_of_length_le (Nat.le_refl _)] at HMin HMax
              have HMA := Lib.hid (min_all (xs := row) hpos 0)
              have HXA := Lib.hid (max_all (xs := row) hpos 120)
              rw [hz] at hz1 z
              clear HC
              generalize Lib.minOf row = mn at *
              generalize Lib.maxOf row = mx at *
              by_cases hmn : mn < 0
              · have HF : Hid (fleetB n f = false) := HNo.out (fun h => (HMA.out.2 (fun x hx => (h.2.2 x hx).1)) hmn)
                go_wp2_with fail
                go_at_call 52
                refine (HMin.out _ rfl).mono ?_
                rintro e w2 ⟨rfl, rfl⟩
                go_wp2_with fail
                go_ret
                exact ⟨by rw [HF.out]; rfl, HB.out⟩
              · by_cases hmx : mx > 120
                · have HF : Hid (fleetB n f = false) := HNo.out (fun h => (HXA.out.2 (fun x hx => (h.2.2 x hx).2)) hmx)
                  go_wp2_with fail
                  go_at_call 52
                  refine (HMin.out _ rfl).mono ?_
                  rintro e w2 ⟨rfl, rfl⟩
                  go_wp2_with fail
                  go_at_call 53
                  refine (HMax.out _ rfl).mono ?_
                  rintro e w2 ⟨rfl, rfl⟩
                  go_wp2_with fail
                  go_ret
                  exact ⟨by rw [HF.out]; rfl, HB.out⟩
                · have HS : Hid (FleetTo n f (k + 1)) := HStep.out ⟨HL.out, by rw [hzd, hz], fun d hd => ⟨HMA.out.1 hmn d hd, HXA.out.1 hmx d hd⟩⟩
                  go_wp2_with fail
                  go_at_call 52
                  refine (HMin.out _ rfl).mono ?_
                  rintro e w2 ⟨rfl, rfl⟩
                  go_wp2_with fail
                  go_at_call 53
                  refine (HMax.out _ rfl).mono ?_
                  rintro e w2 ⟨rfl, rfl⟩
                  go_wp2_with fail
                  go_roundw
                  case rel => exact ⟨k + 1, by omega, by go_num, HS, p0, HB⟩
                  case measure => simp [RowKit.intOf]; omega
            · have hz1 : (row[k]'hkr != 0) = true := by simp [hz]
              have HF : Hid (fleetB n f = false) := HNo.out (fun h => hz (by rw [← hzd]; exact h.2.1))
              clear hzd hz HC
              generalize row[k]'hkr = q at *
              go_wp2_with fail
              go_ret
              exact ⟨by rw [HF.out]; rfl, HB.out⟩
          · have HF : Hid (fleetB n f = false) := HNo.out (fun h => hl h.1)
            have hl1 : ((row.length : Int) != (n.stops.length : Int)) = true := by simp; omega
            obtain ⟨ra, rc, rfl, hcc, hmm, HC⟩ := ints_open hrow
            go_wp2_with fail
            go_ret
            exact ⟨by rw [HF.out]; rfl, HB.out⟩
        · obtain rfl : k = f.dead.length := by omega
          have HF : Hid (fleetB n f = true) := fleetB_yes ⟨HN.out, ⟨h0, h1⟩, H4.out, HTo.out⟩
          go_wp2_with fail
          go_ret
          exact ⟨by rw [HF.out]; rfl, HB.out⟩
    all_goals
      have HF : Hid (fleetB n f = false) := fleetB_no (fun g => by have := g.2.1; have := g.2.2.1; omega)
      try have hne : ((f.dead.length : Int) != (n.stops.length : Int)) = true := by simp; omega
      go_enter Try.func16, Try.ntmps16
      go_wp2_with fail
      go_at_call 51
      refine (HV.out _ (((Below.refl _ _).alloc (Nat.le_refl _) _).alloc (by simp) _)).mono ?_
      rintro e w1 ⟨rfl, hb1⟩
      have HB1 : Hid (Below w.heap.size w w1) := (((Below.refl _ _).alloc (Nat.le_refl _) _).alloc (by simp) _).trans (hb1.mono (by simp; omega))
      have p0 : w1.cell? ⟨w.heap.size, 0, none⟩ = some (.slice na n.stops.length nc) := bkeep hb1 (by go_simp)
      have p1 : w1.cell? ⟨w.heap.size + 1, 0, none⟩ = some (.slice a f.dead.length c) := bkeep hb1 (by go_simp)
      have p2 : w1.cell? ⟨w.heap.size + 1, 1, none⟩ = some (.int .i64 f.turn) := bkeep hb1 (by go_simp)
      clear hb1
      go_wp2_with fail
      go_ret
      exact ⟨by rw [HF.out]; rfl, HB1.out⟩
  · rw [netB_no hn] at HV
    have HF : Hid (fleetB n f = false) := fleetB_no (fun g => hn g.1)
    go_enter Try.func16, Try.ntmps16
    go_wp2_with fail
    go_at_call 51
    refine (HV.out _ (((Below.refl _ _).alloc (Nat.le_refl _) _).alloc (by simp) _)).mono ?_
    rintro e w1 ⟨rfl, hb1⟩
    go_wp2_with fail
    go_ret
    exact ⟨by rw [HF.out]; rfl, (((Below.refl _ _).alloc (Nat.le_refl _) _).alloc (by simp) _).trans (hb1.mono (by simp; omega))⟩

set_option maxRecDepth 100000 in
set_option maxHeartbeats 2000000 in
theorem l11Fleet_any (nv fv : Value) (n : NetD) (f : FleetD) (w : World) (hr : NetAt w nv n) (hf : NetFits n) (hg : FleetAt w fv f) (hs : GrpsSmall f.dead) :
    Calls Try.prog 48 #[nv, fv] w fun e w' => e = .returned (.bool (fleetB n f)) ∧ Below w.heap.size w w' := by
  have HV := Lib.hid (fun W (h : Below w.heap.size w W) => l2Good_any nv n W (hr.below rfl h) hf)
  obtain ⟨na, nc, na', nc', rfl, -, -⟩ := net_open hr
  obtain ⟨a, c, rfl, vs, h1, h2, h3⟩ := fleet_open hg
  have HR := Lib.hid h1
  have HE := Lib.hid h3
  have hsz := hs.1
  have HSm : Hid (∀ i (h : i < f.dead.length), f.dead[i].length ≤ 1048576) := fun i h => by
    have e1 := preL_succ h
    have e2 := preL_le (xss := f.dead) (i := i + 1) (by omega)
    have := hs.2
    omega
  clear hr hg h1 h3 hs hf
  by_cases hn : NetGood n
  · rw [netB_yes hn] at HV
    have HN := Lib.hid hn
    have hst : 2 ≤ n.stops.length ∧ n.stops.length ≤ 8 := ⟨hn.1.1, hn.1.2.1⟩
    clear hn
    by_cases h4 : f.dead.length = n.stops.length
    · have hne : ((f.dead.length : Int) != (n.stops.length : Int)) = false := by simp [h4]
      have H4 := Lib.hid h4
      have hkn : ∀ k, k < f.dead.length → k < n.stops.length := fun k h => by omega
      have HKn := Lib.hid hkn
      clear h4 hkn
      by_cases ht : 0 ≤ f.turn ∧ f.turn ≤ 30
      · have HT := Lib.hid (fun W => l1In_yes f.turn 0 30 W ht)
        go_enter Try.func48, Try.ntmps48
        go_wp2_with fail
        go_at_call 91
        refine (HV.out _ (((Below.refl _ _).alloc (Nat.le_refl _) _).alloc (by simp) _)).mono ?_
        rintro e w1 ⟨rfl, hb1⟩
        have HB1 : Hid (Below w.heap.size w w1) := (((Below.refl _ _).alloc (Nat.le_refl _) _).alloc (by simp) _).trans (hb1.mono (by simp; omega))
        have p0 : w1.cell? ⟨w.heap.size, 0, none⟩ = some (.slice na n.stops.length nc) := bkeep hb1 (by go_simp)
        have p1 : w1.cell? ⟨w.heap.size + 1, 0, none⟩ = some (.slice a f.dead.length c) := bkeep hb1 (by go_simp)
        have p2 : w1.cell? ⟨w.heap.size + 1, 1, none⟩ = some (.int .i64 f.turn) := bkeep hb1 (by go_simp)
        clear hb1
        go_wp2_with fail
        go_at_call 92
        refine (HT.out _).mono ?_
        rintro e w2 ⟨rfl, rfl⟩
        go_wp2_with fail
        go_loopw [5] (fun i wr => ∃ k : Nat, k ≤ f.dead.length ∧ i = .int .i64 k ∧ Hid (FleetTo n f k) ∧ wr.cell? ⟨w.heap.size, 0, none⟩ = some (.slice na n.stops.length nc) ∧ wr.cell? ⟨w.heap.size + 1, 0, none⟩ = some (.slice a f.dead.length c) ∧ Hid (Below w.heap.size w wr))
          (fun i _ => f.dead.length - (RowKit.intOf i).toNat)
        case atStart => exact ⟨0, Nat.zero_le _, rfl, (fun j hj h => by omega), p0, p1, HB1⟩
        case round =>
          clear p0 p1 p2 HB1
          obtain ⟨k, hk, rfl, HTo, p0, p1, HB⟩ := hrel
          by_cases hlt : k < f.dead.length
          · have hrow := (HE.out k hlt (by omega)).below rfl HB.out
            obtain ⟨b, off, rfl, hbl, y⟩ := rowAt_cell (RowAt.below HR.out rfl HB.out) k (by omega)
            have HStep : Hid (DeadRow n.stops.length f.dead[k] k → FleetTo n f (k + 1)) := fun h => fleetTo_succ hlt HTo.out h
            have HNo : Hid (¬ DeadRow n.stops.length f.dead[k] k → fleetB n f = false) := fun h => fleetB_no (fun g => h (g.2.2.2 k hlt hlt))
            have hk1 : (k : Int) < (f.dead.length : Int) := by omega
            have hrs := HSm.out k hlt
            have HEk : Hid (∀ W, Below w.heap.size w W → W.cell? ⟨b, off + k, none⟩ = some vs[k] ∧ RowAt W vs[k] (ints f.dead[k])) := fun W hW => ⟨by
              obtain ⟨b', off', he, _, y'⟩ := rowAt_cell (RowAt.below HR.out rfl hW) k (by omega)
              simp at he
              obtain ⟨rfl, rfl⟩ := he
              exact y', (HE.out k hlt (by omega)).below rfl hW⟩
            clear HTo
            generalize vs[k] = x at *
            generalize f.dead[k] = row at *
            by_cases hl : row.length = n.stops.length
            · obtain ⟨ra, rc, rfl, hcc, hmm, HC⟩ := ints_open hrow
              have hkn := HKn.out k hlt
              have hkr : k < row.length := by omega
              obtain ⟨b2, off2, rfl, hb2, z⟩ := HC.out k hkr
              have hl1 : ((row.length : Int) != (n.stops.length : Int)) = false := by simp [hl]
              have hk2 : (k : Int) < (row.length : Int) := by omega
              have HL := Lib.hid hl
              clear hl
              have hzd : row.getD k 0 = row[k]'hkr := by simp [hkr]
              by_cases hz : row[k]'hkr = 0
              · have hz1 : (row[k]'hkr != 0) = false := by simp [hz]
                have HZ : Hid (row.getD k 0 = 0) := by show _ = _; rw [hzd, hz]
                rw [hz] at hz1 z
                clear HC hrow
                go_wp2_with fail
                go_region
                all_goals
                  go_wp2_with fail
                  go_loopw [6] (fun i wr2 => ∃ j : Nat, j ≤ row.length ∧ i = .int .i64 j ∧ Hid (∀ d ∈ row.take j, 0 ≤ d ∧ d ≤ 120) ∧ wr2.cell? ⟨w.heap.size, 0, none⟩ = some (.slice na n.stops.length nc) ∧ wr2.cell? ⟨w.heap.size + 1, 0, none⟩ = some (.slice (some ⟨b, off, none⟩) f.dead.length c) ∧ Hid (Below w.heap.size w wr2))
                    (fun i _ => row.length - (RowKit.intOf i).toNat)
                  case atStart => exact ⟨0, Nat.zero_le _, rfl, (fun d hd => by simp at hd), p0, p1, HB.out.drew⟩
                  case round =>
                    clear p0 p1 y z HB
                    obtain ⟨j, hj, rfl, HD, p0, p1, HB⟩ := hrel
                    obtain ⟨y, hrw⟩ := HEk.out _ HB.out
                    by_cases hjl : j < row.length
                    · have z := row_cells hrw j hjl
                      have hj1 : (j : Int) < (row.length : Int) := by omega
                      have hgd : row.getD j 0 = row[j] := by simp [hjl]
                      rw [hgd] at z
                      by_cases hin : 0 ≤ row[j] ∧ row[j] ≤ 120
                      · have HI := Lib.hid (fun W => l1In_yes row[j] 0 120 W hin)
                        have HD2 : Hid (∀ d ∈ row.take (j + 1), 0 ≤ d ∧ d ≤ 120) := by
                          intro d hd
                          rw [List.take_succ_eq_append_getElem hjl] at hd
                          rcases List.mem_append.1 hd with q | q
                          · exact HD.out d q
                          · have : d = row[j] := by simpa using q
                            rw [this]; exact hin
                        clear hin hgd HD hrw
                        generalize row[j] = q at *
                        go_wp2_with fail
                        go_at_call 92
                        refine (HI.out _).mono ?_
                        rintro e w2 ⟨rfl, rfl⟩
                        go_wp2_with fail
                        go_roundw
                        case rel => exact ⟨j + 1, by omega, by go_num, HD2, p0, p1, HB⟩
                        case measure => simp [RowKit.intOf]; omega
                      · have HI := Lib.hid (fun W => l1In_no row[j] 0 120 W hin)
                        have HF : Hid (fleetB n f = false) := HNo.out (fun h => hin (h.2.2 _ (List.getElem_mem hjl)))
                        clear hin hgd HD hrw
                        generalize row[j] = q at *
                        go_wp2_with fail
                        go_at_call 92
                        refine (HI.out _).mono ?_
                        rintro e w2 ⟨rfl, rfl⟩
                        go_wp2_with fail
                        go_ret
                        exact ⟨by rw [HF.out]; rfl, HB.out⟩
                    · have HS : Hid (FleetTo n f (k + 1)) := HStep.out ⟨HL.out, HZ.out, by have := HD.out; rw [List.take_of_length_le (by omega)] at this; exact this⟩
                      go_wp2_with fail
                      refine ⟨⟨k + 1, by omega, by go_num, HS, p0, p1, HB⟩, ?_⟩
                      simp [RowKit.intOf]; omega
              · have hz1 : (row[k]'hkr != 0) = true := by simp [hz]
                have HF : Hid (fleetB n f = false) := HNo.out (fun h => hz (by rw [← hzd]; exact h.2.1))
                clear hzd hz HC
                generalize row[k]'hkr = q at *
                go_wp2_with fail
                go_region
                all_goals
                  go_wp2_with fail
                  go_ret
                  exact ⟨by rw [HF.out]; rfl, HB.out.drew⟩
            · have HF : Hid (fleetB n f = false) := HNo.out (fun h => hl h.1)
              have hl1 : ((row.length : Int) != (n.stops.length : Int)) = true := by simp; omega
              obtain ⟨ra, rc, rfl, hcc, hmm, HC⟩ := ints_open hrow
              go_wp2_with fail
              go_region
              all_goals
                go_wp2_with fail
                go_ret
                exact ⟨by rw [HF.out]; rfl, HB.out.drew⟩
          · obtain rfl : k = f.dead.length := by omega
            have HF : Hid (fleetB n f = true) := fleetB_yes ⟨HN.out, ht, H4.out, HTo.out⟩
            go_wp2_with fail
            go_ret
            exact ⟨by rw [HF.out]; rfl, HB.out⟩
      · have HT := Lib.hid (fun W => l1In_no f.turn 0 30 W ht)
        have HF : Hid (fleetB n f = false) := fleetB_no (fun g => ht g.2.1)
        go_enter Try.func48, Try.ntmps48
        go_wp2_with fail
        go_at_call 91
        refine (HV.out _ (((Below.refl _ _).alloc (Nat.le_refl _) _).alloc (by simp) _)).mono ?_
        rintro e w1 ⟨rfl, hb1⟩
        have HB1 : Hid (Below w.heap.size w w1) := (((Below.refl _ _).alloc (Nat.le_refl _) _).alloc (by simp) _).trans (hb1.mono (by simp; omega))
        have p0 : w1.cell? ⟨w.heap.size, 0, none⟩ = some (.slice na n.stops.length nc) := bkeep hb1 (by go_simp)
        have p1 : w1.cell? ⟨w.heap.size + 1, 0, none⟩ = some (.slice a f.dead.length c) := bkeep hb1 (by go_simp)
        have p2 : w1.cell? ⟨w.heap.size + 1, 1, none⟩ = some (.int .i64 f.turn) := bkeep hb1 (by go_simp)
        clear hb1
        go_wp2_with fail
        go_at_call 92
        refine (HT.out _).mono ?_
        rintro e w2 ⟨rfl, rfl⟩
        go_wp2_with fail
        go_ret
        exact ⟨by rw [HF.out]; rfl, HB1.out⟩
    · have hne : ((f.dead.length : Int) != (n.stops.length : Int)) = true := by simp; omega
      have HF : Hid (fleetB n f = false) := fleetB_no (fun g => h4 g.2.2.1)
      go_enter Try.func48, Try.ntmps48
      go_wp2_with fail
      go_at_call 91
      refine (HV.out _ (((Below.refl _ _).alloc (Nat.le_refl _) _).alloc (by simp) _)).mono ?_
      rintro e w1 ⟨rfl, hb1⟩
      have HB1 : Hid (Below w.heap.size w w1) := (((Below.refl _ _).alloc (Nat.le_refl _) _).alloc (by simp) _).trans (hb1.mono (by simp; omega))
      have p0 : w1.cell? ⟨w.heap.size, 0, none⟩ = some (.slice na n.stops.length nc) := bkeep hb1 (by go_simp)
      have p1 : w1.cell? ⟨w.heap.size + 1, 0, none⟩ = some (.slice a f.dead.length c) := bkeep hb1 (by go_simp)
      clear hb1
      go_wp2_with fail
      go_ret
      exact ⟨by rw [HF.out]; rfl, HB1.out⟩
  · rw [netB_no hn] at HV
    have HF : Hid (fleetB n f = false) := fleetB_no (fun g => hn g.1)
    go_enter Try.func48, Try.ntmps48
    go_wp2_with fail
    go_at_call 91
    refine (HV.out _ (((Below.refl _ _).alloc (Nat.le_refl _) _).alloc (by simp) _)).mono ?_
    rintro e w1 ⟨rfl, hb1⟩
    go_wp2_with fail
    go_ret
    exact ⟨by rw [HF.out]; rfl, (((Below.refl _ _).alloc (Nat.le_refl _) _).alloc (by simp) _).trans (hb1.mono (by simp; omega))⟩

end Go.Proofs.Ytehpeifaknbcnaa
