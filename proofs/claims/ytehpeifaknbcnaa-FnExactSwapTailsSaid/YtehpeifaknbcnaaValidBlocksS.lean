import Derived.Test.YtehpeifaknbcnaaValidBlocksI
import Derived.Test.YtehpeifaknbcnaaMk42
namespace Go.Proofs.Ytehpeifaknbcnaa
open Go.RowKit
set_option linter.unusedVariables false
set_option linter.unusedSimpArgs false

theorem grp_cells {w : World} {a : Option Addr} {n c : Nat} {bs : List (List Int)} (h : GrpsAt w (.slice a n c) bs) (hp : 0 < bs.length) :
    ∃ vb vo, a = some ⟨vb, vo, none⟩ ∧ ∀ j (hj : j < bs.length), (bs[j].length = 0 → ∃ ra rc, ∀ W : World, Below w.heap.size w W → W.cell? ⟨vb, vo + j, none⟩ = some (.slice ra 0 rc)) ∧
      (0 < bs[j].length → ∃ pb po pc, ∀ W : World, Below w.heap.size w W → W.cell? ⟨vb, vo + j, none⟩ = some (.slice (some ⟨pb, po, none⟩) bs[j].length pc) ∧ ∀ k (hk : k < bs[j].length), W.cell? ⟨pb, po + k, none⟩ = some (.int .i64 bs[j][k])) := by
  obtain ⟨vs, g1, g2, g3⟩ := h
  obtain ⟨vb, vo, rfl, _, _⟩ := rowAt_cell g1 0 (by omega)
  refine ⟨vb, vo, rfl, fun j hj => ?_⟩
  have hcell : ∀ W : World, Below w.heap.size w W → W.cell? ⟨vb, vo + j, none⟩ = some (vs[j]'(by omega)) := fun W hW => by
    obtain ⟨vb', vo', he, _, y'⟩ := rowAt_cell (RowAt.below g1 rfl hW) j (by omega)
    simp at he
    obtain ⟨rfl, rfl⟩ := he
    exact y'
  have hrow := g3 j hj (by omega)
  obtain ⟨ra, rc, hv, _, _, C⟩ := ints_open hrow
  rw [hv] at hcell
  refine ⟨fun h0 => ⟨ra, rc, fun W hW => by rw [hcell W hW, h0]⟩, fun h0 => ?_⟩
  obtain ⟨pb, po, rfl, _, _⟩ := C.out 0 h0
  rw [hv] at hrow
  refine ⟨pb, po, rc, fun W hW => ⟨hcell W hW, fun k hk => ?_⟩⟩
  have := row_cells (hrow.below rfl hW) k hk
  rw [this]
  simp [hk]

def sI (L : List Nat) : List Value := ints (L.map (fun p : Nat => (p : Int)))
theorem sI_snoc (L : List Nat) (p : Nat) : sI (L ++ [p]) = sI L ++ [.int .i64 ((p : Nat) : Int)] := by simp [sI, ints]
theorem seen_cnt {t : TTD} {f : FleetD} {bs : List (List Int)} {i k : Nat} (hi : i < bs.length) (h : BlksTo t f bs i) (hb : BlkTo t f bs[i] k) (hk : k ≤ bs[i].length) (hn : (seenT t bs i k).Nodup) : (seenT t bs i k).length ≤ t.trips.length := by
  have h1 := nodup_len (A := seenT t bs i k) (B := List.range t.trips.length) hn (fun x hx => List.mem_range.2 (by
    have e : bs.getD i [] = bs[i] := by simp [hi]
    unfold seenT at hx
    rw [e, List.map_append] at hx
    rcases List.mem_append.1 hx with q | q
    · exact seen_lt h (Nat.le_of_lt hi) x (by simp only [seenT, List.take_zero, List.append_nil]; exact q)
    · obtain ⟨id, h2, rfl⟩ := List.mem_map.1 q
      obtain ⟨m, hm, rfl⟩ := List.mem_take_iff_getElem.1 h2
      exact found_lt (hb m (by omega) (by omega)).1))
  simpa using h1

set_option maxRecDepth 100000 in
set_option maxHeartbeats 8000000 in
theorem l11Blocks_any (tv fv bv : Value) (t : TTD) (f : FleetD) (bs : List (List Int)) (w : World) (hr : TTAt w tv t) (hsm : TTSmall t) (hg : FleetAt w fv f) (hA : AskedGood t f) (hb : GrpsAt w bv bs) (hbs : GrpsSmall bs) :
    Calls Try.prog 66 #[tv, fv, bv] w fun e w' => e = .returned (.bool (blksB t f bs)) ∧ Below w.heap.size w w' := by
  have HFd := Lib.hid (fun W (h : Below w.heap.size w W) id => l5Find_any tv t id W (hr.below rfl h) hsm)
  have HFoG := Lib.hid (fun (i k : Nat) (hik : i ≠ k) (hi : i < t.trips.length) (hk : k < t.trips.length) W (h : Below w.heap.size w W) => l11Follows_any tv fv t f i k hik W (hr.below rfl h) (hg.below rfl h) hA hi hk)
  have HGr := Lib.hid hb
  have HG := Lib.hid hA
  have hlen : t.trips.length ≤ 12 := hA.1.2.1
  have hsz := hbs.1
  have HSm : Hid (∀ i (h : i < bs.length), bs[i].length ≤ 1048576) := fun i h => by
    have e1 := preL_succ h
    have e2 := preL_le (xss := bs) (i := i + 1) (by omega)
    have := hbs.2
    omega
  obtain ⟨c0, d0, c1, d1, c2, d2, rfl, -, -⟩ := tt_open hr
  obtain ⟨fa, fc, rfl, -⟩ := fleet_open hg
  obtain ⟨ba, bc, rfl⟩ := IntSS_open hb
  obtain ⟨i0, hi0, iz0, iz1, iz2⟩ := info_parts infoInt
  clear hr hg hb hbs hA hsm
  go_enter Try.func66, Try.ntmps66
  have HRn := Lib.hid (row_new ((w.alloc (.cells #[.slice c0 t.net.stops.length d0, .slice c1 t.net.lines.length d1, .slice c2 t.trips.length d2] 49)).alloc (.cells #[.slice fa f.dead.length fc, .int .i64 f.turn] 36)) (w.heap.size + 2) (by simp))
  go_wp2_with fail
  go_loopw [7, 8] (fun sv q wr => ∃ i : Nat, i ≤ bs.length ∧ q = .int .i64 i ∧ Hid (BlksTo t f bs i) ∧ Hid ((seenT t bs i 0).Nodup) ∧ Hid (wr.ownsRow (w.heap.size + 2) 3 1 sv (seenT t bs i 0).length (sI (seenT t bs i 0))) ∧
      wr.cell? ⟨w.heap.size, 0, none⟩ = some (.slice c0 t.net.stops.length d0) ∧ wr.cell? ⟨w.heap.size, 1, none⟩ = some (.slice c1 t.net.lines.length d1) ∧ wr.cell? ⟨w.heap.size, 2, none⟩ = some (.slice c2 t.trips.length d2) ∧ wr.cell? ⟨w.heap.size + 1, 0, none⟩ = some (.slice fa f.dead.length fc) ∧ wr.cell? ⟨w.heap.size + 1, 1, none⟩ = some (.int .i64 f.turn) ∧ Hid (Below w.heap.size w wr ∧ w.heap.size + 2 ≤ wr.heap.size))
    (fun _ q _ => bs.length - (RowKit.intOf q).toNat)
  case atStart =>
    refine ⟨0, Nat.zero_le _, rfl, (fun j hj h => by omega), by show List.Nodup _; rw [seen_zero]; exact List.nodup_nil, ?_, by go_simp, by go_simp, by go_simp, by go_simp, by go_simp, (((Below.refl _ _).alloc (Nat.le_refl _) _).alloc (by simp) _).alloc (by simp; omega) _, by simp⟩
    show World.ownsRow _ _ _ _ _ _ _
    rw [seen_zero]
    simpa [sI] using HRn.out
  case round =>
    clear HRn
    obtain ⟨i, hi, rfl, HTo, HNd, HOw, p0, p1, p2, q0, q1, HB⟩ := hrel
    obtain ⟨sa, sc, rfl⟩ := own_shape HOw.out
    by_cases hlt : i < bs.length
    · obtain ⟨vb, vo, rfl, hC⟩ := grp_cells HGr.out (by omega)
      have hi1 : (i : Int) < (bs.length : Int) := by omega
      have hrs := HSm.out i hlt
      have HNoB : Hid (¬ (BlkOk t f bs[i] ∧ ∀ j (hj : j + 1 = i), hd (bs[j]'(by omega)) < hd bs[i]) → blksB t f bs = false) := fun h => blksB_no (fun g => h (g.1 i hlt hlt))
      have HC := Lib.hid hC
      clear hC
      by_cases hpos : bs[i].length = 0
      · obtain ⟨ra, rc, hy⟩ := (HC.out i hlt).1 hpos
        have y := hy _ HB.out.1
        have HF : Hid (blksB t f bs = false) := HNoB.out (fun h => h.1.1 (List.length_eq_zero_iff.1 hpos))
        clear hpos hy
        go_upto_region 5 with fail
        go_region
        all_goals
          go_wp2_with fail
          go_ret
          exact ⟨by rw [HF.out]; rfl, HB.out.1.drew⟩
      · have hpos : 0 < bs[i].length := by omega
        obtain ⟨rb, ro, rc, hy⟩ := (HC.out i hlt).2 hpos
        have HY := Lib.hid hy
        obtain ⟨y, hz⟩ := hy _ HB.out.1
        have z0 := hz 0 hpos
        simp only [Nat.add_zero] at z0
        rw [← hd_at hpos] at z0
        have hlp1 : (0 : Int) < (bs[i].length : Int) := by omega
        have hlz : ((bs[i].length : Int) == 0) = false := by rw [beq_eq_false_iff_ne]; omega
        clear hy hz
        have hrest : (∀ j (hj : j + 1 = i), hd (bs[j]'(by omega)) < hd bs[i]) ∨ ∃ j, ∃ hj : j + 1 = i, hd bs[i] ≤ hd (bs[j]'(by omega)) := by
          by_cases c : ∀ j (hj : j + 1 = i), hd (bs[j]'(by omega)) < hd bs[i]
          · exact .inl c
          · obtain ⟨j, hj⟩ := Classical.not_forall.1 c
            obtain ⟨hj, hn⟩ := Classical.not_forall.1 hj
            exact .inr ⟨j, hj, Int.not_lt.1 hn⟩
        rcases hrest with hhd | ⟨j, hj, hle⟩
        rotate_left
        · have HF : Hid (blksB t f bs = false) := HNoB.out (fun h => by have := h.2 j hj; omega)
          obtain rfl : i = j + 1 := hj.symm
          have hne := (HTo.out j (by omega) (by omega)).1.1
          have hpj := List.length_pos_iff.2 hne
          obtain ⟨pb, po, pc, hyj⟩ := (HC.out j (by omega)).2 hpj
          obtain ⟨yj, hzj⟩ := hyj _ HB.out.1
          have zj := hzj 0 hpj
          simp only [Nat.add_zero] at zj
          rw [← hd_at hpj] at zj
          have hwj : IntKind.i64.wrap (j : Int) = (j : Int) := IntWalk.i64_in _ (by omega)
          have hji : ((j + 1 : Nat) : Int) - 1 = (j : Int) := by omega
          have hj1 : (j : Int) < (bs.length : Int) := by omega
          have hjp : (0 : Int) < ((j + 1 : Nat) : Int) := by omega
          have hpj1 : (0 : Int) < ((bs[j]'(by omega)).length : Int) := by omega
          clear hyj hzj hne
          generalize hd bs[j + 1] = hA at *
          generalize hd (bs[j]'(by omega)) = hB at *
          go_upto_region 5 with fail
          go_region
          all_goals
            go_wp2_with fail
            go_ret
            exact ⟨by rw [HF.out]; rfl, HB.out.1.drew⟩
        · have HHd := Lib.hid hhd
          have hgo : ∀ (K : Prop), ((i = 0) → K) → (∀ j, i = j + 1 → K) → K := fun K h1 h2 => by cases i with | zero => exact h1 rfl | succ j => exact h2 j rfl
          obtain ⟨nI, hnI⟩ : ∃ nI, bs[i].length = nI := ⟨_, rfl⟩
          go_upto_region 5 with fail
          refine hgo _ (fun h0 => ?_) (fun j hj => ?_)
          · have hiz : ¬ (0 : Int) < (i : Int) := by omega
            have hizn : ¬ 0 < i := by omega
            have hizd : decide ((0 : Int) < (i : Int)) = false := decide_eq_false hiz
            clear h0 hgo hhd hnI
            go_region
            all_goals
              have HBd : Hid (Below w.heap.size w wr ∧ w.heap.size + 2 ≤ wr.heap.size) := HB
              clear z0 y
              go_wp2_with fail
              try clear hiz hizn hizd
              go_loopw [7, 9] (fun sv q wr2 => ∃ k : Nat, k ≤ bs[i].length ∧ q = .int .i64 k ∧ Hid (BlkTo t f bs[i] k) ∧ Hid ((seenT t bs i k).Nodup) ∧ Hid (wr2.ownsRow (w.heap.size + 2) 3 1 sv (seenT t bs i k).length (sI (seenT t bs i k))) ∧
                  wr2.cell? ⟨w.heap.size, 0, none⟩ = some (.slice c0 t.net.stops.length d0) ∧ wr2.cell? ⟨w.heap.size, 1, none⟩ = some (.slice c1 t.net.lines.length d1) ∧ wr2.cell? ⟨w.heap.size, 2, none⟩ = some (.slice c2 t.trips.length d2) ∧ wr2.cell? ⟨w.heap.size + 1, 0, none⟩ = some (.slice fa f.dead.length fc) ∧ wr2.cell? ⟨w.heap.size + 1, 1, none⟩ = some (.int .i64 f.turn) ∧ Hid (Below w.heap.size w wr2 ∧ w.heap.size + 2 ≤ wr2.heap.size))
                (fun _ q _ => bs[i].length - (RowKit.intOf q).toNat)
              case atStart => exact ⟨0, Nat.zero_le _, rfl, (fun j hj h => by omega), HNd.out, own_later HOw.out (Below.refl _ _).drew, p0, p1, p2, q0, q1, HB.out.1.drew, HB.out.2⟩
              case round =>
                clear p0 p1 p2 q0 q1 HB HBd HNd HOw
                obtain ⟨k, hk, rfl, HTb, HNk, HOk, p0, p1, p2, q0, q1, HB⟩ := hrel
                obtain ⟨sa, sc, rfl⟩ := own_shape HOk.out
                by_cases hkl : k < bs[i].length
                · obtain ⟨yI, hzI⟩ := HY.out _ HB.out.1
                  have zK := hzI k hkl
                  have hk1 : (k : Int) < (bs[i].length : Int) := by omega
                  have HNoI : Hid (¬ IdOk t f bs[i] k hkl → blksB t f bs = false) := fun h => blksB_no (fun g => h ((g.1 i hlt hlt).1.2 k hkl hkl))
                  have HIdM : Hid (foundT t bs[i][k] = true → (∀ j (hj : j + 1 = k), follF t.net f (tripOf t (bs[i][j]'(by omega))) (tripOf t bs[i][k]) = true) → IdOk t f bs[i] k hkl) := fun h1 h2 => ⟨h1, h2⟩
                  have HRw := Lib.hid (seen_row (t := t) hlt hkl)
                  have HNo2 : Hid (pl t bs[i][k] ∈ seenT t bs i k → blksB t f bs = false) := fun hm => blksB_no (fun g => by
                    have h1 := seen_nodup (t := t) (bs := bs) (i := i) (k := k + 1) hlt g.2.1
                    rw [seen_row hlt hkl] at h1
                    exact (List.nodup_append.1 h1).2.2 _ hm _ (by simp) rfl)
                  have HNd2 : Hid (pl t bs[i][k] ∉ seenT t bs i k → (seenT t bs i (k + 1)).Nodup) := fun hm => by
                    rw [seen_row hlt hkl]
                    exact List.nodup_append.2 ⟨HNk.out, by simp, fun a ha b hb e => by simp at hb; subst hb; subst e; exact hm ha⟩
                  have HFt : Hid (foundT t bs[i][k] = true → findI bs[i][k] t.trips = (pl t bs[i][k] : Nat) ∧ pl t bs[i][k] < t.trips.length) := fun h => findI_yes HG.out.1 h
                  have HFf : Hid (foundT t bs[i][k] = false → findI bs[i][k] t.trips = -1) := fun h => findI_no HG.out.1 h
                  have HF1 := Lib.hid (fun W (h : Below w.heap.size w W) => HFd.out W h bs[i][k])
                  have HTr : Hid (∀ (h : foundT t bs[i][k] = true) (hl : pl t bs[i][k] < t.trips.length), t.trips[pl t bs[i][k]] = tripOf t bs[i][k]) := fun h _ => (tripOf_at h).symm
                  have HPrev : Hid (∀ m (hm : m + 1 = k), ∃ idp pp, (∃ hl : pp < t.trips.length, t.trips[pp] = tripOf t idp) ∧ (bs[i][m]'(by omega)) = idp ∧ pp ∈ seenT t bs i k ∧ findI idp t.trips = (pp : Nat)) := fun m hm => by
                    have hfd := (HTb.out m (by omega) (by omega)).1
                    have h2 := findI_yes HG.out.1 hfd
                    refine ⟨_, pl t (bs[i][m]'(by omega)), ⟨h2.2, (tripOf_at hfd).symm⟩, rfl, ?_, h2.1⟩
                    subst hm
                    rw [seen_row hlt (by omega)]
                    simp
                  have HZm : Hid (∀ W, Below w.heap.size w W → ∀ m (hm : m < bs[i].length), W.cell? ⟨rb, ro + m, none⟩ = some (.int .i64 (bs[i][m]'hm))) := fun W hW m hm => (HY.out W hW).2 m hm
                  have hsc := seen_cnt hlt HTo.out HTb.out hk HNk.out
                  have HO : Hid (wr.ownsRow (w.heap.size + 2) 3 1 (.slice sa (seenT t bs i k).length sc) (seenT t bs i k).length (sI (seenT t bs i k))) := HOk
                  have HOr := HO
                  clear hzI HNk HOk
                  generalize hid : bs[i][k] = id at *
                  have HIdE := Lib.hid hid
                  clear hid
                  generalize hfe : findI id t.trips = fi at HFt HFf HF1
                  clear hfe
                  generalize hpp : pl t id = p at *
                  clear hpp
                  go_upto_region 10 with fail
                  refine wp_region_held_drew (S := (fun w' => w'.cell? ⟨w.heap.size, 0, none⟩ = some (.slice c0 t.net.stops.length d0) ∧ w'.cell? ⟨w.heap.size, 1, none⟩ = some (.slice c1 t.net.lines.length d1) ∧ w'.cell? ⟨w.heap.size, 2, none⟩ = some (.slice c2 t.trips.length d2) ∧ w'.cell? ⟨w.heap.size + 1, 0, none⟩ = some (.slice fa f.dead.length fc) ∧ w'.cell? ⟨w.heap.size + 1, 1, none⟩ = some (.int .i64 f.turn) ∧ w'.cell? ⟨vb, vo + i, none⟩ = some (.slice (some ⟨rb, ro, none⟩) bs[i].length rc) ∧ w'.cell? ⟨rb, ro + k, none⟩ = some (.int .i64 id))) (by kernel_rfl) ?_ (fun hHeld => ?_)
                  · exact ⟨p0, p1, p2, q0, q1, yI, zK⟩
                  refine wpAnyH_take (i := 0) (v := ?_) (by simp only [List.getElem?_toArray, List.getElem?_cons_zero]; rfl) (by kernel_rfl) (by kernel_rfl) (by kernel_rfl) (by exact fun _ _ _ h => h) (Or.inl ⟨by rfl, ?_⟩) (by assumption) ?_
                  rotate_left
                  · intro w' hSw; obtain ⟨e0, e1, e2, e3, e4, e5, e6⟩ := hSw
                    go_simp; try with_reducible rfl
                  try simp only [Act.put, List.setIfInBounds_toArray, List.set_cons_zero, List.set_cons_succ]
                  refine wpAnyH_take (i := 1) (v := ?_) (by simp only [List.getElem?_toArray, List.getElem?_cons_succ, List.getElem?_cons_zero]; rfl) (by kernel_rfl) (by kernel_rfl) (by kernel_rfl) (by exact fun _ _ _ h => h) (Or.inl ⟨by rfl, ?_⟩) (by assumption) ?_
                  rotate_left
                  · intro w' hSw; obtain ⟨e0, e1, e2, e3, e4, e5, e6⟩ := hSw
                    go_simp; try with_reducible rfl
                  try simp only [Act.put, List.setIfInBounds_toArray, List.set_cons_zero, List.set_cons_succ]
                  refine wpAnyH_take (i := 2) (v := ?_) (by simp only [List.getElem?_toArray, List.getElem?_cons_succ, List.getElem?_cons_zero]; rfl) (by kernel_rfl) (by kernel_rfl) (by kernel_rfl) (by exact fun _ _ _ h => h) (Or.inl ⟨by rfl, ?_⟩) (by assumption) ?_
                  rotate_left
                  · intro w' hSw; obtain ⟨e0, e1, e2, e3, e4, e5, e6⟩ := hSw
                    go_simp; try with_reducible rfl
                  try simp only [Act.put, List.setIfInBounds_toArray, List.set_cons_zero, List.set_cons_succ]
                  refine wpAnyH_take (i := 3) (v := ?_) (by simp only [List.getElem?_toArray, List.getElem?_cons_succ, List.getElem?_cons_zero]; rfl) (by kernel_rfl) (by kernel_rfl) (by kernel_rfl) (by exact fun _ _ _ h => h) (Or.inl ⟨by rfl, ?_⟩) (by assumption) ?_
                  rotate_left
                  · intro w' hSw; obtain ⟨e0, e1, e2, e3, e4, e5, e6⟩ := hSw
                    go_simp; try with_reducible rfl
                  try simp only [Act.put, List.setIfInBounds_toArray, List.set_cons_zero, List.set_cons_succ]
                  refine wpAnyH_take (i := 4) (v := ?_) (by simp only [List.getElem?_toArray, List.getElem?_cons_succ, List.getElem?_cons_zero]; rfl) (by kernel_rfl) (by kernel_rfl) (by kernel_rfl) (by exact fun _ _ _ h => h) (Or.inl ⟨by rfl, ?_⟩) (by assumption) ?_
                  rotate_left
                  · intro w' hSw; obtain ⟨e0, e1, e2, e3, e4, e5, e6⟩ := hSw
                    go_simp; try with_reducible rfl
                  try simp only [Act.put, List.setIfInBounds_toArray, List.set_cons_zero, List.set_cons_succ]
                  refine wpAnyH_take (i := 5) (v := ?_) (by simp only [List.getElem?_toArray, List.getElem?_cons_succ, List.getElem?_cons_zero]; rfl) (by kernel_rfl) (by kernel_rfl) (by kernel_rfl) (by exact fun _ _ _ h => h) (Or.inl ⟨by rfl, ?_⟩) (by assumption) ?_
                  rotate_left
                  · intro w' hSw; obtain ⟨e0, e1, e2, e3, e4, e5, e6⟩ := hSw
                    go_simp; try with_reducible rfl
                  try simp only [Act.put, List.setIfInBounds_toArray, List.set_cons_zero, List.set_cons_succ]
                  refine wpAnyH_take (i := 6) (v := ?_) (by simp only [List.getElem?_toArray, List.getElem?_cons_succ, List.getElem?_cons_zero]; rfl) (by kernel_rfl) (by kernel_rfl) (by kernel_rfl) (by exact fun _ _ _ h => h) (Or.inl ⟨by rfl, ?_⟩) (by assumption) ?_
                  rotate_left
                  · intro w' hSw; obtain ⟨e0, e1, e2, e3, e4, e5, e6⟩ := hSw
                    go_simp; try with_reducible rfl
                  try simp only [Act.put, List.setIfInBounds_toArray, List.set_cons_zero, List.set_cons_succ]
                  refine wpAnyH_take (i := 7) (v := ?_) (by simp only [List.getElem?_toArray, List.getElem?_cons_succ, List.getElem?_cons_zero]; rfl) (by kernel_rfl) (by kernel_rfl) (by kernel_rfl) (by exact fun _ _ _ h => h) (Or.inl ⟨by rfl, ?_⟩) (by assumption) ?_
                  rotate_left
                  · intro w' hSw; obtain ⟨e0, e1, e2, e3, e4, e5, e6⟩ := hSw
                    go_simp; try with_reducible rfl
                  try simp only [Act.put, List.setIfInBounds_toArray, List.set_cons_zero, List.set_cons_succ]
                  refine wpAnyH_ready (rs := [8]) (by kernel_rfl) (by simp) ?_
                  refine AllReadyH.cons (by simp only [List.getElem?_toArray, List.getElem?_cons_succ, List.getElem?_cons_zero]; rfl) (fun K hK => ?_) AllReadyH.nil
                  go_simp
                  go_at_call 57
                  refine (HF1.out _ HB.out.1.drew).mono ?_
                  rintro e w1 ⟨rfl, hb⟩
                  have rbw : Below wr.heap.size wr w1 := (Below.refl _ _).drew.trans hb
                  have hS2 : w1.cell? ⟨w.heap.size, 0, none⟩ = some (.slice c0 t.net.stops.length d0) ∧ w1.cell? ⟨w.heap.size, 1, none⟩ = some (.slice c1 t.net.lines.length d1) ∧ w1.cell? ⟨w.heap.size, 2, none⟩ = some (.slice c2 t.trips.length d2) ∧ w1.cell? ⟨w.heap.size + 1, 0, none⟩ = some (.slice fa f.dead.length fc) ∧ w1.cell? ⟨w.heap.size + 1, 1, none⟩ = some (.int .i64 f.turn) ∧ w1.cell? ⟨vb, vo + i, none⟩ = some (.slice (some ⟨rb, ro, none⟩) bs[i].length rc) ∧ w1.cell? ⟨rb, ro + k, none⟩ = some (.int .i64 id) := ⟨bkeep rbw p0, bkeep rbw p1, bkeep rbw p2, bkeep rbw q0, bkeep rbw q1, bkeep rbw yI, bkeep rbw zK⟩
                  have HB1 : Hid (Below w.heap.size w w1 ∧ w.heap.size + 2 ≤ w1.heap.size) := ⟨HB.out.1.trans (rbw.mono HB.out.1.size), Nat.le_trans HB.out.2 rbw.size⟩
                  have HO1 := Lib.hid (own_later HO.out rbw)
                  clear hb rbw
                  go_wp2_with fail
                  refine hK.out _ _ hS2 (fun hH8 => ?_)
                  obtain ⟨p0, p1, p2, q0, q1, yI, zK⟩ := hS2
                  clear hK K
                  try simp only [Act.put, List.setIfInBounds_toArray, List.set_cons_zero, List.set_cons_succ]
                  refine wpAnyH_take (i := 9) (v := ?_) (by simp only [List.getElem?_toArray, List.getElem?_cons_succ, List.getElem?_cons_zero]; rfl) (by kernel_rfl) (by kernel_rfl) (by kernel_rfl) (by exact fun _ _ _ h => h) (Or.inl ⟨by rfl, ?_⟩) (by assumption) ?_
                  rotate_left
                  · intro w' hSw; obtain ⟨e0, e1, e2, e3, e4, e5, e6⟩ := hSw
                    go_simp; try with_reducible rfl
                  try simp only [Act.put, List.setIfInBounds_toArray, List.set_cons_zero, List.set_cons_succ]
                  refine wpAnyH_done (by kernel_rfl) ?_ _
                  clear zK
                  cases hfd : foundT t id
                  · obtain rfl : fi = -1 := HFf.out hfd
                    have HF : Hid (blksB t f bs = false) := HNoI.out (fun h => by have := h.1; rw [HIdE.out, hfd] at this; cases this)
                    go_upto_region 11 with fail
                    go_region
                    all_goals
                      go_wp2_with fail
                      go_ret
                      exact ⟨by rw [HF.out]; rfl, HB1.out.1.drew⟩
                  · obtain ⟨rfl, hpl⟩ := HFt.out hfd
                    have hpn : ¬ ((p : Nat) : Int) < 0 := by omega
                    by_cases hm : p ∈ seenT t bs i k
                    · have HF := Lib.hid (HNo2.out hm)
                      have HH : Hid (∀ W v, RowAt W v (sI (seenT t bs i k)) → Calls Try.prog 102 #[v, .int .i64 ((p : Nat) : Int)] W fun e w' => e = .returned (.bool true) ∧ W = w') := fun W v h => by
                        have h1 := l1Has_any v _ ((p : Nat) : Int) W h
                        rwa [inB_yes (List.mem_map.2 ⟨p, hm, rfl⟩)] at h1
                      clear hm HNo2 HNd2
                      go_upto_region 11 with fail
                      refine wp_region_held_drew (S := (fun w' => w'.cell? ⟨w.heap.size, 0, none⟩ = some (.slice c0 t.net.stops.length d0) ∧ w'.cell? ⟨w.heap.size, 1, none⟩ = some (.slice c1 t.net.lines.length d1) ∧ w'.cell? ⟨w.heap.size, 2, none⟩ = some (.slice c2 t.trips.length d2) ∧ w'.cell? ⟨w.heap.size + 1, 0, none⟩ = some (.slice fa f.dead.length fc) ∧ w'.cell? ⟨w.heap.size + 1, 1, none⟩ = some (.int .i64 f.turn))) (by kernel_rfl) ?_ (fun hHeld => ?_)
                      · exact ⟨p0, p1, p2, q0, q1⟩
                      refine wpAnyH_take (i := 0) (v := ?_) (by simp only [List.getElem?_toArray, List.getElem?_cons_zero]; rfl) (by kernel_rfl) (by kernel_rfl) (by kernel_rfl) (by exact fun _ _ _ h => h) (Or.inl ⟨by rfl, ?_⟩) (by assumption) ?_
                      rotate_left
                      · intro w' hSw; obtain ⟨e0, e1, e2, e3, e4⟩ := hSw
                        go_simp; try with_reducible rfl
                      try simp only [Act.put, List.setIfInBounds_toArray, List.set_cons_zero, List.set_cons_succ]
                      refine wpAnyH_take (i := 1) (v := ?_) (by simp only [List.getElem?_toArray, List.getElem?_cons_succ, List.getElem?_cons_zero]; rfl) (by kernel_rfl) (by kernel_rfl) (by kernel_rfl) (by exact fun _ _ _ h => h) (Or.inl ⟨by rfl, ?_⟩) (by assumption) ?_
                      rotate_left
                      · intro w' hSw; obtain ⟨e0, e1, e2, e3, e4⟩ := hSw
                        go_simp; try with_reducible rfl
                      try simp only [Act.put, List.setIfInBounds_toArray, List.set_cons_zero, List.set_cons_succ]
                      refine wpAnyH_take (i := 2) (v := ?_) (by simp only [List.getElem?_toArray, List.getElem?_cons_succ, List.getElem?_cons_zero]; rfl) (by kernel_rfl) (by kernel_rfl) (by kernel_rfl) (by exact fun _ _ _ h => h) (Or.inl ⟨by rfl, ?_⟩) (by assumption) ?_
                      rotate_left
                      · intro w' hSw; obtain ⟨e0, e1, e2, e3, e4⟩ := hSw
                        go_simp; try with_reducible rfl
                      try simp only [Act.put, List.setIfInBounds_toArray, List.set_cons_zero, List.set_cons_succ]
                      refine wpAnyH_take (i := 3) (v := ?_) (by simp only [List.getElem?_toArray, List.getElem?_cons_succ, List.getElem?_cons_zero]; rfl) (by kernel_rfl) (by kernel_rfl) (by kernel_rfl) (by exact fun _ _ _ h => h) (Or.inl ⟨by rfl, ?_⟩) (by assumption) ?_
                      rotate_left
                      · intro w' hSw; obtain ⟨e0, e1, e2, e3, e4⟩ := hSw
                        go_simp; try with_reducible rfl
                      try simp only [Act.put, List.setIfInBounds_toArray, List.set_cons_zero, List.set_cons_succ]
                      refine wpAnyH_take (i := 4) (v := ?_) (by simp only [List.getElem?_toArray, List.getElem?_cons_succ, List.getElem?_cons_zero]; rfl) (by kernel_rfl) (by kernel_rfl) (by kernel_rfl) (by exact fun _ _ _ h => h) (Or.inl ⟨by rfl, ?_⟩) (by assumption) ?_
                      rotate_left
                      · intro w' hSw; obtain ⟨e0, e1, e2, e3, e4⟩ := hSw
                        go_simp; try with_reducible rfl
                      try simp only [Act.put, List.setIfInBounds_toArray, List.set_cons_zero, List.set_cons_succ]
                      refine wpAnyH_ready (rs := [5]) (by kernel_rfl) (by simp) ?_
                      refine AllReadyH.cons (by simp only [List.getElem?_toArray, List.getElem?_cons_succ, List.getElem?_cons_zero]; rfl) (fun K hK => ?_) AllReadyH.nil
                      go_simp
                      go_at_call 102
                      refine (belQ (HH.out _ _ (rowAt_own (own_later HO1.out (Below.refl _ _).drew)))).mono ?_
                      rintro e w2 ⟨rfl, hb⟩
                      have rbw : Below w1.heap.size w1 w2 := (Below.refl _ _).drew.trans hb
                      have hS2 : w2.cell? ⟨w.heap.size, 0, none⟩ = some (.slice c0 t.net.stops.length d0) ∧ w2.cell? ⟨w.heap.size, 1, none⟩ = some (.slice c1 t.net.lines.length d1) ∧ w2.cell? ⟨w.heap.size, 2, none⟩ = some (.slice c2 t.trips.length d2) ∧ w2.cell? ⟨w.heap.size + 1, 0, none⟩ = some (.slice fa f.dead.length fc) ∧ w2.cell? ⟨w.heap.size + 1, 1, none⟩ = some (.int .i64 f.turn) := ⟨bkeep rbw p0, bkeep rbw p1, bkeep rbw p2, bkeep rbw q0, bkeep rbw q1⟩
                      have HB2 : Hid (Below w.heap.size w w2 ∧ w.heap.size + 2 ≤ w2.heap.size) := ⟨HB1.out.1.trans (rbw.mono HB1.out.1.size), Nat.le_trans HB1.out.2 rbw.size⟩
                      have HO2 := Lib.hid (own_later HO1.out rbw)
                      clear hb rbw
                      go_wp2_with fail
                      refine hK.out _ _ hS2 (fun hH5 => ?_)
                      obtain ⟨p0, p1, p2, q0, q1⟩ := hS2
                      clear hK K
                      try simp only [Act.put, List.setIfInBounds_toArray, List.set_cons_zero, List.set_cons_succ]
                      refine wpAnyH_take (i := 6) (v := ?_) (by simp only [List.getElem?_toArray, List.getElem?_cons_succ, List.getElem?_cons_zero]; rfl) (by kernel_rfl) (by kernel_rfl) (by kernel_rfl) (by exact fun _ _ _ h => h) (Or.inl ⟨by rfl, ?_⟩) (by assumption) ?_
                      rotate_left
                      · intro w' hSw; obtain ⟨e0, e1, e2, e3, e4⟩ := hSw
                        go_simp; try with_reducible rfl
                      try simp only [Act.put, List.setIfInBounds_toArray, List.set_cons_zero, List.set_cons_succ]
                      refine wpAnyH_take (i := 7) (v := ?_) (by simp only [List.getElem?_toArray, List.getElem?_cons_succ, List.getElem?_cons_zero]; rfl) (by kernel_rfl) (by kernel_rfl) (by kernel_rfl) (by exact fun _ _ _ h => h) (Or.inl ⟨by rfl, ?_⟩) (by assumption) ?_
                      rotate_left
                      · intro w' hSw; obtain ⟨e0, e1, e2, e3, e4⟩ := hSw
                        go_simp; try with_reducible rfl
                      try simp only [Act.put, List.setIfInBounds_toArray, List.set_cons_zero, List.set_cons_succ]
                      refine wpAnyH_take (i := 8) (v := undef) (by simp only [List.getElem?_toArray, List.getElem?_cons_succ, List.getElem?_cons_zero]; rfl) (by kernel_rfl) (by kernel_rfl) (by kernel_rfl) (by exact fun _ _ _ h => h) (Or.inr ⟨by rfl, rfl⟩) (by assumption) ?_
                      try simp only [Act.put, List.setIfInBounds_toArray, List.set_cons_zero, List.set_cons_succ]
                      refine wpAnyH_take (i := 9) (v := undef) (by simp only [List.getElem?_toArray, List.getElem?_cons_succ, List.getElem?_cons_zero]; rfl) (by kernel_rfl) (by kernel_rfl) (by kernel_rfl) (by exact fun _ _ _ h => h) (Or.inr ⟨by rfl, rfl⟩) (by assumption) ?_
                      try simp only [Act.put, List.setIfInBounds_toArray, List.set_cons_zero, List.set_cons_succ]
                      refine wpAnyH_take (i := 10) (v := undef) (by simp only [List.getElem?_toArray, List.getElem?_cons_succ, List.getElem?_cons_zero]; rfl) (by kernel_rfl) (by kernel_rfl) (by kernel_rfl) (by exact fun _ _ _ h => h) (Or.inr ⟨by rfl, rfl⟩) (by assumption) ?_
                      try simp only [Act.put, List.setIfInBounds_toArray, List.set_cons_zero, List.set_cons_succ]
                      refine wpAnyH_take (i := 11) (v := undef) (by simp only [List.getElem?_toArray, List.getElem?_cons_succ, List.getElem?_cons_zero]; rfl) (by kernel_rfl) (by kernel_rfl) (by kernel_rfl) (by exact fun _ _ _ h => h) (Or.inr ⟨by rfl, rfl⟩) (by assumption) ?_
                      try simp only [Act.put, List.setIfInBounds_toArray, List.set_cons_zero, List.set_cons_succ]
                      refine wpAnyH_take (i := 12) (v := undef) (by simp only [List.getElem?_toArray, List.getElem?_cons_succ, List.getElem?_cons_zero]; rfl) (by kernel_rfl) (by kernel_rfl) (by kernel_rfl) (by exact fun _ _ _ h => h) (Or.inr ⟨by rfl, rfl⟩) (by assumption) ?_
                      try simp only [Act.put, List.setIfInBounds_toArray, List.set_cons_zero, List.set_cons_succ]
                      refine wpAnyH_take (i := 13) (v := undef) (by simp only [List.getElem?_toArray, List.getElem?_cons_succ, List.getElem?_cons_zero]; rfl) (by kernel_rfl) (by kernel_rfl) (by kernel_rfl) (by exact fun _ _ _ h => h) (Or.inr ⟨by rfl, rfl⟩) (by assumption) ?_
                      try simp only [Act.put, List.setIfInBounds_toArray, List.set_cons_zero, List.set_cons_succ]
                      refine wpAnyH_take (i := 14) (v := undef) (by simp only [List.getElem?_toArray, List.getElem?_cons_succ, List.getElem?_cons_zero]; rfl) (by kernel_rfl) (by kernel_rfl) (by kernel_rfl) (by exact fun _ _ _ h => h) (Or.inr ⟨by rfl, rfl⟩) (by assumption) ?_
                      try simp only [Act.put, List.setIfInBounds_toArray, List.set_cons_zero, List.set_cons_succ]
                      refine wpAnyH_take (i := 15) (v := undef) (by simp only [List.getElem?_toArray, List.getElem?_cons_succ, List.getElem?_cons_zero]; rfl) (by kernel_rfl) (by kernel_rfl) (by kernel_rfl) (by exact fun _ _ _ h => h) (Or.inr ⟨by rfl, rfl⟩) (by assumption) ?_
                      try simp only [Act.put, List.setIfInBounds_toArray, List.set_cons_zero, List.set_cons_succ]
                      refine wpAnyH_take (i := 16) (v := undef) (by simp only [List.getElem?_toArray, List.getElem?_cons_succ, List.getElem?_cons_zero]; rfl) (by kernel_rfl) (by kernel_rfl) (by kernel_rfl) (by exact fun _ _ _ h => h) (Or.inr ⟨by rfl, rfl⟩) (by assumption) ?_
                      try simp only [Act.put, List.setIfInBounds_toArray, List.set_cons_zero, List.set_cons_succ]
                      refine wpAnyH_take (i := 17) (v := undef) (by simp only [List.getElem?_toArray, List.getElem?_cons_succ, List.getElem?_cons_zero]; rfl) (by kernel_rfl) (by kernel_rfl) (by kernel_rfl) (by exact fun _ _ _ h => h) (Or.inr ⟨by rfl, rfl⟩) (by assumption) ?_
                      try simp only [Act.put, List.setIfInBounds_toArray, List.set_cons_zero, List.set_cons_succ]
                      refine wpAnyH_take (i := 18) (v := undef) (by simp only [List.getElem?_toArray, List.getElem?_cons_succ, List.getElem?_cons_zero]; rfl) (by kernel_rfl) (by kernel_rfl) (by kernel_rfl) (by exact fun _ _ _ h => h) (Or.inr ⟨by rfl, rfl⟩) (by assumption) ?_
                      try simp only [Act.put, List.setIfInBounds_toArray, List.set_cons_zero, List.set_cons_succ]
                      refine wpAnyH_take (i := 19) (v := undef) (by simp only [List.getElem?_toArray, List.getElem?_cons_succ, List.getElem?_cons_zero]; rfl) (by kernel_rfl) (by kernel_rfl) (by kernel_rfl) (by exact fun _ _ _ h => h) (Or.inr ⟨by rfl, rfl⟩) (by assumption) ?_
                      try simp only [Act.put, List.setIfInBounds_toArray, List.set_cons_zero, List.set_cons_succ]
                      refine wpAnyH_take (i := 20) (v := undef) (by simp only [List.getElem?_toArray, List.getElem?_cons_succ, List.getElem?_cons_zero]; rfl) (by kernel_rfl) (by kernel_rfl) (by kernel_rfl) (by exact fun _ _ _ h => h) (Or.inr ⟨by rfl, rfl⟩) (by assumption) ?_
                      try simp only [Act.put, List.setIfInBounds_toArray, List.set_cons_zero, List.set_cons_succ]
                      refine wpAnyH_take (i := 21) (v := undef) (by simp only [List.getElem?_toArray, List.getElem?_cons_succ, List.getElem?_cons_zero]; rfl) (by kernel_rfl) (by kernel_rfl) (by kernel_rfl) (by exact fun _ _ _ h => h) (Or.inr ⟨by rfl, rfl⟩) (by assumption) ?_
                      try simp only [Act.put, List.setIfInBounds_toArray, List.set_cons_zero, List.set_cons_succ]
                      refine wpAnyH_take (i := 22) (v := undef) (by simp only [List.getElem?_toArray, List.getElem?_cons_succ, List.getElem?_cons_zero]; rfl) (by kernel_rfl) (by kernel_rfl) (by kernel_rfl) (by exact fun _ _ _ h => h) (Or.inr ⟨by rfl, rfl⟩) (by assumption) ?_
                      try simp only [Act.put, List.setIfInBounds_toArray, List.set_cons_zero, List.set_cons_succ]
                      refine wpAnyH_take (i := 23) (v := undef) (by simp only [List.getElem?_toArray, List.getElem?_cons_succ, List.getElem?_cons_zero]; rfl) (by kernel_rfl) (by kernel_rfl) (by kernel_rfl) (by exact fun _ _ _ h => h) (Or.inr ⟨by rfl, rfl⟩) (by assumption) ?_
                      try simp only [Act.put, List.setIfInBounds_toArray, List.set_cons_zero, List.set_cons_succ]
                      refine wpAnyH_take (i := 24) (v := undef) (by simp only [List.getElem?_toArray, List.getElem?_cons_succ, List.getElem?_cons_zero]; rfl) (by kernel_rfl) (by kernel_rfl) (by kernel_rfl) (by exact fun _ _ _ h => h) (Or.inr ⟨by rfl, rfl⟩) (by assumption) ?_
                      try simp only [Act.put, List.setIfInBounds_toArray, List.set_cons_zero, List.set_cons_succ]
                      refine wpAnyH_take (i := 25) (v := undef) (by simp only [List.getElem?_toArray, List.getElem?_cons_succ, List.getElem?_cons_zero]; rfl) (by kernel_rfl) (by kernel_rfl) (by kernel_rfl) (by exact fun _ _ _ h => h) (Or.inr ⟨by rfl, rfl⟩) (by assumption) ?_
                      try simp only [Act.put, List.setIfInBounds_toArray, List.set_cons_zero, List.set_cons_succ]
                      refine wpAnyH_take (i := 26) (v := undef) (by simp only [List.getElem?_toArray, List.getElem?_cons_succ, List.getElem?_cons_zero]; rfl) (by kernel_rfl) (by kernel_rfl) (by kernel_rfl) (by exact fun _ _ _ h => h) (Or.inr ⟨by rfl, rfl⟩) (by assumption) ?_
                      try simp only [Act.put, List.setIfInBounds_toArray, List.set_cons_zero, List.set_cons_succ]
                      refine wpAnyH_take (i := 27) (v := ?_) (by simp only [List.getElem?_toArray, List.getElem?_cons_succ, List.getElem?_cons_zero]; rfl) (by kernel_rfl) (by kernel_rfl) (by kernel_rfl) (by exact fun _ _ _ h => h) (Or.inl ⟨by rfl, ?_⟩) (by assumption) ?_
                      rotate_left
                      · intro w' hSw; obtain ⟨e0, e1, e2, e3, e4⟩ := hSw
                        go_simp; try with_reducible rfl
                      try simp only [Act.put, List.setIfInBounds_toArray, List.set_cons_zero, List.set_cons_succ]
                      refine wpAnyH_done (by kernel_rfl) ?_ _
                      go_wp2_with fail
                      go_ret
                      exact ⟨by rw [HF.out]; rfl, HB2.out.1⟩
                    · have HN3 := Lib.hid (HNd2.out hm)
                      have HH : Hid (∀ W v, RowAt W v (sI (seenT t bs i k)) → Calls Try.prog 102 #[v, .int .i64 ((p : Nat) : Int)] W fun e w' => e = .returned (.bool false) ∧ W = w') := fun W v h => by
                        have h1 := l1Has_any v _ ((p : Nat) : Int) W h
                        rwa [inB_no (fun q => by
                          obtain ⟨x, hx, he⟩ := List.mem_map.1 q
                          have : x = p := by omega
                          subst this
                          exact hm hx)] at h1
                      by_cases hk0 : k = 0
                      · have HId : Hid (IdOk t f bs[i] k hkl) := HIdM.out hfd (fun j hj => by omega)
                        have hk0i : ¬ (0 : Int) < (k : Int) := by omega
                        have hk0n : ¬ 0 < k := by omega
                        have hk0d : decide ((0 : Int) < (k : Int)) = false := decide_eq_false hk0i
                        clear hm HNo2 HNd2 hk0
                        go_upto_region 11 with fail
                        refine wp_region_held_drew (S := (fun w' => w'.cell? ⟨w.heap.size, 0, none⟩ = some (.slice c0 t.net.stops.length d0) ∧ w'.cell? ⟨w.heap.size, 1, none⟩ = some (.slice c1 t.net.lines.length d1) ∧ w'.cell? ⟨w.heap.size, 2, none⟩ = some (.slice c2 t.trips.length d2) ∧ w'.cell? ⟨w.heap.size + 1, 0, none⟩ = some (.slice fa f.dead.length fc) ∧ w'.cell? ⟨w.heap.size + 1, 1, none⟩ = some (.int .i64 f.turn))) (by kernel_rfl) ?_ (fun hHeld => ?_)
                        · exact ⟨p0, p1, p2, q0, q1⟩
                        refine wpAnyH_take (i := 0) (v := ?_) (by simp only [List.getElem?_toArray, List.getElem?_cons_zero]; rfl) (by kernel_rfl) (by kernel_rfl) (by kernel_rfl) (by exact fun _ _ _ h => h) (Or.inl ⟨by rfl, ?_⟩) (by assumption) ?_
                        rotate_left
                        · intro w' hSw; obtain ⟨e0, e1, e2, e3, e4⟩ := hSw
                          go_simp; try with_reducible rfl
                        try simp only [Act.put, List.setIfInBounds_toArray, List.set_cons_zero, List.set_cons_succ]
                        refine wpAnyH_take (i := 1) (v := ?_) (by simp only [List.getElem?_toArray, List.getElem?_cons_succ, List.getElem?_cons_zero]; rfl) (by kernel_rfl) (by kernel_rfl) (by kernel_rfl) (by exact fun _ _ _ h => h) (Or.inl ⟨by rfl, ?_⟩) (by assumption) ?_
                        rotate_left
                        · intro w' hSw; obtain ⟨e0, e1, e2, e3, e4⟩ := hSw
                          go_simp; try with_reducible rfl
                        try simp only [Act.put, List.setIfInBounds_toArray, List.set_cons_zero, List.set_cons_succ]
                        refine wpAnyH_take (i := 2) (v := ?_) (by simp only [List.getElem?_toArray, List.getElem?_cons_succ, List.getElem?_cons_zero]; rfl) (by kernel_rfl) (by kernel_rfl) (by kernel_rfl) (by exact fun _ _ _ h => h) (Or.inl ⟨by rfl, ?_⟩) (by assumption) ?_
                        rotate_left
                        · intro w' hSw; obtain ⟨e0, e1, e2, e3, e4⟩ := hSw
                          go_simp; try with_reducible rfl
                        try simp only [Act.put, List.setIfInBounds_toArray, List.set_cons_zero, List.set_cons_succ]
                        refine wpAnyH_take (i := 3) (v := ?_) (by simp only [List.getElem?_toArray, List.getElem?_cons_succ, List.getElem?_cons_zero]; rfl) (by kernel_rfl) (by kernel_rfl) (by kernel_rfl) (by exact fun _ _ _ h => h) (Or.inl ⟨by rfl, ?_⟩) (by assumption) ?_
                        rotate_left
                        · intro w' hSw; obtain ⟨e0, e1, e2, e3, e4⟩ := hSw
                          go_simp; try with_reducible rfl
                        try simp only [Act.put, List.setIfInBounds_toArray, List.set_cons_zero, List.set_cons_succ]
                        refine wpAnyH_take (i := 4) (v := ?_) (by simp only [List.getElem?_toArray, List.getElem?_cons_succ, List.getElem?_cons_zero]; rfl) (by kernel_rfl) (by kernel_rfl) (by kernel_rfl) (by exact fun _ _ _ h => h) (Or.inl ⟨by rfl, ?_⟩) (by assumption) ?_
                        rotate_left
                        · intro w' hSw; obtain ⟨e0, e1, e2, e3, e4⟩ := hSw
                          go_simp; try with_reducible rfl
                        try simp only [Act.put, List.setIfInBounds_toArray, List.set_cons_zero, List.set_cons_succ]
                        refine wpAnyH_ready (rs := [5]) (by kernel_rfl) (by simp) ?_
                        refine AllReadyH.cons (by simp only [List.getElem?_toArray, List.getElem?_cons_succ, List.getElem?_cons_zero]; rfl) (fun K hK => ?_) AllReadyH.nil
                        go_simp
                        go_at_call 102
                        refine (belQ (HH.out _ _ (rowAt_own (own_later HO1.out (Below.refl _ _).drew)))).mono ?_
                        rintro e w2 ⟨rfl, hb⟩
                        have rbw : Below w1.heap.size w1 w2 := (Below.refl _ _).drew.trans hb
                        have hS2 : w2.cell? ⟨w.heap.size, 0, none⟩ = some (.slice c0 t.net.stops.length d0) ∧ w2.cell? ⟨w.heap.size, 1, none⟩ = some (.slice c1 t.net.lines.length d1) ∧ w2.cell? ⟨w.heap.size, 2, none⟩ = some (.slice c2 t.trips.length d2) ∧ w2.cell? ⟨w.heap.size + 1, 0, none⟩ = some (.slice fa f.dead.length fc) ∧ w2.cell? ⟨w.heap.size + 1, 1, none⟩ = some (.int .i64 f.turn) := ⟨bkeep rbw p0, bkeep rbw p1, bkeep rbw p2, bkeep rbw q0, bkeep rbw q1⟩
                        have HB2 : Hid (Below w.heap.size w w2 ∧ w.heap.size + 2 ≤ w2.heap.size) := ⟨HB1.out.1.trans (rbw.mono HB1.out.1.size), Nat.le_trans HB1.out.2 rbw.size⟩
                        have HO2 := Lib.hid (own_later HO1.out rbw)
                        clear hb rbw
                        go_wp2_with fail
                        refine hK.out _ _ hS2 (fun hH5 => ?_)
                        obtain ⟨p0, p1, p2, q0, q1⟩ := hS2
                        clear hK K
                        try simp only [Act.put, List.setIfInBounds_toArray, List.set_cons_zero, List.set_cons_succ]
                        refine wpAnyH_take (i := 6) (v := ?_) (by simp only [List.getElem?_toArray, List.getElem?_cons_succ, List.getElem?_cons_zero]; rfl) (by kernel_rfl) (by kernel_rfl) (by kernel_rfl) (by exact fun _ _ _ h => h) (Or.inl ⟨by rfl, ?_⟩) (by assumption) ?_
                        rotate_left
                        · intro w' hSw; obtain ⟨e0, e1, e2, e3, e4⟩ := hSw
                          go_simp; try with_reducible rfl
                        try simp only [Act.put, List.setIfInBounds_toArray, List.set_cons_zero, List.set_cons_succ]
                        refine wpAnyH_take (i := 7) (v := ?_) (by simp only [List.getElem?_toArray, List.getElem?_cons_succ, List.getElem?_cons_zero]; rfl) (by kernel_rfl) (by kernel_rfl) (by kernel_rfl) (by exact fun _ _ _ h => h) (Or.inl ⟨by rfl, ?_⟩) (by assumption) ?_
                        rotate_left
                        · intro w' hSw; obtain ⟨e0, e1, e2, e3, e4⟩ := hSw
                          go_simp; try with_reducible rfl
                        try simp only [Act.put, List.setIfInBounds_toArray, List.set_cons_zero, List.set_cons_succ]
                        refine wpAnyH_take (i := 8) (v := ?_) (by simp only [List.getElem?_toArray, List.getElem?_cons_succ, List.getElem?_cons_zero]; rfl) (by kernel_rfl) (by kernel_rfl) (by kernel_rfl) (by exact fun _ _ _ h => h) (Or.inl ⟨by rfl, ?_⟩) (by assumption) ?_
                        rotate_left
                        · intro w' hSw; obtain ⟨e0, e1, e2, e3, e4⟩ := hSw
                          go_simp; try with_reducible rfl
                        try simp only [Act.put, List.setIfInBounds_toArray, List.set_cons_zero, List.set_cons_succ]
                        refine wpAnyH_take (i := 9) (v := ?_) (by simp only [List.getElem?_toArray, List.getElem?_cons_succ, List.getElem?_cons_zero]; rfl) (by kernel_rfl) (by kernel_rfl) (by kernel_rfl) (by exact fun _ _ _ h => h) (Or.inl ⟨by rfl, ?_⟩) (by assumption) ?_
                        rotate_left
                        · intro w' hSw; obtain ⟨e0, e1, e2, e3, e4⟩ := hSw
                          go_simp; try with_reducible rfl
                        try simp only [Act.put, List.setIfInBounds_toArray, List.set_cons_zero, List.set_cons_succ]
                        refine wpAnyH_take (i := 10) (v := ?_) (by simp only [List.getElem?_toArray, List.getElem?_cons_succ, List.getElem?_cons_zero]; rfl) (by kernel_rfl) (by kernel_rfl) (by kernel_rfl) (by exact fun _ _ _ h => h) (Or.inl ⟨by rfl, ?_⟩) (by assumption) ?_
                        rotate_left
                        · intro w' hSw; obtain ⟨e0, e1, e2, e3, e4⟩ := hSw
                          go_simp; try with_reducible rfl
                        try simp only [Act.put, List.setIfInBounds_toArray, List.set_cons_zero, List.set_cons_succ]
                        refine wpAnyH_take (i := 11) (v := undef) (by simp only [List.getElem?_toArray, List.getElem?_cons_succ, List.getElem?_cons_zero]; rfl) (by kernel_rfl) (by kernel_rfl) (by kernel_rfl) (by exact fun _ _ _ h => h) (Or.inr ⟨by rfl, rfl⟩) (by assumption) ?_
                        try simp only [Act.put, List.setIfInBounds_toArray, List.set_cons_zero, List.set_cons_succ]
                        refine wpAnyH_take (i := 12) (v := undef) (by simp only [List.getElem?_toArray, List.getElem?_cons_succ, List.getElem?_cons_zero]; rfl) (by kernel_rfl) (by kernel_rfl) (by kernel_rfl) (by exact fun _ _ _ h => h) (Or.inr ⟨by rfl, rfl⟩) (by assumption) ?_
                        try simp only [Act.put, List.setIfInBounds_toArray, List.set_cons_zero, List.set_cons_succ]
                        refine wpAnyH_take (i := 13) (v := undef) (by simp only [List.getElem?_toArray, List.getElem?_cons_succ, List.getElem?_cons_zero]; rfl) (by kernel_rfl) (by kernel_rfl) (by kernel_rfl) (by exact fun _ _ _ h => h) (Or.inr ⟨by rfl, rfl⟩) (by assumption) ?_
                        try simp only [Act.put, List.setIfInBounds_toArray, List.set_cons_zero, List.set_cons_succ]
                        refine wpAnyH_take (i := 14) (v := undef) (by simp only [List.getElem?_toArray, List.getElem?_cons_succ, List.getElem?_cons_zero]; rfl) (by kernel_rfl) (by kernel_rfl) (by kernel_rfl) (by exact fun _ _ _ h => h) (Or.inr ⟨by rfl, rfl⟩) (by assumption) ?_
                        try simp only [Act.put, List.setIfInBounds_toArray, List.set_cons_zero, List.set_cons_succ]
                        refine wpAnyH_take (i := 15) (v := undef) (by simp only [List.getElem?_toArray, List.getElem?_cons_succ, List.getElem?_cons_zero]; rfl) (by kernel_rfl) (by kernel_rfl) (by kernel_rfl) (by exact fun _ _ _ h => h) (Or.inr ⟨by rfl, rfl⟩) (by assumption) ?_
                        try simp only [Act.put, List.setIfInBounds_toArray, List.set_cons_zero, List.set_cons_succ]
                        refine wpAnyH_take (i := 16) (v := undef) (by simp only [List.getElem?_toArray, List.getElem?_cons_succ, List.getElem?_cons_zero]; rfl) (by kernel_rfl) (by kernel_rfl) (by kernel_rfl) (by exact fun _ _ _ h => h) (Or.inr ⟨by rfl, rfl⟩) (by assumption) ?_
                        try simp only [Act.put, List.setIfInBounds_toArray, List.set_cons_zero, List.set_cons_succ]
                        refine wpAnyH_take (i := 17) (v := undef) (by simp only [List.getElem?_toArray, List.getElem?_cons_succ, List.getElem?_cons_zero]; rfl) (by kernel_rfl) (by kernel_rfl) (by kernel_rfl) (by exact fun _ _ _ h => h) (Or.inr ⟨by rfl, rfl⟩) (by assumption) ?_
                        try simp only [Act.put, List.setIfInBounds_toArray, List.set_cons_zero, List.set_cons_succ]
                        refine wpAnyH_take (i := 18) (v := undef) (by simp only [List.getElem?_toArray, List.getElem?_cons_succ, List.getElem?_cons_zero]; rfl) (by kernel_rfl) (by kernel_rfl) (by kernel_rfl) (by exact fun _ _ _ h => h) (Or.inr ⟨by rfl, rfl⟩) (by assumption) ?_
                        try simp only [Act.put, List.setIfInBounds_toArray, List.set_cons_zero, List.set_cons_succ]
                        refine wpAnyH_take (i := 19) (v := undef) (by simp only [List.getElem?_toArray, List.getElem?_cons_succ, List.getElem?_cons_zero]; rfl) (by kernel_rfl) (by kernel_rfl) (by kernel_rfl) (by exact fun _ _ _ h => h) (Or.inr ⟨by rfl, rfl⟩) (by assumption) ?_
                        try simp only [Act.put, List.setIfInBounds_toArray, List.set_cons_zero, List.set_cons_succ]
                        refine wpAnyH_take (i := 20) (v := undef) (by simp only [List.getElem?_toArray, List.getElem?_cons_succ, List.getElem?_cons_zero]; rfl) (by kernel_rfl) (by kernel_rfl) (by kernel_rfl) (by exact fun _ _ _ h => h) (Or.inr ⟨by rfl, rfl⟩) (by assumption) ?_
                        try simp only [Act.put, List.setIfInBounds_toArray, List.set_cons_zero, List.set_cons_succ]
                        refine wpAnyH_take (i := 21) (v := undef) (by simp only [List.getElem?_toArray, List.getElem?_cons_succ, List.getElem?_cons_zero]; rfl) (by kernel_rfl) (by kernel_rfl) (by kernel_rfl) (by exact fun _ _ _ h => h) (Or.inr ⟨by rfl, rfl⟩) (by assumption) ?_
                        try simp only [Act.put, List.setIfInBounds_toArray, List.set_cons_zero, List.set_cons_succ]
                        refine wpAnyH_take (i := 22) (v := undef) (by simp only [List.getElem?_toArray, List.getElem?_cons_succ, List.getElem?_cons_zero]; rfl) (by kernel_rfl) (by kernel_rfl) (by kernel_rfl) (by exact fun _ _ _ h => h) (Or.inr ⟨by rfl, rfl⟩) (by assumption) ?_
                        try simp only [Act.put, List.setIfInBounds_toArray, List.set_cons_zero, List.set_cons_succ]
                        refine wpAnyH_take (i := 23) (v := undef) (by simp only [List.getElem?_toArray, List.getElem?_cons_succ, List.getElem?_cons_zero]; rfl) (by kernel_rfl) (by kernel_rfl) (by kernel_rfl) (by exact fun _ _ _ h => h) (Or.inr ⟨by rfl, rfl⟩) (by assumption) ?_
                        try simp only [Act.put, List.setIfInBounds_toArray, List.set_cons_zero, List.set_cons_succ]
                        refine wpAnyH_take (i := 24) (v := undef) (by simp only [List.getElem?_toArray, List.getElem?_cons_succ, List.getElem?_cons_zero]; rfl) (by kernel_rfl) (by kernel_rfl) (by kernel_rfl) (by exact fun _ _ _ h => h) (Or.inr ⟨by rfl, rfl⟩) (by assumption) ?_
                        try simp only [Act.put, List.setIfInBounds_toArray, List.set_cons_zero, List.set_cons_succ]
                        refine wpAnyH_take (i := 25) (v := undef) (by simp only [List.getElem?_toArray, List.getElem?_cons_succ, List.getElem?_cons_zero]; rfl) (by kernel_rfl) (by kernel_rfl) (by kernel_rfl) (by exact fun _ _ _ h => h) (Or.inr ⟨by rfl, rfl⟩) (by assumption) ?_
                        try simp only [Act.put, List.setIfInBounds_toArray, List.set_cons_zero, List.set_cons_succ]
                        refine wpAnyH_take (i := 26) (v := ?_) (by simp only [List.getElem?_toArray, List.getElem?_cons_succ, List.getElem?_cons_zero]; rfl) (by kernel_rfl) (by kernel_rfl) (by kernel_rfl) (by exact fun _ _ _ h => h) (Or.inl ⟨by rfl, ?_⟩) (by assumption) ?_
                        rotate_left
                        · intro w' hSw; obtain ⟨e0, e1, e2, e3, e4⟩ := hSw
                          go_simp; try with_reducible rfl
                        try simp only [Act.put, List.setIfInBounds_toArray, List.set_cons_zero, List.set_cons_succ]
                        refine wpAnyH_take (i := 27) (v := ?_) (by simp only [List.getElem?_toArray, List.getElem?_cons_succ, List.getElem?_cons_zero]; rfl) (by kernel_rfl) (by kernel_rfl) (by kernel_rfl) (by exact fun _ _ _ h => h) (Or.inl ⟨by rfl, ?_⟩) (by assumption) ?_
                        rotate_left
                        · intro w' hSw; obtain ⟨e0, e1, e2, e3, e4⟩ := hSw
                          go_simp; try with_reducible rfl
                        try simp only [Act.put, List.setIfInBounds_toArray, List.set_cons_zero, List.set_cons_succ]
                        refine wpAnyH_done (by kernel_rfl) ?_ _
                        clear HFd HF1
                        try clear hk0i hk0n hk0d
                        have hzn := HB2.out.2
                        go_wp2_with (at_builtin; refine wpList_append_own _ rfl _ _ 80 rfl (w.heap.size + 2) 3 i0 (.int .i64 0) 1 8 Try.underlying80 hi0 iz0 iz1 iz2 rfl (by decide) _ _ _ rfl (HO2.out.alloc _) ⟨w2.heap.size, 0, none⟩ 1 1 [.int .i64 ((p : Nat) : Int)] rfl rfl ?c1 ?c2 ?c3 ?c4 ?c5 ?_)
                        case c1 => exact one_new _ _
                        case c2 => intro u hu; simp at hu; subst hu; rfl
                        case c3 => unfold maxLen; omega
                        case c4 => omega
                        case c5 => simp; omega
                        intro v' w5 hown' hgrow _
                        have hown0 := HO2.out
                        have HB5 : Hid (Below w.heap.size w w5 ∧ w.heap.size + 2 ≤ w5.heap.size) := ⟨(HB2.out.1.alloc (by omega) _).grown hgrow (by simp; omega) (fun g hg => by have := (hown0.lt g hg).1; omega), by have := hgrow.size; simp at this; omega⟩
                        have hb6 : Below (w.heap.size + 2) (w2.alloc (.cells #[.int .i64 ((p : Nat) : Int)] 3)) w5 := (Below.refl _ _).grown hgrow (by simp; omega) (fun g hg => (hown0.lt g hg).1)
                        have p0 : w5.cell? ⟨w.heap.size, 0, none⟩ = some (.slice c0 t.net.stops.length d0) := by rw [hb6.cell (p := ⟨w.heap.size, 0, none⟩) (by dsimp only; omega)]; exact acell p0 _
                        have p1 : w5.cell? ⟨w.heap.size, 1, none⟩ = some (.slice c1 t.net.lines.length d1) := by rw [hb6.cell (p := ⟨w.heap.size, 1, none⟩) (by dsimp only; omega)]; exact acell p1 _
                        have p2 : w5.cell? ⟨w.heap.size, 2, none⟩ = some (.slice c2 t.trips.length d2) := by rw [hb6.cell (p := ⟨w.heap.size, 2, none⟩) (by dsimp only; omega)]; exact acell p2 _
                        have q0 : w5.cell? ⟨w.heap.size + 1, 0, none⟩ = some (.slice fa f.dead.length fc) := by rw [hb6.cell (p := ⟨w.heap.size + 1, 0, none⟩) (by dsimp only; omega)]; exact acell q0 _
                        have q1 : w5.cell? ⟨w.heap.size + 1, 1, none⟩ = some (.int .i64 f.turn) := by rw [hb6.cell (p := ⟨w.heap.size + 1, 1, none⟩) (by dsimp only; omega)]; exact acell q1 _
                        have HOn : Hid (w5.ownsRow (w.heap.size + 2) 3 1 v' (seenT t bs i (k + 1)).length (sI (seenT t bs i (k + 1)))) := by
                          show World.ownsRow _ _ _ _ _ _ _
                          rw [HRw.out, sI_snoc, List.length_append]
                          exact hown'
                        have HTb2 := Lib.hid (blkTo_succ hkl HTb.out HId.out)
                        clear hown' hgrow hown0 hb6
                        obtain ⟨a6, c6, rfl⟩ := own_shape HOn.out
                        go_wp2_with fail
                        go_roundw
                        case rel => exact ⟨k + 1, by omega, by go_num, HTb2, HN3, HOn, p0, p1, p2, q0, q1, HB5⟩
                        case measure => simp [RowKit.intOf]; omega
                      · obtain ⟨m, rfl⟩ : ∃ m, k = m + 1 := ⟨k - 1, by omega⟩
                        obtain ⟨idp, pp, ⟨hlp, htp⟩, hidp, hpm, hfp⟩ := HPrev.out m rfl
                        have hne : pp ≠ p := fun e => hm (e ▸ hpm)
                        have HFo := Lib.hid (HFoG.out pp p hne hlp hpl)
                        have HTp := Lib.hid htp
                        have htr := HTr.out hfd hpl
                        rw [htp, htr] at HFo
                        have HIdM2 : Hid (follF t.net f (tripOf t idp) (tripOf t id) = true → IdOk t f bs[i] (m + 1) hkl) := fun h => HIdM.out hfd (fun j hj => by
                          have e : j = m := by omega
                          subst e
                          rw [hidp]; exact h)
                        have HNo3 : Hid (follF t.net f (tripOf t idp) (tripOf t id) = false → blksB t f bs = false) := fun h => HNoI.out (fun q => by
                          have h2 := q.2 m rfl
                          rw [hidp, HIdE.out, h] at h2; cases h2)
                        have zP := HZm.out _ HB1.out.1 m (by omega)
                        rw [hidp] at zP
                        have HF2 := Lib.hid (fun W (h : Below w.heap.size w W) => HFd.out W h idp)
                        rw [hfp] at HF2
                        have hwm : IntKind.i64.wrap (m : Int) = (m : Int) := IntWalk.i64_in _ (by omega)
                        have hkm : ((m + 1 : Nat) : Int) - 1 = (m : Int) := by omega
                        have hm1 : (m : Int) < (bs[i].length : Int) := by omega
                        have hkp : (0 : Int) < ((m + 1 : Nat) : Int) := by omega
                        clear hm HNo2 HNd2 hk0 hidp hpm hfp htp htr HTp hne HPrev HTr HIdM HNoI HFoG
                        generalize hfo : follF t.net f (tripOf t idp) (tripOf t id) = r at *
                        clear hfo
                        cases r
                        · have HF := Lib.hid (HNo3.out rfl)
                          go_upto_region 11 with fail
                          refine wp_region_held_drew (S := (fun w' => w'.cell? ⟨w.heap.size, 0, none⟩ = some (.slice c0 t.net.stops.length d0) ∧ w'.cell? ⟨w.heap.size, 1, none⟩ = some (.slice c1 t.net.lines.length d1) ∧ w'.cell? ⟨w.heap.size, 2, none⟩ = some (.slice c2 t.trips.length d2) ∧ w'.cell? ⟨w.heap.size + 1, 0, none⟩ = some (.slice fa f.dead.length fc) ∧ w'.cell? ⟨w.heap.size + 1, 1, none⟩ = some (.int .i64 f.turn) ∧ w'.cell? ⟨vb, vo + i, none⟩ = some (.slice (some ⟨rb, ro, none⟩) bs[i].length rc) ∧ w'.cell? ⟨rb, ro + m, none⟩ = some (.int .i64 idp))) (by kernel_rfl) ?_ (fun hHeld => ?_)
                          · exact ⟨p0, p1, p2, q0, q1, yI, zP⟩
                          refine wpAnyH_take (i := 0) (v := ?_) (by simp only [List.getElem?_toArray, List.getElem?_cons_zero]; rfl) (by kernel_rfl) (by kernel_rfl) (by kernel_rfl) (by exact fun _ _ _ h => h) (Or.inl ⟨by rfl, ?_⟩) (by assumption) ?_
                          rotate_left
                          · intro w' hSw; obtain ⟨e0, e1, e2, e3, e4, e5, e6⟩ := hSw
                            go_simp; try with_reducible rfl
                          try simp only [Act.put, List.setIfInBounds_toArray, List.set_cons_zero, List.set_cons_succ]
                          refine wpAnyH_take (i := 1) (v := ?_) (by simp only [List.getElem?_toArray, List.getElem?_cons_succ, List.getElem?_cons_zero]; rfl) (by kernel_rfl) (by kernel_rfl) (by kernel_rfl) (by exact fun _ _ _ h => h) (Or.inl ⟨by rfl, ?_⟩) (by assumption) ?_
                          rotate_left
                          · intro w' hSw; obtain ⟨e0, e1, e2, e3, e4, e5, e6⟩ := hSw
                            go_simp; try with_reducible rfl
                          try simp only [Act.put, List.setIfInBounds_toArray, List.set_cons_zero, List.set_cons_succ]
                          refine wpAnyH_take (i := 2) (v := ?_) (by simp only [List.getElem?_toArray, List.getElem?_cons_succ, List.getElem?_cons_zero]; rfl) (by kernel_rfl) (by kernel_rfl) (by kernel_rfl) (by exact fun _ _ _ h => h) (Or.inl ⟨by rfl, ?_⟩) (by assumption) ?_
                          rotate_left
                          · intro w' hSw; obtain ⟨e0, e1, e2, e3, e4, e5, e6⟩ := hSw
                            go_simp; try with_reducible rfl
                          try simp only [Act.put, List.setIfInBounds_toArray, List.set_cons_zero, List.set_cons_succ]
                          refine wpAnyH_take (i := 3) (v := ?_) (by simp only [List.getElem?_toArray, List.getElem?_cons_succ, List.getElem?_cons_zero]; rfl) (by kernel_rfl) (by kernel_rfl) (by kernel_rfl) (by exact fun _ _ _ h => h) (Or.inl ⟨by rfl, ?_⟩) (by assumption) ?_
                          rotate_left
                          · intro w' hSw; obtain ⟨e0, e1, e2, e3, e4, e5, e6⟩ := hSw
                            go_simp; try with_reducible rfl
                          try simp only [Act.put, List.setIfInBounds_toArray, List.set_cons_zero, List.set_cons_succ]
                          refine wpAnyH_take (i := 4) (v := ?_) (by simp only [List.getElem?_toArray, List.getElem?_cons_succ, List.getElem?_cons_zero]; rfl) (by kernel_rfl) (by kernel_rfl) (by kernel_rfl) (by exact fun _ _ _ h => h) (Or.inl ⟨by rfl, ?_⟩) (by assumption) ?_
                          rotate_left
                          · intro w' hSw; obtain ⟨e0, e1, e2, e3, e4, e5, e6⟩ := hSw
                            go_simp; try with_reducible rfl
                          try simp only [Act.put, List.setIfInBounds_toArray, List.set_cons_zero, List.set_cons_succ]
                          refine wpAnyH_ready (rs := [5]) (by kernel_rfl) (by simp) ?_
                          refine AllReadyH.cons (by simp only [List.getElem?_toArray, List.getElem?_cons_succ, List.getElem?_cons_zero]; rfl) (fun K hK => ?_) AllReadyH.nil
                          go_simp
                          go_at_call 102
                          refine (belQ (HH.out _ _ (rowAt_own (own_later HO1.out (Below.refl _ _).drew)))).mono ?_
                          rintro e w2 ⟨rfl, hb⟩
                          have rbw : Below w1.heap.size w1 w2 := (Below.refl _ _).drew.trans hb
                          have hS2 : w2.cell? ⟨w.heap.size, 0, none⟩ = some (.slice c0 t.net.stops.length d0) ∧ w2.cell? ⟨w.heap.size, 1, none⟩ = some (.slice c1 t.net.lines.length d1) ∧ w2.cell? ⟨w.heap.size, 2, none⟩ = some (.slice c2 t.trips.length d2) ∧ w2.cell? ⟨w.heap.size + 1, 0, none⟩ = some (.slice fa f.dead.length fc) ∧ w2.cell? ⟨w.heap.size + 1, 1, none⟩ = some (.int .i64 f.turn) ∧ w2.cell? ⟨vb, vo + i, none⟩ = some (.slice (some ⟨rb, ro, none⟩) bs[i].length rc) ∧ w2.cell? ⟨rb, ro + m, none⟩ = some (.int .i64 idp) := ⟨bkeep rbw p0, bkeep rbw p1, bkeep rbw p2, bkeep rbw q0, bkeep rbw q1, bkeep rbw yI, bkeep rbw zP⟩
                          have HB2 : Hid (Below w.heap.size w w2 ∧ w.heap.size + 2 ≤ w2.heap.size) := ⟨HB1.out.1.trans (rbw.mono HB1.out.1.size), Nat.le_trans HB1.out.2 rbw.size⟩
                          have HO2 := Lib.hid (own_later HO1.out rbw)
                          clear hb rbw
                          go_wp2_with fail
                          refine hK.out _ _ hS2 (fun hH5 => ?_)
                          obtain ⟨p0, p1, p2, q0, q1, yI, zP⟩ := hS2
                          clear hK K
                          try simp only [Act.put, List.setIfInBounds_toArray, List.set_cons_zero, List.set_cons_succ]
                          refine wpAnyH_take (i := 6) (v := ?_) (by simp only [List.getElem?_toArray, List.getElem?_cons_succ, List.getElem?_cons_zero]; rfl) (by kernel_rfl) (by kernel_rfl) (by kernel_rfl) (by exact fun _ _ _ h => h) (Or.inl ⟨by rfl, ?_⟩) (by assumption) ?_
                          rotate_left
                          · intro w' hSw; obtain ⟨e0, e1, e2, e3, e4, e5, e6⟩ := hSw
                            go_simp; try with_reducible rfl
                          try simp only [Act.put, List.setIfInBounds_toArray, List.set_cons_zero, List.set_cons_succ]
                          refine wpAnyH_take (i := 7) (v := ?_) (by simp only [List.getElem?_toArray, List.getElem?_cons_succ, List.getElem?_cons_zero]; rfl) (by kernel_rfl) (by kernel_rfl) (by kernel_rfl) (by exact fun _ _ _ h => h) (Or.inl ⟨by rfl, ?_⟩) (by assumption) ?_
                          rotate_left
                          · intro w' hSw; obtain ⟨e0, e1, e2, e3, e4, e5, e6⟩ := hSw
                            go_simp; try with_reducible rfl
                          try simp only [Act.put, List.setIfInBounds_toArray, List.set_cons_zero, List.set_cons_succ]
                          refine wpAnyH_take (i := 8) (v := ?_) (by simp only [List.getElem?_toArray, List.getElem?_cons_succ, List.getElem?_cons_zero]; rfl) (by kernel_rfl) (by kernel_rfl) (by kernel_rfl) (by exact fun _ _ _ h => h) (Or.inl ⟨by rfl, ?_⟩) (by assumption) ?_
                          rotate_left
                          · intro w' hSw; obtain ⟨e0, e1, e2, e3, e4, e5, e6⟩ := hSw
                            go_simp; try with_reducible rfl
                          try simp only [Act.put, List.setIfInBounds_toArray, List.set_cons_zero, List.set_cons_succ]
                          refine wpAnyH_take (i := 9) (v := ?_) (by simp only [List.getElem?_toArray, List.getElem?_cons_succ, List.getElem?_cons_zero]; rfl) (by kernel_rfl) (by kernel_rfl) (by kernel_rfl) (by exact fun _ _ _ h => h) (Or.inl ⟨by rfl, ?_⟩) (by assumption) ?_
                          rotate_left
                          · intro w' hSw; obtain ⟨e0, e1, e2, e3, e4, e5, e6⟩ := hSw
                            go_simp; try with_reducible rfl
                          try simp only [Act.put, List.setIfInBounds_toArray, List.set_cons_zero, List.set_cons_succ]
                          refine wpAnyH_take (i := 10) (v := ?_) (by simp only [List.getElem?_toArray, List.getElem?_cons_succ, List.getElem?_cons_zero]; rfl) (by kernel_rfl) (by kernel_rfl) (by kernel_rfl) (by exact fun _ _ _ h => h) (Or.inl ⟨by rfl, ?_⟩) (by assumption) ?_
                          rotate_left
                          · intro w' hSw; obtain ⟨e0, e1, e2, e3, e4, e5, e6⟩ := hSw
                            go_simp; try with_reducible rfl
                          try simp only [Act.put, List.setIfInBounds_toArray, List.set_cons_zero, List.set_cons_succ]
                          refine wpAnyH_take (i := 11) (v := ?_) (by simp only [List.getElem?_toArray, List.getElem?_cons_succ, List.getElem?_cons_zero]; rfl) (by kernel_rfl) (by kernel_rfl) (by kernel_rfl) (by exact fun _ _ _ h => h) (Or.inl ⟨by rfl, ?_⟩) (by assumption) ?_
                          rotate_left
                          · intro w' hSw; obtain ⟨e0, e1, e2, e3, e4, e5, e6⟩ := hSw
                            go_simp; try with_reducible rfl
                          try simp only [Act.put, List.setIfInBounds_toArray, List.set_cons_zero, List.set_cons_succ]
                          refine wpAnyH_take (i := 12) (v := ?_) (by simp only [List.getElem?_toArray, List.getElem?_cons_succ, List.getElem?_cons_zero]; rfl) (by kernel_rfl) (by kernel_rfl) (by kernel_rfl) (by exact fun _ _ _ h => h) (Or.inl ⟨by rfl, ?_⟩) (by assumption) ?_
                          rotate_left
                          · intro w' hSw; obtain ⟨e0, e1, e2, e3, e4, e5, e6⟩ := hSw
                            go_simp; try with_reducible rfl
                          try simp only [Act.put, List.setIfInBounds_toArray, List.set_cons_zero, List.set_cons_succ]
                          refine wpAnyH_take (i := 13) (v := ?_) (by simp only [List.getElem?_toArray, List.getElem?_cons_succ, List.getElem?_cons_zero]; rfl) (by kernel_rfl) (by kernel_rfl) (by kernel_rfl) (by exact fun _ _ _ h => h) (Or.inl ⟨by rfl, ?_⟩) (by assumption) ?_
                          rotate_left
                          · intro w' hSw; obtain ⟨e0, e1, e2, e3, e4, e5, e6⟩ := hSw
                            go_simp; try with_reducible rfl
                          try simp only [Act.put, List.setIfInBounds_toArray, List.set_cons_zero, List.set_cons_succ]
                          refine wpAnyH_take (i := 14) (v := ?_) (by simp only [List.getElem?_toArray, List.getElem?_cons_succ, List.getElem?_cons_zero]; rfl) (by kernel_rfl) (by kernel_rfl) (by kernel_rfl) (by exact fun _ _ _ h => h) (Or.inl ⟨by rfl, ?_⟩) (by assumption) ?_
                          rotate_left
                          · intro w' hSw; obtain ⟨e0, e1, e2, e3, e4, e5, e6⟩ := hSw
                            go_simp; try with_reducible rfl
                          try simp only [Act.put, List.setIfInBounds_toArray, List.set_cons_zero, List.set_cons_succ]
                          refine wpAnyH_take (i := 15) (v := ?_) (by simp only [List.getElem?_toArray, List.getElem?_cons_succ, List.getElem?_cons_zero]; rfl) (by kernel_rfl) (by kernel_rfl) (by kernel_rfl) (by exact fun _ _ _ h => h) (Or.inl ⟨by rfl, ?_⟩) (by assumption) ?_
                          rotate_left
                          · intro w' hSw; obtain ⟨e0, e1, e2, e3, e4, e5, e6⟩ := hSw
                            go_simp; try with_reducible rfl
                          try simp only [Act.put, List.setIfInBounds_toArray, List.set_cons_zero, List.set_cons_succ]
                          refine wpAnyH_take (i := 16) (v := ?_) (by simp only [List.getElem?_toArray, List.getElem?_cons_succ, List.getElem?_cons_zero]; rfl) (by kernel_rfl) (by kernel_rfl) (by kernel_rfl) (by exact fun _ _ _ h => h) (Or.inl ⟨by rfl, ?_⟩) (by assumption) ?_
                          rotate_left
                          · intro w' hSw; obtain ⟨e0, e1, e2, e3, e4, e5, e6⟩ := hSw
                            go_simp; try with_reducible rfl
                          try simp only [Act.put, List.setIfInBounds_toArray, List.set_cons_zero, List.set_cons_succ]
                          refine wpAnyH_take (i := 17) (v := ?_) (by simp only [List.getElem?_toArray, List.getElem?_cons_succ, List.getElem?_cons_zero]; rfl) (by kernel_rfl) (by kernel_rfl) (by kernel_rfl) (by exact fun _ _ _ h => h) (Or.inl ⟨by rfl, ?_⟩) (by assumption) ?_
                          rotate_left
                          · intro w' hSw; obtain ⟨e0, e1, e2, e3, e4, e5, e6⟩ := hSw
                            go_simp; try with_reducible rfl
                          try simp only [Act.put, List.setIfInBounds_toArray, List.set_cons_zero, List.set_cons_succ]
                          refine wpAnyH_take (i := 18) (v := ?_) (by simp only [List.getElem?_toArray, List.getElem?_cons_succ, List.getElem?_cons_zero]; rfl) (by kernel_rfl) (by kernel_rfl) (by kernel_rfl) (by exact fun _ _ _ h => h) (Or.inl ⟨by rfl, ?_⟩) (by assumption) ?_
                          rotate_left
                          · intro w' hSw; obtain ⟨e0, e1, e2, e3, e4, e5, e6⟩ := hSw
                            go_simp; try with_reducible rfl
                          try simp only [Act.put, List.setIfInBounds_toArray, List.set_cons_zero, List.set_cons_succ]
                          refine wpAnyH_take (i := 19) (v := ?_) (by simp only [List.getElem?_toArray, List.getElem?_cons_succ, List.getElem?_cons_zero]; rfl) (by kernel_rfl) (by kernel_rfl) (by kernel_rfl) (by exact fun _ _ _ h => h) (Or.inl ⟨by rfl, ?_⟩) (by assumption) ?_
                          rotate_left
                          · intro w' hSw; obtain ⟨e0, e1, e2, e3, e4, e5, e6⟩ := hSw
                            go_simp; try with_reducible rfl
                          try simp only [Act.put, List.setIfInBounds_toArray, List.set_cons_zero, List.set_cons_succ]
                          refine wpAnyH_take (i := 20) (v := ?_) (by simp only [List.getElem?_toArray, List.getElem?_cons_succ, List.getElem?_cons_zero]; rfl) (by kernel_rfl) (by kernel_rfl) (by kernel_rfl) (by exact fun _ _ _ h => h) (Or.inl ⟨by rfl, ?_⟩) (by assumption) ?_
                          rotate_left
                          · intro w' hSw; obtain ⟨e0, e1, e2, e3, e4, e5, e6⟩ := hSw
                            go_simp; try with_reducible rfl
                          try simp only [Act.put, List.setIfInBounds_toArray, List.set_cons_zero, List.set_cons_succ]
                          refine wpAnyH_take (i := 21) (v := ?_) (by simp only [List.getElem?_toArray, List.getElem?_cons_succ, List.getElem?_cons_zero]; rfl) (by kernel_rfl) (by kernel_rfl) (by kernel_rfl) (by exact fun _ _ _ h => h) (Or.inl ⟨by rfl, ?_⟩) (by assumption) ?_
                          rotate_left
                          · intro w' hSw; obtain ⟨e0, e1, e2, e3, e4, e5, e6⟩ := hSw
                            go_simp; try with_reducible rfl
                          try simp only [Act.put, List.setIfInBounds_toArray, List.set_cons_zero, List.set_cons_succ]
                          refine wpAnyH_take (i := 23) (v := ?_) (by simp only [List.getElem?_toArray, List.getElem?_cons_succ, List.getElem?_cons_zero]; rfl) (by kernel_rfl) (by kernel_rfl) (by kernel_rfl) (by exact fun _ _ _ h => h) (Or.inl ⟨by rfl, ?_⟩) (by assumption) ?_
                          rotate_left
                          · intro w' hSw; obtain ⟨e0, e1, e2, e3, e4, e5, e6⟩ := hSw
                            go_simp; try with_reducible rfl
                          try simp only [Act.put, List.setIfInBounds_toArray, List.set_cons_zero, List.set_cons_succ]
                          refine wpAnyH_ready (rs := [22]) (by kernel_rfl) (by simp) ?_
                          refine AllReadyH.cons (by simp only [List.getElem?_toArray, List.getElem?_cons_succ, List.getElem?_cons_zero]; rfl) (fun K hK => ?_) AllReadyH.nil
                          go_simp
                          go_at_call 57
                          refine (HF2.out _ HB2.out.1).mono ?_
                          rintro e w3 ⟨rfl, hb⟩
                          have rbw : Below w2.heap.size w2 w3 := hb
                          have hS2 : w3.cell? ⟨w.heap.size, 0, none⟩ = some (.slice c0 t.net.stops.length d0) ∧ w3.cell? ⟨w.heap.size, 1, none⟩ = some (.slice c1 t.net.lines.length d1) ∧ w3.cell? ⟨w.heap.size, 2, none⟩ = some (.slice c2 t.trips.length d2) ∧ w3.cell? ⟨w.heap.size + 1, 0, none⟩ = some (.slice fa f.dead.length fc) ∧ w3.cell? ⟨w.heap.size + 1, 1, none⟩ = some (.int .i64 f.turn) ∧ w3.cell? ⟨vb, vo + i, none⟩ = some (.slice (some ⟨rb, ro, none⟩) bs[i].length rc) ∧ w3.cell? ⟨rb, ro + m, none⟩ = some (.int .i64 idp) := ⟨bkeep rbw p0, bkeep rbw p1, bkeep rbw p2, bkeep rbw q0, bkeep rbw q1, bkeep rbw yI, bkeep rbw zP⟩
                          have HB3 : Hid (Below w.heap.size w w3 ∧ w.heap.size + 2 ≤ w3.heap.size) := ⟨HB2.out.1.trans (rbw.mono HB2.out.1.size), Nat.le_trans HB2.out.2 rbw.size⟩
                          have HO3 := Lib.hid (own_later HO2.out rbw)
                          clear hb rbw
                          go_wp2_with fail
                          refine hK.out _ _ hS2 (fun hH22 => ?_)
                          obtain ⟨p0, p1, p2, q0, q1, yI, zP⟩ := hS2
                          clear hK K
                          try simp only [Act.put, List.setIfInBounds_toArray, List.set_cons_zero, List.set_cons_succ]
                          refine wpAnyH_ready (rs := [24]) (by kernel_rfl) (by simp) ?_
                          refine AllReadyH.cons (by simp only [List.getElem?_toArray, List.getElem?_cons_succ, List.getElem?_cons_zero]; rfl) (fun K hK => ?_) AllReadyH.nil
                          go_simp
                          go_at_call 59
                          refine (HFo.out _ HB3.out.1).mono ?_
                          rintro e w4 ⟨rfl, hb⟩
                          have rbw : Below w3.heap.size w3 w4 := hb
                          have hS2 : w4.cell? ⟨w.heap.size, 0, none⟩ = some (.slice c0 t.net.stops.length d0) ∧ w4.cell? ⟨w.heap.size, 1, none⟩ = some (.slice c1 t.net.lines.length d1) ∧ w4.cell? ⟨w.heap.size, 2, none⟩ = some (.slice c2 t.trips.length d2) ∧ w4.cell? ⟨w.heap.size + 1, 0, none⟩ = some (.slice fa f.dead.length fc) ∧ w4.cell? ⟨w.heap.size + 1, 1, none⟩ = some (.int .i64 f.turn) ∧ w4.cell? ⟨vb, vo + i, none⟩ = some (.slice (some ⟨rb, ro, none⟩) bs[i].length rc) ∧ w4.cell? ⟨rb, ro + m, none⟩ = some (.int .i64 idp) := ⟨bkeep rbw p0, bkeep rbw p1, bkeep rbw p2, bkeep rbw q0, bkeep rbw q1, bkeep rbw yI, bkeep rbw zP⟩
                          have HB4 : Hid (Below w.heap.size w w4 ∧ w.heap.size + 2 ≤ w4.heap.size) := ⟨HB3.out.1.trans (rbw.mono HB3.out.1.size), Nat.le_trans HB3.out.2 rbw.size⟩
                          have HO4 := Lib.hid (own_later HO3.out rbw)
                          clear hb rbw
                          go_wp2_with fail
                          refine hK.out _ _ hS2 (fun hH24 => ?_)
                          obtain ⟨p0, p1, p2, q0, q1, yI, zP⟩ := hS2
                          clear hK K
                          try simp only [Act.put, List.setIfInBounds_toArray, List.set_cons_zero, List.set_cons_succ]
                          refine wpAnyH_take (i := 25) (v := ?_) (by simp only [List.getElem?_toArray, List.getElem?_cons_succ, List.getElem?_cons_zero]; rfl) (by kernel_rfl) (by kernel_rfl) (by kernel_rfl) (by exact fun _ _ _ h => h) (Or.inl ⟨by rfl, ?_⟩) (by assumption) ?_
                          rotate_left
                          · intro w' hSw; obtain ⟨e0, e1, e2, e3, e4, e5, e6⟩ := hSw
                            go_simp; try with_reducible rfl
                          try simp only [Act.put, List.setIfInBounds_toArray, List.set_cons_zero, List.set_cons_succ]
                          refine wpAnyH_take (i := 26) (v := ?_) (by simp only [List.getElem?_toArray, List.getElem?_cons_succ, List.getElem?_cons_zero]; rfl) (by kernel_rfl) (by kernel_rfl) (by kernel_rfl) (by exact fun _ _ _ h => h) (Or.inl ⟨by rfl, ?_⟩) (by assumption) ?_
                          rotate_left
                          · intro w' hSw; obtain ⟨e0, e1, e2, e3, e4, e5, e6⟩ := hSw
                            go_simp; try with_reducible rfl
                          try simp only [Act.put, List.setIfInBounds_toArray, List.set_cons_zero, List.set_cons_succ]
                          refine wpAnyH_take (i := 27) (v := ?_) (by simp only [List.getElem?_toArray, List.getElem?_cons_succ, List.getElem?_cons_zero]; rfl) (by kernel_rfl) (by kernel_rfl) (by kernel_rfl) (by exact fun _ _ _ h => h) (Or.inl ⟨by rfl, ?_⟩) (by assumption) ?_
                          rotate_left
                          · intro w' hSw; obtain ⟨e0, e1, e2, e3, e4, e5, e6⟩ := hSw
                            go_simp; try with_reducible rfl
                          try simp only [Act.put, List.setIfInBounds_toArray, List.set_cons_zero, List.set_cons_succ]
                          refine wpAnyH_done (by kernel_rfl) ?_ _
                          go_wp2_with fail
                          go_ret
                          exact ⟨by rw [HF.out]; rfl, HB4.out.1⟩
                        · have HId := Lib.hid (HIdM2.out rfl)
                          go_upto_region 11 with fail
                          refine wp_region_held_drew (S := (fun w' => w'.cell? ⟨w.heap.size, 0, none⟩ = some (.slice c0 t.net.stops.length d0) ∧ w'.cell? ⟨w.heap.size, 1, none⟩ = some (.slice c1 t.net.lines.length d1) ∧ w'.cell? ⟨w.heap.size, 2, none⟩ = some (.slice c2 t.trips.length d2) ∧ w'.cell? ⟨w.heap.size + 1, 0, none⟩ = some (.slice fa f.dead.length fc) ∧ w'.cell? ⟨w.heap.size + 1, 1, none⟩ = some (.int .i64 f.turn) ∧ w'.cell? ⟨vb, vo + i, none⟩ = some (.slice (some ⟨rb, ro, none⟩) bs[i].length rc) ∧ w'.cell? ⟨rb, ro + m, none⟩ = some (.int .i64 idp))) (by kernel_rfl) ?_ (fun hHeld => ?_)
                          · exact ⟨p0, p1, p2, q0, q1, yI, zP⟩
                          refine wpAnyH_take (i := 0) (v := ?_) (by simp only [List.getElem?_toArray, List.getElem?_cons_zero]; rfl) (by kernel_rfl) (by kernel_rfl) (by kernel_rfl) (by exact fun _ _ _ h => h) (Or.inl ⟨by rfl, ?_⟩) (by assumption) ?_
                          rotate_left
                          · intro w' hSw; obtain ⟨e0, e1, e2, e3, e4, e5, e6⟩ := hSw
                            go_simp; try with_reducible rfl
                          try simp only [Act.put, List.setIfInBounds_toArray, List.set_cons_zero, List.set_cons_succ]
                          refine wpAnyH_take (i := 1) (v := ?_) (by simp only [List.getElem?_toArray, List.getElem?_cons_succ, List.getElem?_cons_zero]; rfl) (by kernel_rfl) (by kernel_rfl) (by kernel_rfl) (by exact fun _ _ _ h => h) (Or.inl ⟨by rfl, ?_⟩) (by assumption) ?_
                          rotate_left
                          · intro w' hSw; obtain ⟨e0, e1, e2, e3, e4, e5, e6⟩ := hSw
                            go_simp; try with_reducible rfl
                          try simp only [Act.put, List.setIfInBounds_toArray, List.set_cons_zero, List.set_cons_succ]
                          refine wpAnyH_take (i := 2) (v := ?_) (by simp only [List.getElem?_toArray, List.getElem?_cons_succ, List.getElem?_cons_zero]; rfl) (by kernel_rfl) (by kernel_rfl) (by kernel_rfl) (by exact fun _ _ _ h => h) (Or.inl ⟨by rfl, ?_⟩) (by assumption) ?_
                          rotate_left
                          · intro w' hSw; obtain ⟨e0, e1, e2, e3, e4, e5, e6⟩ := hSw
                            go_simp; try with_reducible rfl
                          try simp only [Act.put, List.setIfInBounds_toArray, List.set_cons_zero, List.set_cons_succ]
                          refine wpAnyH_take (i := 3) (v := ?_) (by simp only [List.getElem?_toArray, List.getElem?_cons_succ, List.getElem?_cons_zero]; rfl) (by kernel_rfl) (by kernel_rfl) (by kernel_rfl) (by exact fun _ _ _ h => h) (Or.inl ⟨by rfl, ?_⟩) (by assumption) ?_
                          rotate_left
                          · intro w' hSw; obtain ⟨e0, e1, e2, e3, e4, e5, e6⟩ := hSw
                            go_simp; try with_reducible rfl
                          try simp only [Act.put, List.setIfInBounds_toArray, List.set_cons_zero, List.set_cons_succ]
                          refine wpAnyH_take (i := 4) (v := ?_) (by simp only [List.getElem?_toArray, List.getElem?_cons_succ, List.getElem?_cons_zero]; rfl) (by kernel_rfl) (by kernel_rfl) (by kernel_rfl) (by exact fun _ _ _ h => h) (Or.inl ⟨by rfl, ?_⟩) (by assumption) ?_
                          rotate_left
                          · intro w' hSw; obtain ⟨e0, e1, e2, e3, e4, e5, e6⟩ := hSw
                            go_simp; try with_reducible rfl
                          try simp only [Act.put, List.setIfInBounds_toArray, List.set_cons_zero, List.set_cons_succ]
                          refine wpAnyH_ready (rs := [5]) (by kernel_rfl) (by simp) ?_
                          refine AllReadyH.cons (by simp only [List.getElem?_toArray, List.getElem?_cons_succ, List.getElem?_cons_zero]; rfl) (fun K hK => ?_) AllReadyH.nil
                          go_simp
                          go_at_call 102
                          refine (belQ (HH.out _ _ (rowAt_own (own_later HO1.out (Below.refl _ _).drew)))).mono ?_
                          rintro e w2 ⟨rfl, hb⟩
                          have rbw : Below w1.heap.size w1 w2 := (Below.refl _ _).drew.trans hb
                          have hS2 : w2.cell? ⟨w.heap.size, 0, none⟩ = some (.slice c0 t.net.stops.length d0) ∧ w2.cell? ⟨w.heap.size, 1, none⟩ = some (.slice c1 t.net.lines.length d1) ∧ w2.cell? ⟨w.heap.size, 2, none⟩ = some (.slice c2 t.trips.length d2) ∧ w2.cell? ⟨w.heap.size + 1, 0, none⟩ = some (.slice fa f.dead.length fc) ∧ w2.cell? ⟨w.heap.size + 1, 1, none⟩ = some (.int .i64 f.turn) ∧ w2.cell? ⟨vb, vo + i, none⟩ = some (.slice (some ⟨rb, ro, none⟩) bs[i].length rc) ∧ w2.cell? ⟨rb, ro + m, none⟩ = some (.int .i64 idp) := ⟨bkeep rbw p0, bkeep rbw p1, bkeep rbw p2, bkeep rbw q0, bkeep rbw q1, bkeep rbw yI, bkeep rbw zP⟩
                          have HB2 : Hid (Below w.heap.size w w2 ∧ w.heap.size + 2 ≤ w2.heap.size) := ⟨HB1.out.1.trans (rbw.mono HB1.out.1.size), Nat.le_trans HB1.out.2 rbw.size⟩
                          have HO2 := Lib.hid (own_later HO1.out rbw)
                          clear hb rbw
                          go_wp2_with fail
                          refine hK.out _ _ hS2 (fun hH5 => ?_)
                          obtain ⟨p0, p1, p2, q0, q1, yI, zP⟩ := hS2
                          clear hK K
                          try simp only [Act.put, List.setIfInBounds_toArray, List.set_cons_zero, List.set_cons_succ]
                          refine wpAnyH_take (i := 6) (v := ?_) (by simp only [List.getElem?_toArray, List.getElem?_cons_succ, List.getElem?_cons_zero]; rfl) (by kernel_rfl) (by kernel_rfl) (by kernel_rfl) (by exact fun _ _ _ h => h) (Or.inl ⟨by rfl, ?_⟩) (by assumption) ?_
                          rotate_left
                          · intro w' hSw; obtain ⟨e0, e1, e2, e3, e4, e5, e6⟩ := hSw
                            go_simp; try with_reducible rfl
                          try simp only [Act.put, List.setIfInBounds_toArray, List.set_cons_zero, List.set_cons_succ]
                          refine wpAnyH_take (i := 7) (v := ?_) (by simp only [List.getElem?_toArray, List.getElem?_cons_succ, List.getElem?_cons_zero]; rfl) (by kernel_rfl) (by kernel_rfl) (by kernel_rfl) (by exact fun _ _ _ h => h) (Or.inl ⟨by rfl, ?_⟩) (by assumption) ?_
                          rotate_left
                          · intro w' hSw; obtain ⟨e0, e1, e2, e3, e4, e5, e6⟩ := hSw
                            go_simp; try with_reducible rfl
                          try simp only [Act.put, List.setIfInBounds_toArray, List.set_cons_zero, List.set_cons_succ]
                          refine wpAnyH_take (i := 8) (v := ?_) (by simp only [List.getElem?_toArray, List.getElem?_cons_succ, List.getElem?_cons_zero]; rfl) (by kernel_rfl) (by kernel_rfl) (by kernel_rfl) (by exact fun _ _ _ h => h) (Or.inl ⟨by rfl, ?_⟩) (by assumption) ?_
                          rotate_left
                          · intro w' hSw; obtain ⟨e0, e1, e2, e3, e4, e5, e6⟩ := hSw
                            go_simp; try with_reducible rfl
                          try simp only [Act.put, List.setIfInBounds_toArray, List.set_cons_zero, List.set_cons_succ]
                          refine wpAnyH_take (i := 9) (v := ?_) (by simp only [List.getElem?_toArray, List.getElem?_cons_succ, List.getElem?_cons_zero]; rfl) (by kernel_rfl) (by kernel_rfl) (by kernel_rfl) (by exact fun _ _ _ h => h) (Or.inl ⟨by rfl, ?_⟩) (by assumption) ?_
                          rotate_left
                          · intro w' hSw; obtain ⟨e0, e1, e2, e3, e4, e5, e6⟩ := hSw
                            go_simp; try with_reducible rfl
                          try simp only [Act.put, List.setIfInBounds_toArray, List.set_cons_zero, List.set_cons_succ]
                          refine wpAnyH_take (i := 10) (v := ?_) (by simp only [List.getElem?_toArray, List.getElem?_cons_succ, List.getElem?_cons_zero]; rfl) (by kernel_rfl) (by kernel_rfl) (by kernel_rfl) (by exact fun _ _ _ h => h) (Or.inl ⟨by rfl, ?_⟩) (by assumption) ?_
                          rotate_left
                          · intro w' hSw; obtain ⟨e0, e1, e2, e3, e4, e5, e6⟩ := hSw
                            go_simp; try with_reducible rfl
                          try simp only [Act.put, List.setIfInBounds_toArray, List.set_cons_zero, List.set_cons_succ]
                          refine wpAnyH_take (i := 11) (v := ?_) (by simp only [List.getElem?_toArray, List.getElem?_cons_succ, List.getElem?_cons_zero]; rfl) (by kernel_rfl) (by kernel_rfl) (by kernel_rfl) (by exact fun _ _ _ h => h) (Or.inl ⟨by rfl, ?_⟩) (by assumption) ?_
                          rotate_left
                          · intro w' hSw; obtain ⟨e0, e1, e2, e3, e4, e5, e6⟩ := hSw
                            go_simp; try with_reducible rfl
                          try simp only [Act.put, List.setIfInBounds_toArray, List.set_cons_zero, List.set_cons_succ]
                          refine wpAnyH_take (i := 12) (v := ?_) (by simp only [List.getElem?_toArray, List.getElem?_cons_succ, List.getElem?_cons_zero]; rfl) (by kernel_rfl) (by kernel_rfl) (by kernel_rfl) (by exact fun _ _ _ h => h) (Or.inl ⟨by rfl, ?_⟩) (by assumption) ?_
                          rotate_left
                          · intro w' hSw; obtain ⟨e0, e1, e2, e3, e4, e5, e6⟩ := hSw
                            go_simp; try with_reducible rfl
                          try simp only [Act.put, List.setIfInBounds_toArray, List.set_cons_zero, List.set_cons_succ]
                          refine wpAnyH_take (i := 13) (v := ?_) (by simp only [List.getElem?_toArray, List.getElem?_cons_succ, List.getElem?_cons_zero]; rfl) (by kernel_rfl) (by kernel_rfl) (by kernel_rfl) (by exact fun _ _ _ h => h) (Or.inl ⟨by rfl, ?_⟩) (by assumption) ?_
                          rotate_left
                          · intro w' hSw; obtain ⟨e0, e1, e2, e3, e4, e5, e6⟩ := hSw
                            go_simp; try with_reducible rfl
                          try simp only [Act.put, List.setIfInBounds_toArray, List.set_cons_zero, List.set_cons_succ]
                          refine wpAnyH_take (i := 14) (v := ?_) (by simp only [List.getElem?_toArray, List.getElem?_cons_succ, List.getElem?_cons_zero]; rfl) (by kernel_rfl) (by kernel_rfl) (by kernel_rfl) (by exact fun _ _ _ h => h) (Or.inl ⟨by rfl, ?_⟩) (by assumption) ?_
                          rotate_left
                          · intro w' hSw; obtain ⟨e0, e1, e2, e3, e4, e5, e6⟩ := hSw
                            go_simp; try with_reducible rfl
                          try simp only [Act.put, List.setIfInBounds_toArray, List.set_cons_zero, List.set_cons_succ]
                          refine wpAnyH_take (i := 15) (v := ?_) (by simp only [List.getElem?_toArray, List.getElem?_cons_succ, List.getElem?_cons_zero]; rfl) (by kernel_rfl) (by kernel_rfl) (by kernel_rfl) (by exact fun _ _ _ h => h) (Or.inl ⟨by rfl, ?_⟩) (by assumption) ?_
                          rotate_left
                          · intro w' hSw; obtain ⟨e0, e1, e2, e3, e4, e5, e6⟩ := hSw
                            go_simp; try with_reducible rfl
                          try simp only [Act.put, List.setIfInBounds_toArray, List.set_cons_zero, List.set_cons_succ]
                          refine wpAnyH_take (i := 16) (v := ?_) (by simp only [List.getElem?_toArray, List.getElem?_cons_succ, List.getElem?_cons_zero]; rfl) (by kernel_rfl) (by kernel_rfl) (by kernel_rfl) (by exact fun _ _ _ h => h) (Or.inl ⟨by rfl, ?_⟩) (by assumption) ?_
                          rotate_left
                          · intro w' hSw; obtain ⟨e0, e1, e2, e3, e4, e5, e6⟩ := hSw
                            go_simp; try with_reducible rfl
                          try simp only [Act.put, List.setIfInBounds_toArray, List.set_cons_zero, List.set_cons_succ]
                          refine wpAnyH_take (i := 17) (v := ?_) (by simp only [List.getElem?_toArray, List.getElem?_cons_succ, List.getElem?_cons_zero]; rfl) (by kernel_rfl) (by kernel_rfl) (by kernel_rfl) (by exact fun _ _ _ h => h) (Or.inl ⟨by rfl, ?_⟩) (by assumption) ?_
                          rotate_left
                          · intro w' hSw; obtain ⟨e0, e1, e2, e3, e4, e5, e6⟩ := hSw
                            go_simp; try with_reducible rfl
                          try simp only [Act.put, List.setIfInBounds_toArray, List.set_cons_zero, List.set_cons_succ]
                          refine wpAnyH_take (i := 18) (v := ?_) (by simp only [List.getElem?_toArray, List.getElem?_cons_succ, List.getElem?_cons_zero]; rfl) (by kernel_rfl) (by kernel_rfl) (by kernel_rfl) (by exact fun _ _ _ h => h) (Or.inl ⟨by rfl, ?_⟩) (by assumption) ?_
                          rotate_left
                          · intro w' hSw; obtain ⟨e0, e1, e2, e3, e4, e5, e6⟩ := hSw
                            go_simp; try with_reducible rfl
                          try simp only [Act.put, List.setIfInBounds_toArray, List.set_cons_zero, List.set_cons_succ]
                          refine wpAnyH_take (i := 19) (v := ?_) (by simp only [List.getElem?_toArray, List.getElem?_cons_succ, List.getElem?_cons_zero]; rfl) (by kernel_rfl) (by kernel_rfl) (by kernel_rfl) (by exact fun _ _ _ h => h) (Or.inl ⟨by rfl, ?_⟩) (by assumption) ?_
                          rotate_left
                          · intro w' hSw; obtain ⟨e0, e1, e2, e3, e4, e5, e6⟩ := hSw
                            go_simp; try with_reducible rfl
                          try simp only [Act.put, List.setIfInBounds_toArray, List.set_cons_zero, List.set_cons_succ]
                          refine wpAnyH_take (i := 20) (v := ?_) (by simp only [List.getElem?_toArray, List.getElem?_cons_succ, List.getElem?_cons_zero]; rfl) (by kernel_rfl) (by kernel_rfl) (by kernel_rfl) (by exact fun _ _ _ h => h) (Or.inl ⟨by rfl, ?_⟩) (by assumption) ?_
                          rotate_left
                          · intro w' hSw; obtain ⟨e0, e1, e2, e3, e4, e5, e6⟩ := hSw
                            go_simp; try with_reducible rfl
                          try simp only [Act.put, List.setIfInBounds_toArray, List.set_cons_zero, List.set_cons_succ]
                          refine wpAnyH_take (i := 21) (v := ?_) (by simp only [List.getElem?_toArray, List.getElem?_cons_succ, List.getElem?_cons_zero]; rfl) (by kernel_rfl) (by kernel_rfl) (by kernel_rfl) (by exact fun _ _ _ h => h) (Or.inl ⟨by rfl, ?_⟩) (by assumption) ?_
                          rotate_left
                          · intro w' hSw; obtain ⟨e0, e1, e2, e3, e4, e5, e6⟩ := hSw
                            go_simp; try with_reducible rfl
                          try simp only [Act.put, List.setIfInBounds_toArray, List.set_cons_zero, List.set_cons_succ]
                          refine wpAnyH_take (i := 23) (v := ?_) (by simp only [List.getElem?_toArray, List.getElem?_cons_succ, List.getElem?_cons_zero]; rfl) (by kernel_rfl) (by kernel_rfl) (by kernel_rfl) (by exact fun _ _ _ h => h) (Or.inl ⟨by rfl, ?_⟩) (by assumption) ?_
                          rotate_left
                          · intro w' hSw; obtain ⟨e0, e1, e2, e3, e4, e5, e6⟩ := hSw
                            go_simp; try with_reducible rfl
                          try simp only [Act.put, List.setIfInBounds_toArray, List.set_cons_zero, List.set_cons_succ]
                          refine wpAnyH_ready (rs := [22]) (by kernel_rfl) (by simp) ?_
                          refine AllReadyH.cons (by simp only [List.getElem?_toArray, List.getElem?_cons_succ, List.getElem?_cons_zero]; rfl) (fun K hK => ?_) AllReadyH.nil
                          go_simp
                          go_at_call 57
                          refine (HF2.out _ HB2.out.1).mono ?_
                          rintro e w3 ⟨rfl, hb⟩
                          have rbw : Below w2.heap.size w2 w3 := hb
                          have hS2 : w3.cell? ⟨w.heap.size, 0, none⟩ = some (.slice c0 t.net.stops.length d0) ∧ w3.cell? ⟨w.heap.size, 1, none⟩ = some (.slice c1 t.net.lines.length d1) ∧ w3.cell? ⟨w.heap.size, 2, none⟩ = some (.slice c2 t.trips.length d2) ∧ w3.cell? ⟨w.heap.size + 1, 0, none⟩ = some (.slice fa f.dead.length fc) ∧ w3.cell? ⟨w.heap.size + 1, 1, none⟩ = some (.int .i64 f.turn) ∧ w3.cell? ⟨vb, vo + i, none⟩ = some (.slice (some ⟨rb, ro, none⟩) bs[i].length rc) ∧ w3.cell? ⟨rb, ro + m, none⟩ = some (.int .i64 idp) := ⟨bkeep rbw p0, bkeep rbw p1, bkeep rbw p2, bkeep rbw q0, bkeep rbw q1, bkeep rbw yI, bkeep rbw zP⟩
                          have HB3 : Hid (Below w.heap.size w w3 ∧ w.heap.size + 2 ≤ w3.heap.size) := ⟨HB2.out.1.trans (rbw.mono HB2.out.1.size), Nat.le_trans HB2.out.2 rbw.size⟩
                          have HO3 := Lib.hid (own_later HO2.out rbw)
                          clear hb rbw
                          go_wp2_with fail
                          refine hK.out _ _ hS2 (fun hH22 => ?_)
                          obtain ⟨p0, p1, p2, q0, q1, yI, zP⟩ := hS2
                          clear hK K
                          try simp only [Act.put, List.setIfInBounds_toArray, List.set_cons_zero, List.set_cons_succ]
                          refine wpAnyH_ready (rs := [24]) (by kernel_rfl) (by simp) ?_
                          refine AllReadyH.cons (by simp only [List.getElem?_toArray, List.getElem?_cons_succ, List.getElem?_cons_zero]; rfl) (fun K hK => ?_) AllReadyH.nil
                          go_simp
                          go_at_call 59
                          refine (HFo.out _ HB3.out.1).mono ?_
                          rintro e w4 ⟨rfl, hb⟩
                          have rbw : Below w3.heap.size w3 w4 := hb
                          have hS2 : w4.cell? ⟨w.heap.size, 0, none⟩ = some (.slice c0 t.net.stops.length d0) ∧ w4.cell? ⟨w.heap.size, 1, none⟩ = some (.slice c1 t.net.lines.length d1) ∧ w4.cell? ⟨w.heap.size, 2, none⟩ = some (.slice c2 t.trips.length d2) ∧ w4.cell? ⟨w.heap.size + 1, 0, none⟩ = some (.slice fa f.dead.length fc) ∧ w4.cell? ⟨w.heap.size + 1, 1, none⟩ = some (.int .i64 f.turn) ∧ w4.cell? ⟨vb, vo + i, none⟩ = some (.slice (some ⟨rb, ro, none⟩) bs[i].length rc) ∧ w4.cell? ⟨rb, ro + m, none⟩ = some (.int .i64 idp) := ⟨bkeep rbw p0, bkeep rbw p1, bkeep rbw p2, bkeep rbw q0, bkeep rbw q1, bkeep rbw yI, bkeep rbw zP⟩
                          have HB4 : Hid (Below w.heap.size w w4 ∧ w.heap.size + 2 ≤ w4.heap.size) := ⟨HB3.out.1.trans (rbw.mono HB3.out.1.size), Nat.le_trans HB3.out.2 rbw.size⟩
                          have HO4 := Lib.hid (own_later HO3.out rbw)
                          clear hb rbw
                          go_wp2_with fail
                          refine hK.out _ _ hS2 (fun hH24 => ?_)
                          obtain ⟨p0, p1, p2, q0, q1, yI, zP⟩ := hS2
                          clear hK K
                          try simp only [Act.put, List.setIfInBounds_toArray, List.set_cons_zero, List.set_cons_succ]
                          refine wpAnyH_take (i := 25) (v := ?_) (by simp only [List.getElem?_toArray, List.getElem?_cons_succ, List.getElem?_cons_zero]; rfl) (by kernel_rfl) (by kernel_rfl) (by kernel_rfl) (by exact fun _ _ _ h => h) (Or.inl ⟨by rfl, ?_⟩) (by assumption) ?_
                          rotate_left
                          · intro w' hSw; obtain ⟨e0, e1, e2, e3, e4, e5, e6⟩ := hSw
                            go_simp; try with_reducible rfl
                          try simp only [Act.put, List.setIfInBounds_toArray, List.set_cons_zero, List.set_cons_succ]
                          refine wpAnyH_take (i := 26) (v := ?_) (by simp only [List.getElem?_toArray, List.getElem?_cons_succ, List.getElem?_cons_zero]; rfl) (by kernel_rfl) (by kernel_rfl) (by kernel_rfl) (by exact fun _ _ _ h => h) (Or.inl ⟨by rfl, ?_⟩) (by assumption) ?_
                          rotate_left
                          · intro w' hSw; obtain ⟨e0, e1, e2, e3, e4, e5, e6⟩ := hSw
                            go_simp; try with_reducible rfl
                          try simp only [Act.put, List.setIfInBounds_toArray, List.set_cons_zero, List.set_cons_succ]
                          refine wpAnyH_take (i := 27) (v := ?_) (by simp only [List.getElem?_toArray, List.getElem?_cons_succ, List.getElem?_cons_zero]; rfl) (by kernel_rfl) (by kernel_rfl) (by kernel_rfl) (by exact fun _ _ _ h => h) (Or.inl ⟨by rfl, ?_⟩) (by assumption) ?_
                          rotate_left
                          · intro w' hSw; obtain ⟨e0, e1, e2, e3, e4, e5, e6⟩ := hSw
                            go_simp; try with_reducible rfl
                          try simp only [Act.put, List.setIfInBounds_toArray, List.set_cons_zero, List.set_cons_succ]
                          refine wpAnyH_done (by kernel_rfl) ?_ _
                          clear HFd HF1
                          try clear hk0i hk0n hk0d
                          have hzn := HB4.out.2
                          go_wp2_with (at_builtin; refine wpList_append_own _ rfl _ _ 80 rfl (w.heap.size + 2) 3 i0 (.int .i64 0) 1 8 Try.underlying80 hi0 iz0 iz1 iz2 rfl (by decide) _ _ _ rfl (HO4.out.alloc _) ⟨w4.heap.size, 0, none⟩ 1 1 [.int .i64 ((p : Nat) : Int)] rfl rfl ?c1 ?c2 ?c3 ?c4 ?c5 ?_)
                          case c1 => exact one_new _ _
                          case c2 => intro u hu; simp at hu; subst hu; rfl
                          case c3 => unfold maxLen; omega
                          case c4 => omega
                          case c5 => simp; omega
                          intro v' w5 hown' hgrow _
                          have hown0 := HO4.out
                          have HB5 : Hid (Below w.heap.size w w5 ∧ w.heap.size + 2 ≤ w5.heap.size) := ⟨(HB4.out.1.alloc (by omega) _).grown hgrow (by simp; omega) (fun g hg => by have := (hown0.lt g hg).1; omega), by have := hgrow.size; simp at this; omega⟩
                          have hb6 : Below (w.heap.size + 2) (w4.alloc (.cells #[.int .i64 ((p : Nat) : Int)] 3)) w5 := (Below.refl _ _).grown hgrow (by simp; omega) (fun g hg => (hown0.lt g hg).1)
                          have p0 : w5.cell? ⟨w.heap.size, 0, none⟩ = some (.slice c0 t.net.stops.length d0) := by rw [hb6.cell (p := ⟨w.heap.size, 0, none⟩) (by dsimp only; omega)]; exact acell p0 _
                          have p1 : w5.cell? ⟨w.heap.size, 1, none⟩ = some (.slice c1 t.net.lines.length d1) := by rw [hb6.cell (p := ⟨w.heap.size, 1, none⟩) (by dsimp only; omega)]; exact acell p1 _
                          have p2 : w5.cell? ⟨w.heap.size, 2, none⟩ = some (.slice c2 t.trips.length d2) := by rw [hb6.cell (p := ⟨w.heap.size, 2, none⟩) (by dsimp only; omega)]; exact acell p2 _
                          have q0 : w5.cell? ⟨w.heap.size + 1, 0, none⟩ = some (.slice fa f.dead.length fc) := by rw [hb6.cell (p := ⟨w.heap.size + 1, 0, none⟩) (by dsimp only; omega)]; exact acell q0 _
                          have q1 : w5.cell? ⟨w.heap.size + 1, 1, none⟩ = some (.int .i64 f.turn) := by rw [hb6.cell (p := ⟨w.heap.size + 1, 1, none⟩) (by dsimp only; omega)]; exact acell q1 _
                          have HOn : Hid (w5.ownsRow (w.heap.size + 2) 3 1 v' (seenT t bs i ((m + 1) + 1)).length (sI (seenT t bs i ((m + 1) + 1)))) := by
                            show World.ownsRow _ _ _ _ _ _ _
                            rw [HRw.out, sI_snoc, List.length_append]
                            exact hown'
                          have HTb2 := Lib.hid (blkTo_succ hkl HTb.out HId.out)
                          clear hown' hgrow hown0 hb6
                          obtain ⟨a6, c6, rfl⟩ := own_shape HOn.out
                          go_wp2_with fail
                          go_roundw
                          case rel => exact ⟨(m + 1) + 1, by omega, by go_num, HTb2, HN3, HOn, p0, p1, p2, q0, q1, HB5⟩
                          case measure => simp [RowKit.intOf]; omega
                · have hkE : k = bs[i].length := by omega
                  subst hkE
                  have HTo2 := Lib.hid (blksTo_succ hlt HTo.out ⟨⟨fun e => by rw [e] at hpos; simp at hpos, HTb.out⟩, HHd.out⟩)
                  have hNx := HNk.out
                  have hOx := HOk.out
                  rw [seen_next hlt] at hNx hOx
                  have HNx := Lib.hid hNx
                  have HOx := Lib.hid hOx
                  have hsl : (seenT t bs i bs[i].length).length = (seenT t bs (i + 1) 0).length := by rw [seen_next hlt]
                  rw [hsl]
                  obtain ⟨yI, -⟩ := HY.out _ HB.out.1
                  clear HNk HOk hNx hOx hsl
                  go_wp2_with fail
                  refine ⟨⟨i + 1, by omega, by go_num, HTo2, HNx, HOx, p0, p1, p2, q0, q1, HB⟩, ?_⟩
                  simp [RowKit.intOf]; omega
          · have hj2 : j < bs.length := by omega
            have hpj : 0 < (bs[j]'hj2).length := List.length_pos_iff.2 (HTo.out j hj2 (by omega)).1.1
            obtain ⟨pb, po, pc, hyj⟩ := (HC.out j hj2).2 hpj
            obtain ⟨yj, hzj⟩ := hyj _ HB.out.1
            have zj := hzj 0 hpj
            simp only [Nat.add_zero] at zj
            rw [← hd_at hpj] at zj
            have hwj : IntKind.i64.wrap (j : Int) = (j : Int) := IntWalk.i64_in _ (by omega)
            have hji : (i : Int) - 1 = (j : Int) := by omega
            have hj1 : (j : Int) < (bs.length : Int) := by omega
            have hjp : (0 : Int) < (i : Int) := by omega
            have hjn : 0 < i := by omega
            have hpj1 : (0 : Int) < ((bs[j]'hj2).length : Int) := by omega
            have hlt2 : hd (bs[j]'hj2) < hd bs[i] := hhd j hj.symm
            clear hyj hzj hgo hj hhd hnI
            generalize hd bs[i] = hA at z0 hlt2
            generalize hd (bs[j]'hj2) = hB at zj hlt2
            go_region
            all_goals
              have HBd : Hid (Below w.heap.size w wr ∧ w.heap.size + 2 ≤ wr.heap.size) := HB
              clear z0 y
              go_wp2_with fail
              try clear hiz hizn hizd
              go_loopw [7, 9] (fun sv q wr2 => ∃ k : Nat, k ≤ bs[i].length ∧ q = .int .i64 k ∧ Hid (BlkTo t f bs[i] k) ∧ Hid ((seenT t bs i k).Nodup) ∧ Hid (wr2.ownsRow (w.heap.size + 2) 3 1 sv (seenT t bs i k).length (sI (seenT t bs i k))) ∧
                  wr2.cell? ⟨w.heap.size, 0, none⟩ = some (.slice c0 t.net.stops.length d0) ∧ wr2.cell? ⟨w.heap.size, 1, none⟩ = some (.slice c1 t.net.lines.length d1) ∧ wr2.cell? ⟨w.heap.size, 2, none⟩ = some (.slice c2 t.trips.length d2) ∧ wr2.cell? ⟨w.heap.size + 1, 0, none⟩ = some (.slice fa f.dead.length fc) ∧ wr2.cell? ⟨w.heap.size + 1, 1, none⟩ = some (.int .i64 f.turn) ∧ Hid (Below w.heap.size w wr2 ∧ w.heap.size + 2 ≤ wr2.heap.size))
                (fun _ q _ => bs[i].length - (RowKit.intOf q).toNat)
              case atStart => exact ⟨0, Nat.zero_le _, rfl, (fun j hj h => by omega), HNd.out, own_later HOw.out (Below.refl _ _).drew, p0, p1, p2, q0, q1, HB.out.1.drew, HB.out.2⟩
              case round =>
                clear p0 p1 p2 q0 q1 HB HBd HNd HOw
                obtain ⟨k, hk, rfl, HTb, HNk, HOk, p0, p1, p2, q0, q1, HB⟩ := hrel
                obtain ⟨sa, sc, rfl⟩ := own_shape HOk.out
                by_cases hkl : k < bs[i].length
                · obtain ⟨yI, hzI⟩ := HY.out _ HB.out.1
                  have zK := hzI k hkl
                  have hk1 : (k : Int) < (bs[i].length : Int) := by omega
                  have HNoI : Hid (¬ IdOk t f bs[i] k hkl → blksB t f bs = false) := fun h => blksB_no (fun g => h ((g.1 i hlt hlt).1.2 k hkl hkl))
                  have HIdM : Hid (foundT t bs[i][k] = true → (∀ j (hj : j + 1 = k), follF t.net f (tripOf t (bs[i][j]'(by omega))) (tripOf t bs[i][k]) = true) → IdOk t f bs[i] k hkl) := fun h1 h2 => ⟨h1, h2⟩
                  have HRw := Lib.hid (seen_row (t := t) hlt hkl)
                  have HNo2 : Hid (pl t bs[i][k] ∈ seenT t bs i k → blksB t f bs = false) := fun hm => blksB_no (fun g => by
                    have h1 := seen_nodup (t := t) (bs := bs) (i := i) (k := k + 1) hlt g.2.1
                    rw [seen_row hlt hkl] at h1
                    exact (List.nodup_append.1 h1).2.2 _ hm _ (by simp) rfl)
                  have HNd2 : Hid (pl t bs[i][k] ∉ seenT t bs i k → (seenT t bs i (k + 1)).Nodup) := fun hm => by
                    rw [seen_row hlt hkl]
                    exact List.nodup_append.2 ⟨HNk.out, by simp, fun a ha b hb e => by simp at hb; subst hb; subst e; exact hm ha⟩
                  have HFt : Hid (foundT t bs[i][k] = true → findI bs[i][k] t.trips = (pl t bs[i][k] : Nat) ∧ pl t bs[i][k] < t.trips.length) := fun h => findI_yes HG.out.1 h
                  have HFf : Hid (foundT t bs[i][k] = false → findI bs[i][k] t.trips = -1) := fun h => findI_no HG.out.1 h
                  have HF1 := Lib.hid (fun W (h : Below w.heap.size w W) => HFd.out W h bs[i][k])
                  have HTr : Hid (∀ (h : foundT t bs[i][k] = true) (hl : pl t bs[i][k] < t.trips.length), t.trips[pl t bs[i][k]] = tripOf t bs[i][k]) := fun h _ => (tripOf_at h).symm
                  have HPrev : Hid (∀ m (hm : m + 1 = k), ∃ idp pp, (∃ hl : pp < t.trips.length, t.trips[pp] = tripOf t idp) ∧ (bs[i][m]'(by omega)) = idp ∧ pp ∈ seenT t bs i k ∧ findI idp t.trips = (pp : Nat)) := fun m hm => by
                    have hfd := (HTb.out m (by omega) (by omega)).1
                    have h2 := findI_yes HG.out.1 hfd
                    refine ⟨_, pl t (bs[i][m]'(by omega)), ⟨h2.2, (tripOf_at hfd).symm⟩, rfl, ?_, h2.1⟩
                    subst hm
                    rw [seen_row hlt (by omega)]
                    simp
                  have HZm : Hid (∀ W, Below w.heap.size w W → ∀ m (hm : m < bs[i].length), W.cell? ⟨rb, ro + m, none⟩ = some (.int .i64 (bs[i][m]'hm))) := fun W hW m hm => (HY.out W hW).2 m hm
                  have hsc := seen_cnt hlt HTo.out HTb.out hk HNk.out
                  have HO : Hid (wr.ownsRow (w.heap.size + 2) 3 1 (.slice sa (seenT t bs i k).length sc) (seenT t bs i k).length (sI (seenT t bs i k))) := HOk
                  have HOr := HO
                  clear hzI HNk HOk
                  generalize hid : bs[i][k] = id at *
                  have HIdE := Lib.hid hid
                  clear hid
                  generalize hfe : findI id t.trips = fi at HFt HFf HF1
                  clear hfe
                  generalize hpp : pl t id = p at *
                  clear hpp
                  go_upto_region 10 with fail
                  refine wp_region_held_drew (S := (fun w' => w'.cell? ⟨w.heap.size, 0, none⟩ = some (.slice c0 t.net.stops.length d0) ∧ w'.cell? ⟨w.heap.size, 1, none⟩ = some (.slice c1 t.net.lines.length d1) ∧ w'.cell? ⟨w.heap.size, 2, none⟩ = some (.slice c2 t.trips.length d2) ∧ w'.cell? ⟨w.heap.size + 1, 0, none⟩ = some (.slice fa f.dead.length fc) ∧ w'.cell? ⟨w.heap.size + 1, 1, none⟩ = some (.int .i64 f.turn) ∧ w'.cell? ⟨vb, vo + i, none⟩ = some (.slice (some ⟨rb, ro, none⟩) bs[i].length rc) ∧ w'.cell? ⟨rb, ro + k, none⟩ = some (.int .i64 id))) (by kernel_rfl) ?_ (fun hHeld => ?_)
                  · exact ⟨p0, p1, p2, q0, q1, yI, zK⟩
                  refine wpAnyH_take (i := 0) (v := ?_) (by simp only [List.getElem?_toArray, List.getElem?_cons_zero]; rfl) (by kernel_rfl) (by kernel_rfl) (by kernel_rfl) (by exact fun _ _ _ h => h) (Or.inl ⟨by rfl, ?_⟩) (by assumption) ?_
                  rotate_left
                  · intro w' hSw; obtain ⟨e0, e1, e2, e3, e4, e5, e6⟩ := hSw
                    go_simp; try with_reducible rfl
                  try simp only [Act.put, List.setIfInBounds_toArray, List.set_cons_zero, List.set_cons_succ]
                  refine wpAnyH_take (i := 1) (v := ?_) (by simp only [List.getElem?_toArray, List.getElem?_cons_succ, List.getElem?_cons_zero]; rfl) (by kernel_rfl) (by kernel_rfl) (by kernel_rfl) (by exact fun _ _ _ h => h) (Or.inl ⟨by rfl, ?_⟩) (by assumption) ?_
                  rotate_left
                  · intro w' hSw; obtain ⟨e0, e1, e2, e3, e4, e5, e6⟩ := hSw
                    go_simp; try with_reducible rfl
                  try simp only [Act.put, List.setIfInBounds_toArray, List.set_cons_zero, List.set_cons_succ]
                  refine wpAnyH_take (i := 2) (v := ?_) (by simp only [List.getElem?_toArray, List.getElem?_cons_succ, List.getElem?_cons_zero]; rfl) (by kernel_rfl) (by kernel_rfl) (by kernel_rfl) (by exact fun _ _ _ h => h) (Or.inl ⟨by rfl, ?_⟩) (by assumption) ?_
                  rotate_left
                  · intro w' hSw; obtain ⟨e0, e1, e2, e3, e4, e5, e6⟩ := hSw
                    go_simp; try with_reducible rfl
                  try simp only [Act.put, List.setIfInBounds_toArray, List.set_cons_zero, List.set_cons_succ]
                  refine wpAnyH_take (i := 3) (v := ?_) (by simp only [List.getElem?_toArray, List.getElem?_cons_succ, List.getElem?_cons_zero]; rfl) (by kernel_rfl) (by kernel_rfl) (by kernel_rfl) (by exact fun _ _ _ h => h) (Or.inl ⟨by rfl, ?_⟩) (by assumption) ?_
                  rotate_left
                  · intro w' hSw; obtain ⟨e0, e1, e2, e3, e4, e5, e6⟩ := hSw
                    go_simp; try with_reducible rfl
                  try simp only [Act.put, List.setIfInBounds_toArray, List.set_cons_zero, List.set_cons_succ]
                  refine wpAnyH_take (i := 4) (v := ?_) (by simp only [List.getElem?_toArray, List.getElem?_cons_succ, List.getElem?_cons_zero]; rfl) (by kernel_rfl) (by kernel_rfl) (by kernel_rfl) (by exact fun _ _ _ h => h) (Or.inl ⟨by rfl, ?_⟩) (by assumption) ?_
                  rotate_left
                  · intro w' hSw; obtain ⟨e0, e1, e2, e3, e4, e5, e6⟩ := hSw
                    go_simp; try with_reducible rfl
                  try simp only [Act.put, List.setIfInBounds_toArray, List.set_cons_zero, List.set_cons_succ]
                  refine wpAnyH_take (i := 5) (v := ?_) (by simp only [List.getElem?_toArray, List.getElem?_cons_succ, List.getElem?_cons_zero]; rfl) (by kernel_rfl) (by kernel_rfl) (by kernel_rfl) (by exact fun _ _ _ h => h) (Or.inl ⟨by rfl, ?_⟩) (by assumption) ?_
                  rotate_left
                  · intro w' hSw; obtain ⟨e0, e1, e2, e3, e4, e5, e6⟩ := hSw
                    go_simp; try with_reducible rfl
                  try simp only [Act.put, List.setIfInBounds_toArray, List.set_cons_zero, List.set_cons_succ]
                  refine wpAnyH_take (i := 6) (v := ?_) (by simp only [List.getElem?_toArray, List.getElem?_cons_succ, List.getElem?_cons_zero]; rfl) (by kernel_rfl) (by kernel_rfl) (by kernel_rfl) (by exact fun _ _ _ h => h) (Or.inl ⟨by rfl, ?_⟩) (by assumption) ?_
                  rotate_left
                  · intro w' hSw; obtain ⟨e0, e1, e2, e3, e4, e5, e6⟩ := hSw
                    go_simp; try with_reducible rfl
                  try simp only [Act.put, List.setIfInBounds_toArray, List.set_cons_zero, List.set_cons_succ]
                  refine wpAnyH_take (i := 7) (v := ?_) (by simp only [List.getElem?_toArray, List.getElem?_cons_succ, List.getElem?_cons_zero]; rfl) (by kernel_rfl) (by kernel_rfl) (by kernel_rfl) (by exact fun _ _ _ h => h) (Or.inl ⟨by rfl, ?_⟩) (by assumption) ?_
                  rotate_left
                  · intro w' hSw; obtain ⟨e0, e1, e2, e3, e4, e5, e6⟩ := hSw
                    go_simp; try with_reducible rfl
                  try simp only [Act.put, List.setIfInBounds_toArray, List.set_cons_zero, List.set_cons_succ]
                  refine wpAnyH_ready (rs := [8]) (by kernel_rfl) (by simp) ?_
                  refine AllReadyH.cons (by simp only [List.getElem?_toArray, List.getElem?_cons_succ, List.getElem?_cons_zero]; rfl) (fun K hK => ?_) AllReadyH.nil
                  go_simp
                  go_at_call 57
                  refine (HF1.out _ HB.out.1.drew).mono ?_
                  rintro e w1 ⟨rfl, hb⟩
                  have rbw : Below wr.heap.size wr w1 := (Below.refl _ _).drew.trans hb
                  have hS2 : w1.cell? ⟨w.heap.size, 0, none⟩ = some (.slice c0 t.net.stops.length d0) ∧ w1.cell? ⟨w.heap.size, 1, none⟩ = some (.slice c1 t.net.lines.length d1) ∧ w1.cell? ⟨w.heap.size, 2, none⟩ = some (.slice c2 t.trips.length d2) ∧ w1.cell? ⟨w.heap.size + 1, 0, none⟩ = some (.slice fa f.dead.length fc) ∧ w1.cell? ⟨w.heap.size + 1, 1, none⟩ = some (.int .i64 f.turn) ∧ w1.cell? ⟨vb, vo + i, none⟩ = some (.slice (some ⟨rb, ro, none⟩) bs[i].length rc) ∧ w1.cell? ⟨rb, ro + k, none⟩ = some (.int .i64 id) := ⟨bkeep rbw p0, bkeep rbw p1, bkeep rbw p2, bkeep rbw q0, bkeep rbw q1, bkeep rbw yI, bkeep rbw zK⟩
                  have HB1 : Hid (Below w.heap.size w w1 ∧ w.heap.size + 2 ≤ w1.heap.size) := ⟨HB.out.1.trans (rbw.mono HB.out.1.size), Nat.le_trans HB.out.2 rbw.size⟩
                  have HO1 := Lib.hid (own_later HO.out rbw)
                  clear hb rbw
                  go_wp2_with fail
                  refine hK.out _ _ hS2 (fun hH8 => ?_)
                  obtain ⟨p0, p1, p2, q0, q1, yI, zK⟩ := hS2
                  clear hK K
                  try simp only [Act.put, List.setIfInBounds_toArray, List.set_cons_zero, List.set_cons_succ]
                  refine wpAnyH_take (i := 9) (v := ?_) (by simp only [List.getElem?_toArray, List.getElem?_cons_succ, List.getElem?_cons_zero]; rfl) (by kernel_rfl) (by kernel_rfl) (by kernel_rfl) (by exact fun _ _ _ h => h) (Or.inl ⟨by rfl, ?_⟩) (by assumption) ?_
                  rotate_left
                  · intro w' hSw; obtain ⟨e0, e1, e2, e3, e4, e5, e6⟩ := hSw
                    go_simp; try with_reducible rfl
                  try simp only [Act.put, List.setIfInBounds_toArray, List.set_cons_zero, List.set_cons_succ]
                  refine wpAnyH_done (by kernel_rfl) ?_ _
                  clear zK
                  cases hfd : foundT t id
                  · obtain rfl : fi = -1 := HFf.out hfd
                    have HF : Hid (blksB t f bs = false) := HNoI.out (fun h => by have := h.1; rw [HIdE.out, hfd] at this; cases this)
                    go_upto_region 11 with fail
                    go_region
                    all_goals
                      go_wp2_with fail
                      go_ret
                      exact ⟨by rw [HF.out]; rfl, HB1.out.1.drew⟩
                  · obtain ⟨rfl, hpl⟩ := HFt.out hfd
                    have hpn : ¬ ((p : Nat) : Int) < 0 := by omega
                    by_cases hm : p ∈ seenT t bs i k
                    · have HF := Lib.hid (HNo2.out hm)
                      have HH : Hid (∀ W v, RowAt W v (sI (seenT t bs i k)) → Calls Try.prog 102 #[v, .int .i64 ((p : Nat) : Int)] W fun e w' => e = .returned (.bool true) ∧ W = w') := fun W v h => by
                        have h1 := l1Has_any v _ ((p : Nat) : Int) W h
                        rwa [inB_yes (List.mem_map.2 ⟨p, hm, rfl⟩)] at h1
                      clear hm HNo2 HNd2
                      go_upto_region 11 with fail
                      refine wp_region_held_drew (S := (fun w' => w'.cell? ⟨w.heap.size, 0, none⟩ = some (.slice c0 t.net.stops.length d0) ∧ w'.cell? ⟨w.heap.size, 1, none⟩ = some (.slice c1 t.net.lines.length d1) ∧ w'.cell? ⟨w.heap.size, 2, none⟩ = some (.slice c2 t.trips.length d2) ∧ w'.cell? ⟨w.heap.size + 1, 0, none⟩ = some (.slice fa f.dead.length fc) ∧ w'.cell? ⟨w.heap.size + 1, 1, none⟩ = some (.int .i64 f.turn))) (by kernel_rfl) ?_ (fun hHeld => ?_)
                      · exact ⟨p0, p1, p2, q0, q1⟩
                      refine wpAnyH_take (i := 0) (v := ?_) (by simp only [List.getElem?_toArray, List.getElem?_cons_zero]; rfl) (by kernel_rfl) (by kernel_rfl) (by kernel_rfl) (by exact fun _ _ _ h => h) (Or.inl ⟨by rfl, ?_⟩) (by assumption) ?_
                      rotate_left
                      · intro w' hSw; obtain ⟨e0, e1, e2, e3, e4⟩ := hSw
                        go_simp; try with_reducible rfl
                      try simp only [Act.put, List.setIfInBounds_toArray, List.set_cons_zero, List.set_cons_succ]
                      refine wpAnyH_take (i := 1) (v := ?_) (by simp only [List.getElem?_toArray, List.getElem?_cons_succ, List.getElem?_cons_zero]; rfl) (by kernel_rfl) (by kernel_rfl) (by kernel_rfl) (by exact fun _ _ _ h => h) (Or.inl ⟨by rfl, ?_⟩) (by assumption) ?_
                      rotate_left
                      · intro w' hSw; obtain ⟨e0, e1, e2, e3, e4⟩ := hSw
                        go_simp; try with_reducible rfl
                      try simp only [Act.put, List.setIfInBounds_toArray, List.set_cons_zero, List.set_cons_succ]
                      refine wpAnyH_take (i := 2) (v := ?_) (by simp only [List.getElem?_toArray, List.getElem?_cons_succ, List.getElem?_cons_zero]; rfl) (by kernel_rfl) (by kernel_rfl) (by kernel_rfl) (by exact fun _ _ _ h => h) (Or.inl ⟨by rfl, ?_⟩) (by assumption) ?_
                      rotate_left
                      · intro w' hSw; obtain ⟨e0, e1, e2, e3, e4⟩ := hSw
                        go_simp; try with_reducible rfl
                      try simp only [Act.put, List.setIfInBounds_toArray, List.set_cons_zero, List.set_cons_succ]
                      refine wpAnyH_take (i := 3) (v := ?_) (by simp only [List.getElem?_toArray, List.getElem?_cons_succ, List.getElem?_cons_zero]; rfl) (by kernel_rfl) (by kernel_rfl) (by kernel_rfl) (by exact fun _ _ _ h => h) (Or.inl ⟨by rfl, ?_⟩) (by assumption) ?_
                      rotate_left
                      · intro w' hSw; obtain ⟨e0, e1, e2, e3, e4⟩ := hSw
                        go_simp; try with_reducible rfl
                      try simp only [Act.put, List.setIfInBounds_toArray, List.set_cons_zero, List.set_cons_succ]
                      refine wpAnyH_take (i := 4) (v := ?_) (by simp only [List.getElem?_toArray, List.getElem?_cons_succ, List.getElem?_cons_zero]; rfl) (by kernel_rfl) (by kernel_rfl) (by kernel_rfl) (by exact fun _ _ _ h => h) (Or.inl ⟨by rfl, ?_⟩) (by assumption) ?_
                      rotate_left
                      · intro w' hSw; obtain ⟨e0, e1, e2, e3, e4⟩ := hSw
                        go_simp; try with_reducible rfl
                      try simp only [Act.put, List.setIfInBounds_toArray, List.set_cons_zero, List.set_cons_succ]
                      refine wpAnyH_ready (rs := [5]) (by kernel_rfl) (by simp) ?_
                      refine AllReadyH.cons (by simp only [List.getElem?_toArray, List.getElem?_cons_succ, List.getElem?_cons_zero]; rfl) (fun K hK => ?_) AllReadyH.nil
                      go_simp
                      go_at_call 102
                      refine (belQ (HH.out _ _ (rowAt_own (own_later HO1.out (Below.refl _ _).drew)))).mono ?_
                      rintro e w2 ⟨rfl, hb⟩
                      have rbw : Below w1.heap.size w1 w2 := (Below.refl _ _).drew.trans hb
                      have hS2 : w2.cell? ⟨w.heap.size, 0, none⟩ = some (.slice c0 t.net.stops.length d0) ∧ w2.cell? ⟨w.heap.size, 1, none⟩ = some (.slice c1 t.net.lines.length d1) ∧ w2.cell? ⟨w.heap.size, 2, none⟩ = some (.slice c2 t.trips.length d2) ∧ w2.cell? ⟨w.heap.size + 1, 0, none⟩ = some (.slice fa f.dead.length fc) ∧ w2.cell? ⟨w.heap.size + 1, 1, none⟩ = some (.int .i64 f.turn) := ⟨bkeep rbw p0, bkeep rbw p1, bkeep rbw p2, bkeep rbw q0, bkeep rbw q1⟩
                      have HB2 : Hid (Below w.heap.size w w2 ∧ w.heap.size + 2 ≤ w2.heap.size) := ⟨HB1.out.1.trans (rbw.mono HB1.out.1.size), Nat.le_trans HB1.out.2 rbw.size⟩
                      have HO2 := Lib.hid (own_later HO1.out rbw)
                      clear hb rbw
                      go_wp2_with fail
                      refine hK.out _ _ hS2 (fun hH5 => ?_)
                      obtain ⟨p0, p1, p2, q0, q1⟩ := hS2
                      clear hK K
                      try simp only [Act.put, List.setIfInBounds_toArray, List.set_cons_zero, List.set_cons_succ]
                      refine wpAnyH_take (i := 6) (v := ?_) (by simp only [List.getElem?_toArray, List.getElem?_cons_succ, List.getElem?_cons_zero]; rfl) (by kernel_rfl) (by kernel_rfl) (by kernel_rfl) (by exact fun _ _ _ h => h) (Or.inl ⟨by rfl, ?_⟩) (by assumption) ?_
                      rotate_left
                      · intro w' hSw; obtain ⟨e0, e1, e2, e3, e4⟩ := hSw
                        go_simp; try with_reducible rfl
                      try simp only [Act.put, List.setIfInBounds_toArray, List.set_cons_zero, List.set_cons_succ]
                      refine wpAnyH_take (i := 7) (v := ?_) (by simp only [List.getElem?_toArray, List.getElem?_cons_succ, List.getElem?_cons_zero]; rfl) (by kernel_rfl) (by kernel_rfl) (by kernel_rfl) (by exact fun _ _ _ h => h) (Or.inl ⟨by rfl, ?_⟩) (by assumption) ?_
                      rotate_left
                      · intro w' hSw; obtain ⟨e0, e1, e2, e3, e4⟩ := hSw
                        go_simp; try with_reducible rfl
                      try simp only [Act.put, List.setIfInBounds_toArray, List.set_cons_zero, List.set_cons_succ]
                      refine wpAnyH_take (i := 8) (v := undef) (by simp only [List.getElem?_toArray, List.getElem?_cons_succ, List.getElem?_cons_zero]; rfl) (by kernel_rfl) (by kernel_rfl) (by kernel_rfl) (by exact fun _ _ _ h => h) (Or.inr ⟨by rfl, rfl⟩) (by assumption) ?_
                      try simp only [Act.put, List.setIfInBounds_toArray, List.set_cons_zero, List.set_cons_succ]
                      refine wpAnyH_take (i := 9) (v := undef) (by simp only [List.getElem?_toArray, List.getElem?_cons_succ, List.getElem?_cons_zero]; rfl) (by kernel_rfl) (by kernel_rfl) (by kernel_rfl) (by exact fun _ _ _ h => h) (Or.inr ⟨by rfl, rfl⟩) (by assumption) ?_
                      try simp only [Act.put, List.setIfInBounds_toArray, List.set_cons_zero, List.set_cons_succ]
                      refine wpAnyH_take (i := 10) (v := undef) (by simp only [List.getElem?_toArray, List.getElem?_cons_succ, List.getElem?_cons_zero]; rfl) (by kernel_rfl) (by kernel_rfl) (by kernel_rfl) (by exact fun _ _ _ h => h) (Or.inr ⟨by rfl, rfl⟩) (by assumption) ?_
                      try simp only [Act.put, List.setIfInBounds_toArray, List.set_cons_zero, List.set_cons_succ]
                      refine wpAnyH_take (i := 11) (v := undef) (by simp only [List.getElem?_toArray, List.getElem?_cons_succ, List.getElem?_cons_zero]; rfl) (by kernel_rfl) (by kernel_rfl) (by kernel_rfl) (by exact fun _ _ _ h => h) (Or.inr ⟨by rfl, rfl⟩) (by assumption) ?_
                      try simp only [Act.put, List.setIfInBounds_toArray, List.set_cons_zero, List.set_cons_succ]
                      refine wpAnyH_take (i := 12) (v := undef) (by simp only [List.getElem?_toArray, List.getElem?_cons_succ, List.getElem?_cons_zero]; rfl) (by kernel_rfl) (by kernel_rfl) (by kernel_rfl) (by exact fun _ _ _ h => h) (Or.inr ⟨by rfl, rfl⟩) (by assumption) ?_
                      try simp only [Act.put, List.setIfInBounds_toArray, List.set_cons_zero, List.set_cons_succ]
                      refine wpAnyH_take (i := 13) (v := undef) (by simp only [List.getElem?_toArray, List.getElem?_cons_succ, List.getElem?_cons_zero]; rfl) (by kernel_rfl) (by kernel_rfl) (by kernel_rfl) (by exact fun _ _ _ h => h) (Or.inr ⟨by rfl, rfl⟩) (by assumption) ?_
                      try simp only [Act.put, List.setIfInBounds_toArray, List.set_cons_zero, List.set_cons_succ]
                      refine wpAnyH_take (i := 14) (v := undef) (by simp only [List.getElem?_toArray, List.getElem?_cons_succ, List.getElem?_cons_zero]; rfl) (by kernel_rfl) (by kernel_rfl) (by kernel_rfl) (by exact fun _ _ _ h => h) (Or.inr ⟨by rfl, rfl⟩) (by assumption) ?_
                      try simp only [Act.put, List.setIfInBounds_toArray, List.set_cons_zero, List.set_cons_succ]
                      refine wpAnyH_take (i := 15) (v := undef) (by simp only [List.getElem?_toArray, List.getElem?_cons_succ, List.getElem?_cons_zero]; rfl) (by kernel_rfl) (by kernel_rfl) (by kernel_rfl) (by exact fun _ _ _ h => h) (Or.inr ⟨by rfl, rfl⟩) (by assumption) ?_
                      try simp only [Act.put, List.setIfInBounds_toArray, List.set_cons_zero, List.set_cons_succ]
                      refine wpAnyH_take (i := 16) (v := undef) (by simp only [List.getElem?_toArray, List.getElem?_cons_succ, List.getElem?_cons_zero]; rfl) (by kernel_rfl) (by kernel_rfl) (by kernel_rfl) (by exact fun _ _ _ h => h) (Or.inr ⟨by rfl, rfl⟩) (by assumption) ?_
                      try simp only [Act.put, List.setIfInBounds_toArray, List.set_cons_zero, List.set_cons_succ]
                      refine wpAnyH_take (i := 17) (v := undef) (by simp only [List.getElem?_toArray, List.getElem?_cons_succ, List.getElem?_cons_zero]; rfl) (by kernel_rfl) (by kernel_rfl) (by kernel_rfl) (by exact fun _ _ _ h => h) (Or.inr ⟨by rfl, rfl⟩) (by assumption) ?_
                      try simp only [Act.put, List.setIfInBounds_toArray, List.set_cons_zero, List.set_cons_succ]
                      refine wpAnyH_take (i := 18) (v := undef) (by simp only [List.getElem?_toArray, List.getElem?_cons_succ, List.getElem?_cons_zero]; rfl) (by kernel_rfl) (by kernel_rfl) (by kernel_rfl) (by exact fun _ _ _ h => h) (Or.inr ⟨by rfl, rfl⟩) (by assumption) ?_
                      try simp only [Act.put, List.setIfInBounds_toArray, List.set_cons_zero, List.set_cons_succ]
                      refine wpAnyH_take (i := 19) (v := undef) (by simp only [List.getElem?_toArray, List.getElem?_cons_succ, List.getElem?_cons_zero]; rfl) (by kernel_rfl) (by kernel_rfl) (by kernel_rfl) (by exact fun _ _ _ h => h) (Or.inr ⟨by rfl, rfl⟩) (by assumption) ?_
                      try simp only [Act.put, List.setIfInBounds_toArray, List.set_cons_zero, List.set_cons_succ]
                      refine wpAnyH_take (i := 20) (v := undef) (by simp only [List.getElem?_toArray, List.getElem?_cons_succ, List.getElem?_cons_zero]; rfl) (by kernel_rfl) (by kernel_rfl) (by kernel_rfl) (by exact fun _ _ _ h => h) (Or.inr ⟨by rfl, rfl⟩) (by assumption) ?_
                      try simp only [Act.put, List.setIfInBounds_toArray, List.set_cons_zero, List.set_cons_succ]
                      refine wpAnyH_take (i := 21) (v := undef) (by simp only [List.getElem?_toArray, List.getElem?_cons_succ, List.getElem?_cons_zero]; rfl) (by kernel_rfl) (by kernel_rfl) (by kernel_rfl) (by exact fun _ _ _ h => h) (Or.inr ⟨by rfl, rfl⟩) (by assumption) ?_
                      try simp only [Act.put, List.setIfInBounds_toArray, List.set_cons_zero, List.set_cons_succ]
                      refine wpAnyH_take (i := 22) (v := undef) (by simp only [List.getElem?_toArray, List.getElem?_cons_succ, List.getElem?_cons_zero]; rfl) (by kernel_rfl) (by kernel_rfl) (by kernel_rfl) (by exact fun _ _ _ h => h) (Or.inr ⟨by rfl, rfl⟩) (by assumption) ?_
                      try simp only [Act.put, List.setIfInBounds_toArray, List.set_cons_zero, List.set_cons_succ]
                      refine wpAnyH_take (i := 23) (v := undef) (by simp only [List.getElem?_toArray, List.getElem?_cons_succ, List.getElem?_cons_zero]; rfl) (by kernel_rfl) (by kernel_rfl) (by kernel_rfl) (by exact fun _ _ _ h => h) (Or.inr ⟨by rfl, rfl⟩) (by assumption) ?_
                      try simp only [Act.put, List.setIfInBounds_toArray, List.set_cons_zero, List.set_cons_succ]
                      refine wpAnyH_take (i := 24) (v := undef) (by simp only [List.getElem?_toArray, List.getElem?_cons_succ, List.getElem?_cons_zero]; rfl) (by kernel_rfl) (by kernel_rfl) (by kernel_rfl) (by exact fun _ _ _ h => h) (Or.inr ⟨by rfl, rfl⟩) (by assumption) ?_
                      try simp only [Act.put, List.setIfInBounds_toArray, List.set_cons_zero, List.set_cons_succ]
                      refine wpAnyH_take (i := 25) (v := undef) (by simp only [List.getElem?_toArray, List.getElem?_cons_succ, List.getElem?_cons_zero]; rfl) (by kernel_rfl) (by kernel_rfl) (by kernel_rfl) (by exact fun _ _ _ h => h) (Or.inr ⟨by rfl, rfl⟩) (by assumption) ?_
                      try simp only [Act.put, List.setIfInBounds_toArray, List.set_cons_zero, List.set_cons_succ]
                      refine wpAnyH_take (i := 26) (v := undef) (by simp only [List.getElem?_toArray, List.getElem?_cons_succ, List.getElem?_cons_zero]; rfl) (by kernel_rfl) (by kernel_rfl) (by kernel_rfl) (by exact fun _ _ _ h => h) (Or.inr ⟨by rfl, rfl⟩) (by assumption) ?_
                      try simp only [Act.put, List.setIfInBounds_toArray, List.set_cons_zero, List.set_cons_succ]
                      refine wpAnyH_take (i := 27) (v := ?_) (by simp only [List.getElem?_toArray, List.getElem?_cons_succ, List.getElem?_cons_zero]; rfl) (by kernel_rfl) (by kernel_rfl) (by kernel_rfl) (by exact fun _ _ _ h => h) (Or.inl ⟨by rfl, ?_⟩) (by assumption) ?_
                      rotate_left
                      · intro w' hSw; obtain ⟨e0, e1, e2, e3, e4⟩ := hSw
                        go_simp; try with_reducible rfl
                      try simp only [Act.put, List.setIfInBounds_toArray, List.set_cons_zero, List.set_cons_succ]
                      refine wpAnyH_done (by kernel_rfl) ?_ _
                      go_wp2_with fail
                      go_ret
                      exact ⟨by rw [HF.out]; rfl, HB2.out.1⟩
                    · have HN3 := Lib.hid (HNd2.out hm)
                      have HH : Hid (∀ W v, RowAt W v (sI (seenT t bs i k)) → Calls Try.prog 102 #[v, .int .i64 ((p : Nat) : Int)] W fun e w' => e = .returned (.bool false) ∧ W = w') := fun W v h => by
                        have h1 := l1Has_any v _ ((p : Nat) : Int) W h
                        rwa [inB_no (fun q => by
                          obtain ⟨x, hx, he⟩ := List.mem_map.1 q
                          have : x = p := by omega
                          subst this
                          exact hm hx)] at h1
                      by_cases hk0 : k = 0
                      · have HId : Hid (IdOk t f bs[i] k hkl) := HIdM.out hfd (fun j hj => by omega)
                        have hk0i : ¬ (0 : Int) < (k : Int) := by omega
                        have hk0n : ¬ 0 < k := by omega
                        have hk0d : decide ((0 : Int) < (k : Int)) = false := decide_eq_false hk0i
                        clear hm HNo2 HNd2 hk0
                        go_upto_region 11 with fail
                        refine wp_region_held_drew (S := (fun w' => w'.cell? ⟨w.heap.size, 0, none⟩ = some (.slice c0 t.net.stops.length d0) ∧ w'.cell? ⟨w.heap.size, 1, none⟩ = some (.slice c1 t.net.lines.length d1) ∧ w'.cell? ⟨w.heap.size, 2, none⟩ = some (.slice c2 t.trips.length d2) ∧ w'.cell? ⟨w.heap.size + 1, 0, none⟩ = some (.slice fa f.dead.length fc) ∧ w'.cell? ⟨w.heap.size + 1, 1, none⟩ = some (.int .i64 f.turn))) (by kernel_rfl) ?_ (fun hHeld => ?_)
                        · exact ⟨p0, p1, p2, q0, q1⟩
                        refine wpAnyH_take (i := 0) (v := ?_) (by simp only [List.getElem?_toArray, List.getElem?_cons_zero]; rfl) (by kernel_rfl) (by kernel_rfl) (by kernel_rfl) (by exact fun _ _ _ h => h) (Or.inl ⟨by rfl, ?_⟩) (by assumption) ?_
                        rotate_left
                        · intro w' hSw; obtain ⟨e0, e1, e2, e3, e4⟩ := hSw
                          go_simp; try with_reducible rfl
                        try simp only [Act.put, List.setIfInBounds_toArray, List.set_cons_zero, List.set_cons_succ]
                        refine wpAnyH_take (i := 1) (v := ?_) (by simp only [List.getElem?_toArray, List.getElem?_cons_succ, List.getElem?_cons_zero]; rfl) (by kernel_rfl) (by kernel_rfl) (by kernel_rfl) (by exact fun _ _ _ h => h) (Or.inl ⟨by rfl, ?_⟩) (by assumption) ?_
                        rotate_left
                        · intro w' hSw; obtain ⟨e0, e1, e2, e3, e4⟩ := hSw
                          go_simp; try with_reducible rfl
                        try simp only [Act.put, List.setIfInBounds_toArray, List.set_cons_zero, List.set_cons_succ]
                        refine wpAnyH_take (i := 2) (v := ?_) (by simp only [List.getElem?_toArray, List.getElem?_cons_succ, List.getElem?_cons_zero]; rfl) (by kernel_rfl) (by kernel_rfl) (by kernel_rfl) (by exact fun _ _ _ h => h) (Or.inl ⟨by rfl, ?_⟩) (by assumption) ?_
                        rotate_left
                        · intro w' hSw; obtain ⟨e0, e1, e2, e3, e4⟩ := hSw
                          go_simp; try with_reducible rfl
                        try simp only [Act.put, List.setIfInBounds_toArray, List.set_cons_zero, List.set_cons_succ]
                        refine wpAnyH_take (i := 3) (v := ?_) (by simp only [List.getElem?_toArray, List.getElem?_cons_succ, List.getElem?_cons_zero]; rfl) (by kernel_rfl) (by kernel_rfl) (by kernel_rfl) (by exact fun _ _ _ h => h) (Or.inl ⟨by rfl, ?_⟩) (by assumption) ?_
                        rotate_left
                        · intro w' hSw; obtain ⟨e0, e1, e2, e3, e4⟩ := hSw
                          go_simp; try with_reducible rfl
                        try simp only [Act.put, List.setIfInBounds_toArray, List.set_cons_zero, List.set_cons_succ]
                        refine wpAnyH_take (i := 4) (v := ?_) (by simp only [List.getElem?_toArray, List.getElem?_cons_succ, List.getElem?_cons_zero]; rfl) (by kernel_rfl) (by kernel_rfl) (by kernel_rfl) (by exact fun _ _ _ h => h) (Or.inl ⟨by rfl, ?_⟩) (by assumption) ?_
                        rotate_left
                        · intro w' hSw; obtain ⟨e0, e1, e2, e3, e4⟩ := hSw
                          go_simp; try with_reducible rfl
                        try simp only [Act.put, List.setIfInBounds_toArray, List.set_cons_zero, List.set_cons_succ]
                        refine wpAnyH_ready (rs := [5]) (by kernel_rfl) (by simp) ?_
                        refine AllReadyH.cons (by simp only [List.getElem?_toArray, List.getElem?_cons_succ, List.getElem?_cons_zero]; rfl) (fun K hK => ?_) AllReadyH.nil
                        go_simp
                        go_at_call 102
                        refine (belQ (HH.out _ _ (rowAt_own (own_later HO1.out (Below.refl _ _).drew)))).mono ?_
                        rintro e w2 ⟨rfl, hb⟩
                        have rbw : Below w1.heap.size w1 w2 := (Below.refl _ _).drew.trans hb
                        have hS2 : w2.cell? ⟨w.heap.size, 0, none⟩ = some (.slice c0 t.net.stops.length d0) ∧ w2.cell? ⟨w.heap.size, 1, none⟩ = some (.slice c1 t.net.lines.length d1) ∧ w2.cell? ⟨w.heap.size, 2, none⟩ = some (.slice c2 t.trips.length d2) ∧ w2.cell? ⟨w.heap.size + 1, 0, none⟩ = some (.slice fa f.dead.length fc) ∧ w2.cell? ⟨w.heap.size + 1, 1, none⟩ = some (.int .i64 f.turn) := ⟨bkeep rbw p0, bkeep rbw p1, bkeep rbw p2, bkeep rbw q0, bkeep rbw q1⟩
                        have HB2 : Hid (Below w.heap.size w w2 ∧ w.heap.size + 2 ≤ w2.heap.size) := ⟨HB1.out.1.trans (rbw.mono HB1.out.1.size), Nat.le_trans HB1.out.2 rbw.size⟩
                        have HO2 := Lib.hid (own_later HO1.out rbw)
                        clear hb rbw
                        go_wp2_with fail
                        refine hK.out _ _ hS2 (fun hH5 => ?_)
                        obtain ⟨p0, p1, p2, q0, q1⟩ := hS2
                        clear hK K
                        try simp only [Act.put, List.setIfInBounds_toArray, List.set_cons_zero, List.set_cons_succ]
                        refine wpAnyH_take (i := 6) (v := ?_) (by simp only [List.getElem?_toArray, List.getElem?_cons_succ, List.getElem?_cons_zero]; rfl) (by kernel_rfl) (by kernel_rfl) (by kernel_rfl) (by exact fun _ _ _ h => h) (Or.inl ⟨by rfl, ?_⟩) (by assumption) ?_
                        rotate_left
                        · intro w' hSw; obtain ⟨e0, e1, e2, e3, e4⟩ := hSw
                          go_simp; try with_reducible rfl
                        try simp only [Act.put, List.setIfInBounds_toArray, List.set_cons_zero, List.set_cons_succ]
                        refine wpAnyH_take (i := 7) (v := ?_) (by simp only [List.getElem?_toArray, List.getElem?_cons_succ, List.getElem?_cons_zero]; rfl) (by kernel_rfl) (by kernel_rfl) (by kernel_rfl) (by exact fun _ _ _ h => h) (Or.inl ⟨by rfl, ?_⟩) (by assumption) ?_
                        rotate_left
                        · intro w' hSw; obtain ⟨e0, e1, e2, e3, e4⟩ := hSw
                          go_simp; try with_reducible rfl
                        try simp only [Act.put, List.setIfInBounds_toArray, List.set_cons_zero, List.set_cons_succ]
                        refine wpAnyH_take (i := 8) (v := ?_) (by simp only [List.getElem?_toArray, List.getElem?_cons_succ, List.getElem?_cons_zero]; rfl) (by kernel_rfl) (by kernel_rfl) (by kernel_rfl) (by exact fun _ _ _ h => h) (Or.inl ⟨by rfl, ?_⟩) (by assumption) ?_
                        rotate_left
                        · intro w' hSw; obtain ⟨e0, e1, e2, e3, e4⟩ := hSw
                          go_simp; try with_reducible rfl
                        try simp only [Act.put, List.setIfInBounds_toArray, List.set_cons_zero, List.set_cons_succ]
                        refine wpAnyH_take (i := 9) (v := ?_) (by simp only [List.getElem?_toArray, List.getElem?_cons_succ, List.getElem?_cons_zero]; rfl) (by kernel_rfl) (by kernel_rfl) (by kernel_rfl) (by exact fun _ _ _ h => h) (Or.inl ⟨by rfl, ?_⟩) (by assumption) ?_
                        rotate_left
                        · intro w' hSw; obtain ⟨e0, e1, e2, e3, e4⟩ := hSw
                          go_simp; try with_reducible rfl
                        try simp only [Act.put, List.setIfInBounds_toArray, List.set_cons_zero, List.set_cons_succ]
                        refine wpAnyH_take (i := 10) (v := ?_) (by simp only [List.getElem?_toArray, List.getElem?_cons_succ, List.getElem?_cons_zero]; rfl) (by kernel_rfl) (by kernel_rfl) (by kernel_rfl) (by exact fun _ _ _ h => h) (Or.inl ⟨by rfl, ?_⟩) (by assumption) ?_
                        rotate_left
                        · intro w' hSw; obtain ⟨e0, e1, e2, e3, e4⟩ := hSw
                          go_simp; try with_reducible rfl
                        try simp only [Act.put, List.setIfInBounds_toArray, List.set_cons_zero, List.set_cons_succ]
                        refine wpAnyH_take (i := 11) (v := undef) (by simp only [List.getElem?_toArray, List.getElem?_cons_succ, List.getElem?_cons_zero]; rfl) (by kernel_rfl) (by kernel_rfl) (by kernel_rfl) (by exact fun _ _ _ h => h) (Or.inr ⟨by rfl, rfl⟩) (by assumption) ?_
                        try simp only [Act.put, List.setIfInBounds_toArray, List.set_cons_zero, List.set_cons_succ]
                        refine wpAnyH_take (i := 12) (v := undef) (by simp only [List.getElem?_toArray, List.getElem?_cons_succ, List.getElem?_cons_zero]; rfl) (by kernel_rfl) (by kernel_rfl) (by kernel_rfl) (by exact fun _ _ _ h => h) (Or.inr ⟨by rfl, rfl⟩) (by assumption) ?_
                        try simp only [Act.put, List.setIfInBounds_toArray, List.set_cons_zero, List.set_cons_succ]
                        refine wpAnyH_take (i := 13) (v := undef) (by simp only [List.getElem?_toArray, List.getElem?_cons_succ, List.getElem?_cons_zero]; rfl) (by kernel_rfl) (by kernel_rfl) (by kernel_rfl) (by exact fun _ _ _ h => h) (Or.inr ⟨by rfl, rfl⟩) (by assumption) ?_
                        try simp only [Act.put, List.setIfInBounds_toArray, List.set_cons_zero, List.set_cons_succ]
                        refine wpAnyH_take (i := 14) (v := undef) (by simp only [List.getElem?_toArray, List.getElem?_cons_succ, List.getElem?_cons_zero]; rfl) (by kernel_rfl) (by kernel_rfl) (by kernel_rfl) (by exact fun _ _ _ h => h) (Or.inr ⟨by rfl, rfl⟩) (by assumption) ?_
                        try simp only [Act.put, List.setIfInBounds_toArray, List.set_cons_zero, List.set_cons_succ]
                        refine wpAnyH_take (i := 15) (v := undef) (by simp only [List.getElem?_toArray, List.getElem?_cons_succ, List.getElem?_cons_zero]; rfl) (by kernel_rfl) (by kernel_rfl) (by kernel_rfl) (by exact fun _ _ _ h => h) (Or.inr ⟨by rfl, rfl⟩) (by assumption) ?_
                        try simp only [Act.put, List.setIfInBounds_toArray, List.set_cons_zero, List.set_cons_succ]
                        refine wpAnyH_take (i := 16) (v := undef) (by simp only [List.getElem?_toArray, List.getElem?_cons_succ, List.getElem?_cons_zero]; rfl) (by kernel_rfl) (by kernel_rfl) (by kernel_rfl) (by exact fun _ _ _ h => h) (Or.inr ⟨by rfl, rfl⟩) (by assumption) ?_
                        try simp only [Act.put, List.setIfInBounds_toArray, List.set_cons_zero, List.set_cons_succ]
                        refine wpAnyH_take (i := 17) (v := undef) (by simp only [List.getElem?_toArray, List.getElem?_cons_succ, List.getElem?_cons_zero]; rfl) (by kernel_rfl) (by kernel_rfl) (by kernel_rfl) (by exact fun _ _ _ h => h) (Or.inr ⟨by rfl, rfl⟩) (by assumption) ?_
                        try simp only [Act.put, List.setIfInBounds_toArray, List.set_cons_zero, List.set_cons_succ]
                        refine wpAnyH_take (i := 18) (v := undef) (by simp only [List.getElem?_toArray, List.getElem?_cons_succ, List.getElem?_cons_zero]; rfl) (by kernel_rfl) (by kernel_rfl) (by kernel_rfl) (by exact fun _ _ _ h => h) (Or.inr ⟨by rfl, rfl⟩) (by assumption) ?_
                        try simp only [Act.put, List.setIfInBounds_toArray, List.set_cons_zero, List.set_cons_succ]
                        refine wpAnyH_take (i := 19) (v := undef) (by simp only [List.getElem?_toArray, List.getElem?_cons_succ, List.getElem?_cons_zero]; rfl) (by kernel_rfl) (by kernel_rfl) (by kernel_rfl) (by exact fun _ _ _ h => h) (Or.inr ⟨by rfl, rfl⟩) (by assumption) ?_
                        try simp only [Act.put, List.setIfInBounds_toArray, List.set_cons_zero, List.set_cons_succ]
                        refine wpAnyH_take (i := 20) (v := undef) (by simp only [List.getElem?_toArray, List.getElem?_cons_succ, List.getElem?_cons_zero]; rfl) (by kernel_rfl) (by kernel_rfl) (by kernel_rfl) (by exact fun _ _ _ h => h) (Or.inr ⟨by rfl, rfl⟩) (by assumption) ?_
                        try simp only [Act.put, List.setIfInBounds_toArray, List.set_cons_zero, List.set_cons_succ]
                        refine wpAnyH_take (i := 21) (v := undef) (by simp only [List.getElem?_toArray, List.getElem?_cons_succ, List.getElem?_cons_zero]; rfl) (by kernel_rfl) (by kernel_rfl) (by kernel_rfl) (by exact fun _ _ _ h => h) (Or.inr ⟨by rfl, rfl⟩) (by assumption) ?_
                        try simp only [Act.put, List.setIfInBounds_toArray, List.set_cons_zero, List.set_cons_succ]
                        refine wpAnyH_take (i := 22) (v := undef) (by simp only [List.getElem?_toArray, List.getElem?_cons_succ, List.getElem?_cons_zero]; rfl) (by kernel_rfl) (by kernel_rfl) (by kernel_rfl) (by exact fun _ _ _ h => h) (Or.inr ⟨by rfl, rfl⟩) (by assumption) ?_
                        try simp only [Act.put, List.setIfInBounds_toArray, List.set_cons_zero, List.set_cons_succ]
                        refine wpAnyH_take (i := 23) (v := undef) (by simp only [List.getElem?_toArray, List.getElem?_cons_succ, List.getElem?_cons_zero]; rfl) (by kernel_rfl) (by kernel_rfl) (by kernel_rfl) (by exact fun _ _ _ h => h) (Or.inr ⟨by rfl, rfl⟩) (by assumption) ?_
                        try simp only [Act.put, List.setIfInBounds_toArray, List.set_cons_zero, List.set_cons_succ]
                        refine wpAnyH_take (i := 24) (v := undef) (by simp only [List.getElem?_toArray, List.getElem?_cons_succ, List.getElem?_cons_zero]; rfl) (by kernel_rfl) (by kernel_rfl) (by kernel_rfl) (by exact fun _ _ _ h => h) (Or.inr ⟨by rfl, rfl⟩) (by assumption) ?_
                        try simp only [Act.put, List.setIfInBounds_toArray, List.set_cons_zero, List.set_cons_succ]
                        refine wpAnyH_take (i := 25) (v := undef) (by simp only [List.getElem?_toArray, List.getElem?_cons_succ, List.getElem?_cons_zero]; rfl) (by kernel_rfl) (by kernel_rfl) (by kernel_rfl) (by exact fun _ _ _ h => h) (Or.inr ⟨by rfl, rfl⟩) (by assumption) ?_
                        try simp only [Act.put, List.setIfInBounds_toArray, List.set_cons_zero, List.set_cons_succ]
                        refine wpAnyH_take (i := 26) (v := ?_) (by simp only [List.getElem?_toArray, List.getElem?_cons_succ, List.getElem?_cons_zero]; rfl) (by kernel_rfl) (by kernel_rfl) (by kernel_rfl) (by exact fun _ _ _ h => h) (Or.inl ⟨by rfl, ?_⟩) (by assumption) ?_
                        rotate_left
                        · intro w' hSw; obtain ⟨e0, e1, e2, e3, e4⟩ := hSw
                          go_simp; try with_reducible rfl
                        try simp only [Act.put, List.setIfInBounds_toArray, List.set_cons_zero, List.set_cons_succ]
                        refine wpAnyH_take (i := 27) (v := ?_) (by simp only [List.getElem?_toArray, List.getElem?_cons_succ, List.getElem?_cons_zero]; rfl) (by kernel_rfl) (by kernel_rfl) (by kernel_rfl) (by exact fun _ _ _ h => h) (Or.inl ⟨by rfl, ?_⟩) (by assumption) ?_
                        rotate_left
                        · intro w' hSw; obtain ⟨e0, e1, e2, e3, e4⟩ := hSw
                          go_simp; try with_reducible rfl
                        try simp only [Act.put, List.setIfInBounds_toArray, List.set_cons_zero, List.set_cons_succ]
                        refine wpAnyH_done (by kernel_rfl) ?_ _
                        clear HFd HF1
                        try clear hk0i hk0n hk0d
                        have hzn := HB2.out.2
                        go_wp2_with (at_builtin; refine wpList_append_own _ rfl _ _ 80 rfl (w.heap.size + 2) 3 i0 (.int .i64 0) 1 8 Try.underlying80 hi0 iz0 iz1 iz2 rfl (by decide) _ _ _ rfl (HO2.out.alloc _) ⟨w2.heap.size, 0, none⟩ 1 1 [.int .i64 ((p : Nat) : Int)] rfl rfl ?c1 ?c2 ?c3 ?c4 ?c5 ?_)
                        case c1 => exact one_new _ _
                        case c2 => intro u hu; simp at hu; subst hu; rfl
                        case c3 => unfold maxLen; omega
                        case c4 => omega
                        case c5 => simp; omega
                        intro v' w5 hown' hgrow _
                        have hown0 := HO2.out
                        have HB5 : Hid (Below w.heap.size w w5 ∧ w.heap.size + 2 ≤ w5.heap.size) := ⟨(HB2.out.1.alloc (by omega) _).grown hgrow (by simp; omega) (fun g hg => by have := (hown0.lt g hg).1; omega), by have := hgrow.size; simp at this; omega⟩
                        have hb6 : Below (w.heap.size + 2) (w2.alloc (.cells #[.int .i64 ((p : Nat) : Int)] 3)) w5 := (Below.refl _ _).grown hgrow (by simp; omega) (fun g hg => (hown0.lt g hg).1)
                        have p0 : w5.cell? ⟨w.heap.size, 0, none⟩ = some (.slice c0 t.net.stops.length d0) := by rw [hb6.cell (p := ⟨w.heap.size, 0, none⟩) (by dsimp only; omega)]; exact acell p0 _
                        have p1 : w5.cell? ⟨w.heap.size, 1, none⟩ = some (.slice c1 t.net.lines.length d1) := by rw [hb6.cell (p := ⟨w.heap.size, 1, none⟩) (by dsimp only; omega)]; exact acell p1 _
                        have p2 : w5.cell? ⟨w.heap.size, 2, none⟩ = some (.slice c2 t.trips.length d2) := by rw [hb6.cell (p := ⟨w.heap.size, 2, none⟩) (by dsimp only; omega)]; exact acell p2 _
                        have q0 : w5.cell? ⟨w.heap.size + 1, 0, none⟩ = some (.slice fa f.dead.length fc) := by rw [hb6.cell (p := ⟨w.heap.size + 1, 0, none⟩) (by dsimp only; omega)]; exact acell q0 _
                        have q1 : w5.cell? ⟨w.heap.size + 1, 1, none⟩ = some (.int .i64 f.turn) := by rw [hb6.cell (p := ⟨w.heap.size + 1, 1, none⟩) (by dsimp only; omega)]; exact acell q1 _
                        have HOn : Hid (w5.ownsRow (w.heap.size + 2) 3 1 v' (seenT t bs i (k + 1)).length (sI (seenT t bs i (k + 1)))) := by
                          show World.ownsRow _ _ _ _ _ _ _
                          rw [HRw.out, sI_snoc, List.length_append]
                          exact hown'
                        have HTb2 := Lib.hid (blkTo_succ hkl HTb.out HId.out)
                        clear hown' hgrow hown0 hb6
                        obtain ⟨a6, c6, rfl⟩ := own_shape HOn.out
                        go_wp2_with fail
                        go_roundw
                        case rel => exact ⟨k + 1, by omega, by go_num, HTb2, HN3, HOn, p0, p1, p2, q0, q1, HB5⟩
                        case measure => simp [RowKit.intOf]; omega
                      · obtain ⟨m, rfl⟩ : ∃ m, k = m + 1 := ⟨k - 1, by omega⟩
                        obtain ⟨idp, pp, ⟨hlp, htp⟩, hidp, hpm, hfp⟩ := HPrev.out m rfl
                        have hne : pp ≠ p := fun e => hm (e ▸ hpm)
                        have HFo := Lib.hid (HFoG.out pp p hne hlp hpl)
                        have HTp := Lib.hid htp
                        have htr := HTr.out hfd hpl
                        rw [htp, htr] at HFo
                        have HIdM2 : Hid (follF t.net f (tripOf t idp) (tripOf t id) = true → IdOk t f bs[i] (m + 1) hkl) := fun h => HIdM.out hfd (fun j hj => by
                          have e : j = m := by omega
                          subst e
                          rw [hidp]; exact h)
                        have HNo3 : Hid (follF t.net f (tripOf t idp) (tripOf t id) = false → blksB t f bs = false) := fun h => HNoI.out (fun q => by
                          have h2 := q.2 m rfl
                          rw [hidp, HIdE.out, h] at h2; cases h2)
                        have zP := HZm.out _ HB1.out.1 m (by omega)
                        rw [hidp] at zP
                        have HF2 := Lib.hid (fun W (h : Below w.heap.size w W) => HFd.out W h idp)
                        rw [hfp] at HF2
                        have hwm : IntKind.i64.wrap (m : Int) = (m : Int) := IntWalk.i64_in _ (by omega)
                        have hkm : ((m + 1 : Nat) : Int) - 1 = (m : Int) := by omega
                        have hm1 : (m : Int) < (bs[i].length : Int) := by omega
                        have hkp : (0 : Int) < ((m + 1 : Nat) : Int) := by omega
                        clear hm HNo2 HNd2 hk0 hidp hpm hfp htp htr HTp hne HPrev HTr HIdM HNoI HFoG
                        generalize hfo : follF t.net f (tripOf t idp) (tripOf t id) = r at *
                        clear hfo
                        cases r
                        · have HF := Lib.hid (HNo3.out rfl)
                          go_upto_region 11 with fail
                          refine wp_region_held_drew (S := (fun w' => w'.cell? ⟨w.heap.size, 0, none⟩ = some (.slice c0 t.net.stops.length d0) ∧ w'.cell? ⟨w.heap.size, 1, none⟩ = some (.slice c1 t.net.lines.length d1) ∧ w'.cell? ⟨w.heap.size, 2, none⟩ = some (.slice c2 t.trips.length d2) ∧ w'.cell? ⟨w.heap.size + 1, 0, none⟩ = some (.slice fa f.dead.length fc) ∧ w'.cell? ⟨w.heap.size + 1, 1, none⟩ = some (.int .i64 f.turn) ∧ w'.cell? ⟨vb, vo + i, none⟩ = some (.slice (some ⟨rb, ro, none⟩) bs[i].length rc) ∧ w'.cell? ⟨rb, ro + m, none⟩ = some (.int .i64 idp))) (by kernel_rfl) ?_ (fun hHeld => ?_)
                          · exact ⟨p0, p1, p2, q0, q1, yI, zP⟩
                          refine wpAnyH_take (i := 0) (v := ?_) (by simp only [List.getElem?_toArray, List.getElem?_cons_zero]; rfl) (by kernel_rfl) (by kernel_rfl) (by kernel_rfl) (by exact fun _ _ _ h => h) (Or.inl ⟨by rfl, ?_⟩) (by assumption) ?_
                          rotate_left
                          · intro w' hSw; obtain ⟨e0, e1, e2, e3, e4, e5, e6⟩ := hSw
                            go_simp; try with_reducible rfl
                          try simp only [Act.put, List.setIfInBounds_toArray, List.set_cons_zero, List.set_cons_succ]
                          refine wpAnyH_take (i := 1) (v := ?_) (by simp only [List.getElem?_toArray, List.getElem?_cons_succ, List.getElem?_cons_zero]; rfl) (by kernel_rfl) (by kernel_rfl) (by kernel_rfl) (by exact fun _ _ _ h => h) (Or.inl ⟨by rfl, ?_⟩) (by assumption) ?_
                          rotate_left
                          · intro w' hSw; obtain ⟨e0, e1, e2, e3, e4, e5, e6⟩ := hSw
                            go_simp; try with_reducible rfl
                          try simp only [Act.put, List.setIfInBounds_toArray, List.set_cons_zero, List.set_cons_succ]
                          refine wpAnyH_take (i := 2) (v := ?_) (by simp only [List.getElem?_toArray, List.getElem?_cons_succ, List.getElem?_cons_zero]; rfl) (by kernel_rfl) (by kernel_rfl) (by kernel_rfl) (by exact fun _ _ _ h => h) (Or.inl ⟨by rfl, ?_⟩) (by assumption) ?_
                          rotate_left
                          · intro w' hSw; obtain ⟨e0, e1, e2, e3, e4, e5, e6⟩ := hSw
                            go_simp; try with_reducible rfl
                          try simp only [Act.put, List.setIfInBounds_toArray, List.set_cons_zero, List.set_cons_succ]
                          refine wpAnyH_take (i := 3) (v := ?_) (by simp only [List.getElem?_toArray, List.getElem?_cons_succ, List.getElem?_cons_zero]; rfl) (by kernel_rfl) (by kernel_rfl) (by kernel_rfl) (by exact fun _ _ _ h => h) (Or.inl ⟨by rfl, ?_⟩) (by assumption) ?_
                          rotate_left
                          · intro w' hSw; obtain ⟨e0, e1, e2, e3, e4, e5, e6⟩ := hSw
                            go_simp; try with_reducible rfl
                          try simp only [Act.put, List.setIfInBounds_toArray, List.set_cons_zero, List.set_cons_succ]
                          refine wpAnyH_take (i := 4) (v := ?_) (by simp only [List.getElem?_toArray, List.getElem?_cons_succ, List.getElem?_cons_zero]; rfl) (by kernel_rfl) (by kernel_rfl) (by kernel_rfl) (by exact fun _ _ _ h => h) (Or.inl ⟨by rfl, ?_⟩) (by assumption) ?_
                          rotate_left
                          · intro w' hSw; obtain ⟨e0, e1, e2, e3, e4, e5, e6⟩ := hSw
                            go_simp; try with_reducible rfl
                          try simp only [Act.put, List.setIfInBounds_toArray, List.set_cons_zero, List.set_cons_succ]
                          refine wpAnyH_ready (rs := [5]) (by kernel_rfl) (by simp) ?_
                          refine AllReadyH.cons (by simp only [List.getElem?_toArray, List.getElem?_cons_succ, List.getElem?_cons_zero]; rfl) (fun K hK => ?_) AllReadyH.nil
                          go_simp
                          go_at_call 102
                          refine (belQ (HH.out _ _ (rowAt_own (own_later HO1.out (Below.refl _ _).drew)))).mono ?_
                          rintro e w2 ⟨rfl, hb⟩
                          have rbw : Below w1.heap.size w1 w2 := (Below.refl _ _).drew.trans hb
                          have hS2 : w2.cell? ⟨w.heap.size, 0, none⟩ = some (.slice c0 t.net.stops.length d0) ∧ w2.cell? ⟨w.heap.size, 1, none⟩ = some (.slice c1 t.net.lines.length d1) ∧ w2.cell? ⟨w.heap.size, 2, none⟩ = some (.slice c2 t.trips.length d2) ∧ w2.cell? ⟨w.heap.size + 1, 0, none⟩ = some (.slice fa f.dead.length fc) ∧ w2.cell? ⟨w.heap.size + 1, 1, none⟩ = some (.int .i64 f.turn) ∧ w2.cell? ⟨vb, vo + i, none⟩ = some (.slice (some ⟨rb, ro, none⟩) bs[i].length rc) ∧ w2.cell? ⟨rb, ro + m, none⟩ = some (.int .i64 idp) := ⟨bkeep rbw p0, bkeep rbw p1, bkeep rbw p2, bkeep rbw q0, bkeep rbw q1, bkeep rbw yI, bkeep rbw zP⟩
                          have HB2 : Hid (Below w.heap.size w w2 ∧ w.heap.size + 2 ≤ w2.heap.size) := ⟨HB1.out.1.trans (rbw.mono HB1.out.1.size), Nat.le_trans HB1.out.2 rbw.size⟩
                          have HO2 := Lib.hid (own_later HO1.out rbw)
                          clear hb rbw
                          go_wp2_with fail
                          refine hK.out _ _ hS2 (fun hH5 => ?_)
                          obtain ⟨p0, p1, p2, q0, q1, yI, zP⟩ := hS2
                          clear hK K
                          try simp only [Act.put, List.setIfInBounds_toArray, List.set_cons_zero, List.set_cons_succ]
                          refine wpAnyH_take (i := 6) (v := ?_) (by simp only [List.getElem?_toArray, List.getElem?_cons_succ, List.getElem?_cons_zero]; rfl) (by kernel_rfl) (by kernel_rfl) (by kernel_rfl) (by exact fun _ _ _ h => h) (Or.inl ⟨by rfl, ?_⟩) (by assumption) ?_
                          rotate_left
                          · intro w' hSw; obtain ⟨e0, e1, e2, e3, e4, e5, e6⟩ := hSw
                            go_simp; try with_reducible rfl
                          try simp only [Act.put, List.setIfInBounds_toArray, List.set_cons_zero, List.set_cons_succ]
                          refine wpAnyH_take (i := 7) (v := ?_) (by simp only [List.getElem?_toArray, List.getElem?_cons_succ, List.getElem?_cons_zero]; rfl) (by kernel_rfl) (by kernel_rfl) (by kernel_rfl) (by exact fun _ _ _ h => h) (Or.inl ⟨by rfl, ?_⟩) (by assumption) ?_
                          rotate_left
                          · intro w' hSw; obtain ⟨e0, e1, e2, e3, e4, e5, e6⟩ := hSw
                            go_simp; try with_reducible rfl
                          try simp only [Act.put, List.setIfInBounds_toArray, List.set_cons_zero, List.set_cons_succ]
                          refine wpAnyH_take (i := 8) (v := ?_) (by simp only [List.getElem?_toArray, List.getElem?_cons_succ, List.getElem?_cons_zero]; rfl) (by kernel_rfl) (by kernel_rfl) (by kernel_rfl) (by exact fun _ _ _ h => h) (Or.inl ⟨by rfl, ?_⟩) (by assumption) ?_
                          rotate_left
                          · intro w' hSw; obtain ⟨e0, e1, e2, e3, e4, e5, e6⟩ := hSw
                            go_simp; try with_reducible rfl
                          try simp only [Act.put, List.setIfInBounds_toArray, List.set_cons_zero, List.set_cons_succ]
                          refine wpAnyH_take (i := 9) (v := ?_) (by simp only [List.getElem?_toArray, List.getElem?_cons_succ, List.getElem?_cons_zero]; rfl) (by kernel_rfl) (by kernel_rfl) (by kernel_rfl) (by exact fun _ _ _ h => h) (Or.inl ⟨by rfl, ?_⟩) (by assumption) ?_
                          rotate_left
                          · intro w' hSw; obtain ⟨e0, e1, e2, e3, e4, e5, e6⟩ := hSw
                            go_simp; try with_reducible rfl
                          try simp only [Act.put, List.setIfInBounds_toArray, List.set_cons_zero, List.set_cons_succ]
                          refine wpAnyH_take (i := 10) (v := ?_) (by simp only [List.getElem?_toArray, List.getElem?_cons_succ, List.getElem?_cons_zero]; rfl) (by kernel_rfl) (by kernel_rfl) (by kernel_rfl) (by exact fun _ _ _ h => h) (Or.inl ⟨by rfl, ?_⟩) (by assumption) ?_
                          rotate_left
                          · intro w' hSw; obtain ⟨e0, e1, e2, e3, e4, e5, e6⟩ := hSw
                            go_simp; try with_reducible rfl
                          try simp only [Act.put, List.setIfInBounds_toArray, List.set_cons_zero, List.set_cons_succ]
                          refine wpAnyH_take (i := 11) (v := ?_) (by simp only [List.getElem?_toArray, List.getElem?_cons_succ, List.getElem?_cons_zero]; rfl) (by kernel_rfl) (by kernel_rfl) (by kernel_rfl) (by exact fun _ _ _ h => h) (Or.inl ⟨by rfl, ?_⟩) (by assumption) ?_
                          rotate_left
                          · intro w' hSw; obtain ⟨e0, e1, e2, e3, e4, e5, e6⟩ := hSw
                            go_simp; try with_reducible rfl
                          try simp only [Act.put, List.setIfInBounds_toArray, List.set_cons_zero, List.set_cons_succ]
                          refine wpAnyH_take (i := 12) (v := ?_) (by simp only [List.getElem?_toArray, List.getElem?_cons_succ, List.getElem?_cons_zero]; rfl) (by kernel_rfl) (by kernel_rfl) (by kernel_rfl) (by exact fun _ _ _ h => h) (Or.inl ⟨by rfl, ?_⟩) (by assumption) ?_
                          rotate_left
                          · intro w' hSw; obtain ⟨e0, e1, e2, e3, e4, e5, e6⟩ := hSw
                            go_simp; try with_reducible rfl
                          try simp only [Act.put, List.setIfInBounds_toArray, List.set_cons_zero, List.set_cons_succ]
                          refine wpAnyH_take (i := 13) (v := ?_) (by simp only [List.getElem?_toArray, List.getElem?_cons_succ, List.getElem?_cons_zero]; rfl) (by kernel_rfl) (by kernel_rfl) (by kernel_rfl) (by exact fun _ _ _ h => h) (Or.inl ⟨by rfl, ?_⟩) (by assumption) ?_
                          rotate_left
                          · intro w' hSw; obtain ⟨e0, e1, e2, e3, e4, e5, e6⟩ := hSw
                            go_simp; try with_reducible rfl
                          try simp only [Act.put, List.setIfInBounds_toArray, List.set_cons_zero, List.set_cons_succ]
                          refine wpAnyH_take (i := 14) (v := ?_) (by simp only [List.getElem?_toArray, List.getElem?_cons_succ, List.getElem?_cons_zero]; rfl) (by kernel_rfl) (by kernel_rfl) (by kernel_rfl) (by exact fun _ _ _ h => h) (Or.inl ⟨by rfl, ?_⟩) (by assumption) ?_
                          rotate_left
                          · intro w' hSw; obtain ⟨e0, e1, e2, e3, e4, e5, e6⟩ := hSw
                            go_simp; try with_reducible rfl
                          try simp only [Act.put, List.setIfInBounds_toArray, List.set_cons_zero, List.set_cons_succ]
                          refine wpAnyH_take (i := 15) (v := ?_) (by simp only [List.getElem?_toArray, List.getElem?_cons_succ, List.getElem?_cons_zero]; rfl) (by kernel_rfl) (by kernel_rfl) (by kernel_rfl) (by exact fun _ _ _ h => h) (Or.inl ⟨by rfl, ?_⟩) (by assumption) ?_
                          rotate_left
                          · intro w' hSw; obtain ⟨e0, e1, e2, e3, e4, e5, e6⟩ := hSw
                            go_simp; try with_reducible rfl
                          try simp only [Act.put, List.setIfInBounds_toArray, List.set_cons_zero, List.set_cons_succ]
                          refine wpAnyH_take (i := 16) (v := ?_) (by simp only [List.getElem?_toArray, List.getElem?_cons_succ, List.getElem?_cons_zero]; rfl) (by kernel_rfl) (by kernel_rfl) (by kernel_rfl) (by exact fun _ _ _ h => h) (Or.inl ⟨by rfl, ?_⟩) (by assumption) ?_
                          rotate_left
                          · intro w' hSw; obtain ⟨e0, e1, e2, e3, e4, e5, e6⟩ := hSw
                            go_simp; try with_reducible rfl
                          try simp only [Act.put, List.setIfInBounds_toArray, List.set_cons_zero, List.set_cons_succ]
                          refine wpAnyH_take (i := 17) (v := ?_) (by simp only [List.getElem?_toArray, List.getElem?_cons_succ, List.getElem?_cons_zero]; rfl) (by kernel_rfl) (by kernel_rfl) (by kernel_rfl) (by exact fun _ _ _ h => h) (Or.inl ⟨by rfl, ?_⟩) (by assumption) ?_
                          rotate_left
                          · intro w' hSw; obtain ⟨e0, e1, e2, e3, e4, e5, e6⟩ := hSw
                            go_simp; try with_reducible rfl
                          try simp only [Act.put, List.setIfInBounds_toArray, List.set_cons_zero, List.set_cons_succ]
                          refine wpAnyH_take (i := 18) (v := ?_) (by simp only [List.getElem?_toArray, List.getElem?_cons_succ, List.getElem?_cons_zero]; rfl) (by kernel_rfl) (by kernel_rfl) (by kernel_rfl) (by exact fun _ _ _ h => h) (Or.inl ⟨by rfl, ?_⟩) (by assumption) ?_
                          rotate_left
                          · intro w' hSw; obtain ⟨e0, e1, e2, e3, e4, e5, e6⟩ := hSw
                            go_simp; try with_reducible rfl
                          try simp only [Act.put, List.setIfInBounds_toArray, List.set_cons_zero, List.set_cons_succ]
                          refine wpAnyH_take (i := 19) (v := ?_) (by simp only [List.getElem?_toArray, List.getElem?_cons_succ, List.getElem?_cons_zero]; rfl) (by kernel_rfl) (by kernel_rfl) (by kernel_rfl) (by exact fun _ _ _ h => h) (Or.inl ⟨by rfl, ?_⟩) (by assumption) ?_
                          rotate_left
                          · intro w' hSw; obtain ⟨e0, e1, e2, e3, e4, e5, e6⟩ := hSw
                            go_simp; try with_reducible rfl
                          try simp only [Act.put, List.setIfInBounds_toArray, List.set_cons_zero, List.set_cons_succ]
                          refine wpAnyH_take (i := 20) (v := ?_) (by simp only [List.getElem?_toArray, List.getElem?_cons_succ, List.getElem?_cons_zero]; rfl) (by kernel_rfl) (by kernel_rfl) (by kernel_rfl) (by exact fun _ _ _ h => h) (Or.inl ⟨by rfl, ?_⟩) (by assumption) ?_
                          rotate_left
                          · intro w' hSw; obtain ⟨e0, e1, e2, e3, e4, e5, e6⟩ := hSw
                            go_simp; try with_reducible rfl
                          try simp only [Act.put, List.setIfInBounds_toArray, List.set_cons_zero, List.set_cons_succ]
                          refine wpAnyH_take (i := 21) (v := ?_) (by simp only [List.getElem?_toArray, List.getElem?_cons_succ, List.getElem?_cons_zero]; rfl) (by kernel_rfl) (by kernel_rfl) (by kernel_rfl) (by exact fun _ _ _ h => h) (Or.inl ⟨by rfl, ?_⟩) (by assumption) ?_
                          rotate_left
                          · intro w' hSw; obtain ⟨e0, e1, e2, e3, e4, e5, e6⟩ := hSw
                            go_simp; try with_reducible rfl
                          try simp only [Act.put, List.setIfInBounds_toArray, List.set_cons_zero, List.set_cons_succ]
                          refine wpAnyH_take (i := 23) (v := ?_) (by simp only [List.getElem?_toArray, List.getElem?_cons_succ, List.getElem?_cons_zero]; rfl) (by kernel_rfl) (by kernel_rfl) (by kernel_rfl) (by exact fun _ _ _ h => h) (Or.inl ⟨by rfl, ?_⟩) (by assumption) ?_
                          rotate_left
                          · intro w' hSw; obtain ⟨e0, e1, e2, e3, e4, e5, e6⟩ := hSw
                            go_simp; try with_reducible rfl
                          try simp only [Act.put, List.setIfInBounds_toArray, List.set_cons_zero, List.set_cons_succ]
                          refine wpAnyH_ready (rs := [22]) (by kernel_rfl) (by simp) ?_
                          refine AllReadyH.cons (by simp only [List.getElem?_toArray, List.getElem?_cons_succ, List.getElem?_cons_zero]; rfl) (fun K hK => ?_) AllReadyH.nil
                          go_simp
                          go_at_call 57
                          refine (HF2.out _ HB2.out.1).mono ?_
                          rintro e w3 ⟨rfl, hb⟩
                          have rbw : Below w2.heap.size w2 w3 := hb
                          have hS2 : w3.cell? ⟨w.heap.size, 0, none⟩ = some (.slice c0 t.net.stops.length d0) ∧ w3.cell? ⟨w.heap.size, 1, none⟩ = some (.slice c1 t.net.lines.length d1) ∧ w3.cell? ⟨w.heap.size, 2, none⟩ = some (.slice c2 t.trips.length d2) ∧ w3.cell? ⟨w.heap.size + 1, 0, none⟩ = some (.slice fa f.dead.length fc) ∧ w3.cell? ⟨w.heap.size + 1, 1, none⟩ = some (.int .i64 f.turn) ∧ w3.cell? ⟨vb, vo + i, none⟩ = some (.slice (some ⟨rb, ro, none⟩) bs[i].length rc) ∧ w3.cell? ⟨rb, ro + m, none⟩ = some (.int .i64 idp) := ⟨bkeep rbw p0, bkeep rbw p1, bkeep rbw p2, bkeep rbw q0, bkeep rbw q1, bkeep rbw yI, bkeep rbw zP⟩
                          have HB3 : Hid (Below w.heap.size w w3 ∧ w.heap.size + 2 ≤ w3.heap.size) := ⟨HB2.out.1.trans (rbw.mono HB2.out.1.size), Nat.le_trans HB2.out.2 rbw.size⟩
                          have HO3 := Lib.hid (own_later HO2.out rbw)
                          clear hb rbw
                          go_wp2_with fail
                          refine hK.out _ _ hS2 (fun hH22 => ?_)
                          obtain ⟨p0, p1, p2, q0, q1, yI, zP⟩ := hS2
                          clear hK K
                          try simp only [Act.put, List.setIfInBounds_toArray, List.set_cons_zero, List.set_cons_succ]
                          refine wpAnyH_ready (rs := [24]) (by kernel_rfl) (by simp) ?_
                          refine AllReadyH.cons (by simp only [List.getElem?_toArray, List.getElem?_cons_succ, List.getElem?_cons_zero]; rfl) (fun K hK => ?_) AllReadyH.nil
                          go_simp
                          go_at_call 59
                          refine (HFo.out _ HB3.out.1).mono ?_
                          rintro e w4 ⟨rfl, hb⟩
                          have rbw : Below w3.heap.size w3 w4 := hb
                          have hS2 : w4.cell? ⟨w.heap.size, 0, none⟩ = some (.slice c0 t.net.stops.length d0) ∧ w4.cell? ⟨w.heap.size, 1, none⟩ = some (.slice c1 t.net.lines.length d1) ∧ w4.cell? ⟨w.heap.size, 2, none⟩ = some (.slice c2 t.trips.length d2) ∧ w4.cell? ⟨w.heap.size + 1, 0, none⟩ = some (.slice fa f.dead.length fc) ∧ w4.cell? ⟨w.heap.size + 1, 1, none⟩ = some (.int .i64 f.turn) ∧ w4.cell? ⟨vb, vo + i, none⟩ = some (.slice (some ⟨rb, ro, none⟩) bs[i].length rc) ∧ w4.cell? ⟨rb, ro + m, none⟩ = some (.int .i64 idp) := ⟨bkeep rbw p0, bkeep rbw p1, bkeep rbw p2, bkeep rbw q0, bkeep rbw q1, bkeep rbw yI, bkeep rbw zP⟩
                          have HB4 : Hid (Below w.heap.size w w4 ∧ w.heap.size + 2 ≤ w4.heap.size) := ⟨HB3.out.1.trans (rbw.mono HB3.out.1.size), Nat.le_trans HB3.out.2 rbw.size⟩
                          have HO4 := Lib.hid (own_later HO3.out rbw)
                          clear hb rbw
                          go_wp2_with fail
                          refine hK.out _ _ hS2 (fun hH24 => ?_)
                          obtain ⟨p0, p1, p2, q0, q1, yI, zP⟩ := hS2
                          clear hK K
                          try simp only [Act.put, List.setIfInBounds_toArray, List.set_cons_zero, List.set_cons_succ]
                          refine wpAnyH_take (i := 25) (v := ?_) (by simp only [List.getElem?_toArray, List.getElem?_cons_succ, List.getElem?_cons_zero]; rfl) (by kernel_rfl) (by kernel_rfl) (by kernel_rfl) (by exact fun _ _ _ h => h) (Or.inl ⟨by rfl, ?_⟩) (by assumption) ?_
                          rotate_left
                          · intro w' hSw; obtain ⟨e0, e1, e2, e3, e4, e5, e6⟩ := hSw
                            go_simp; try with_reducible rfl
                          try simp only [Act.put, List.setIfInBounds_toArray, List.set_cons_zero, List.set_cons_succ]
                          refine wpAnyH_take (i := 26) (v := ?_) (by simp only [List.getElem?_toArray, List.getElem?_cons_succ, List.getElem?_cons_zero]; rfl) (by kernel_rfl) (by kernel_rfl) (by kernel_rfl) (by exact fun _ _ _ h => h) (Or.inl ⟨by rfl, ?_⟩) (by assumption) ?_
                          rotate_left
                          · intro w' hSw; obtain ⟨e0, e1, e2, e3, e4, e5, e6⟩ := hSw
                            go_simp; try with_reducible rfl
                          try simp only [Act.put, List.setIfInBounds_toArray, List.set_cons_zero, List.set_cons_succ]
                          refine wpAnyH_take (i := 27) (v := ?_) (by simp only [List.getElem?_toArray, List.getElem?_cons_succ, List.getElem?_cons_zero]; rfl) (by kernel_rfl) (by kernel_rfl) (by kernel_rfl) (by exact fun _ _ _ h => h) (Or.inl ⟨by rfl, ?_⟩) (by assumption) ?_
                          rotate_left
                          · intro w' hSw; obtain ⟨e0, e1, e2, e3, e4, e5, e6⟩ := hSw
                            go_simp; try with_reducible rfl
                          try simp only [Act.put, List.setIfInBounds_toArray, List.set_cons_zero, List.set_cons_succ]
                          refine wpAnyH_done (by kernel_rfl) ?_ _
                          go_wp2_with fail
                          go_ret
                          exact ⟨by rw [HF.out]; rfl, HB4.out.1⟩
                        · have HId := Lib.hid (HIdM2.out rfl)
                          go_upto_region 11 with fail
                          refine wp_region_held_drew (S := (fun w' => w'.cell? ⟨w.heap.size, 0, none⟩ = some (.slice c0 t.net.stops.length d0) ∧ w'.cell? ⟨w.heap.size, 1, none⟩ = some (.slice c1 t.net.lines.length d1) ∧ w'.cell? ⟨w.heap.size, 2, none⟩ = some (.slice c2 t.trips.length d2) ∧ w'.cell? ⟨w.heap.size + 1, 0, none⟩ = some (.slice fa f.dead.length fc) ∧ w'.cell? ⟨w.heap.size + 1, 1, none⟩ = some (.int .i64 f.turn) ∧ w'.cell? ⟨vb, vo + i, none⟩ = some (.slice (some ⟨rb, ro, none⟩) bs[i].length rc) ∧ w'.cell? ⟨rb, ro + m, none⟩ = some (.int .i64 idp))) (by kernel_rfl) ?_ (fun hHeld => ?_)
                          · exact ⟨p0, p1, p2, q0, q1, yI, zP⟩
                          refine wpAnyH_take (i := 0) (v := ?_) (by simp only [List.getElem?_toArray, List.getElem?_cons_zero]; rfl) (by kernel_rfl) (by kernel_rfl) (by kernel_rfl) (by exact fun _ _ _ h => h) (Or.inl ⟨by rfl, ?_⟩) (by assumption) ?_
                          rotate_left
                          · intro w' hSw; obtain ⟨e0, e1, e2, e3, e4, e5, e6⟩ := hSw
                            go_simp; try with_reducible rfl
                          try simp only [Act.put, List.setIfInBounds_toArray, List.set_cons_zero, List.set_cons_succ]
                          refine wpAnyH_take (i := 1) (v := ?_) (by simp only [List.getElem?_toArray, List.getElem?_cons_succ, List.getElem?_cons_zero]; rfl) (by kernel_rfl) (by kernel_rfl) (by kernel_rfl) (by exact fun _ _ _ h => h) (Or.inl ⟨by rfl, ?_⟩) (by assumption) ?_
                          rotate_left
                          · intro w' hSw; obtain ⟨e0, e1, e2, e3, e4, e5, e6⟩ := hSw
                            go_simp; try with_reducible rfl
                          try simp only [Act.put, List.setIfInBounds_toArray, List.set_cons_zero, List.set_cons_succ]
                          refine wpAnyH_take (i := 2) (v := ?_) (by simp only [List.getElem?_toArray, List.getElem?_cons_succ, List.getElem?_cons_zero]; rfl) (by kernel_rfl) (by kernel_rfl) (by kernel_rfl) (by exact fun _ _ _ h => h) (Or.inl ⟨by rfl, ?_⟩) (by assumption) ?_
                          rotate_left
                          · intro w' hSw; obtain ⟨e0, e1, e2, e3, e4, e5, e6⟩ := hSw
                            go_simp; try with_reducible rfl
                          try simp only [Act.put, List.setIfInBounds_toArray, List.set_cons_zero, List.set_cons_succ]
                          refine wpAnyH_take (i := 3) (v := ?_) (by simp only [List.getElem?_toArray, List.getElem?_cons_succ, List.getElem?_cons_zero]; rfl) (by kernel_rfl) (by kernel_rfl) (by kernel_rfl) (by exact fun _ _ _ h => h) (Or.inl ⟨by rfl, ?_⟩) (by assumption) ?_
                          rotate_left
                          · intro w' hSw; obtain ⟨e0, e1, e2, e3, e4, e5, e6⟩ := hSw
                            go_simp; try with_reducible rfl
                          try simp only [Act.put, List.setIfInBounds_toArray, List.set_cons_zero, List.set_cons_succ]
                          refine wpAnyH_take (i := 4) (v := ?_) (by simp only [List.getElem?_toArray, List.getElem?_cons_succ, List.getElem?_cons_zero]; rfl) (by kernel_rfl) (by kernel_rfl) (by kernel_rfl) (by exact fun _ _ _ h => h) (Or.inl ⟨by rfl, ?_⟩) (by assumption) ?_
                          rotate_left
                          · intro w' hSw; obtain ⟨e0, e1, e2, e3, e4, e5, e6⟩ := hSw
                            go_simp; try with_reducible rfl
                          try simp only [Act.put, List.setIfInBounds_toArray, List.set_cons_zero, List.set_cons_succ]
                          refine wpAnyH_ready (rs := [5]) (by kernel_rfl) (by simp) ?_
                          refine AllReadyH.cons (by simp only [List.getElem?_toArray, List.getElem?_cons_succ, List.getElem?_cons_zero]; rfl) (fun K hK => ?_) AllReadyH.nil
                          go_simp
                          go_at_call 102
                          refine (belQ (HH.out _ _ (rowAt_own (own_later HO1.out (Below.refl _ _).drew)))).mono ?_
                          rintro e w2 ⟨rfl, hb⟩
                          have rbw : Below w1.heap.size w1 w2 := (Below.refl _ _).drew.trans hb
                          have hS2 : w2.cell? ⟨w.heap.size, 0, none⟩ = some (.slice c0 t.net.stops.length d0) ∧ w2.cell? ⟨w.heap.size, 1, none⟩ = some (.slice c1 t.net.lines.length d1) ∧ w2.cell? ⟨w.heap.size, 2, none⟩ = some (.slice c2 t.trips.length d2) ∧ w2.cell? ⟨w.heap.size + 1, 0, none⟩ = some (.slice fa f.dead.length fc) ∧ w2.cell? ⟨w.heap.size + 1, 1, none⟩ = some (.int .i64 f.turn) ∧ w2.cell? ⟨vb, vo + i, none⟩ = some (.slice (some ⟨rb, ro, none⟩) bs[i].length rc) ∧ w2.cell? ⟨rb, ro + m, none⟩ = some (.int .i64 idp) := ⟨bkeep rbw p0, bkeep rbw p1, bkeep rbw p2, bkeep rbw q0, bkeep rbw q1, bkeep rbw yI, bkeep rbw zP⟩
                          have HB2 : Hid (Below w.heap.size w w2 ∧ w.heap.size + 2 ≤ w2.heap.size) := ⟨HB1.out.1.trans (rbw.mono HB1.out.1.size), Nat.le_trans HB1.out.2 rbw.size⟩
                          have HO2 := Lib.hid (own_later HO1.out rbw)
                          clear hb rbw
                          go_wp2_with fail
                          refine hK.out _ _ hS2 (fun hH5 => ?_)
                          obtain ⟨p0, p1, p2, q0, q1, yI, zP⟩ := hS2
                          clear hK K
                          try simp only [Act.put, List.setIfInBounds_toArray, List.set_cons_zero, List.set_cons_succ]
                          refine wpAnyH_take (i := 6) (v := ?_) (by simp only [List.getElem?_toArray, List.getElem?_cons_succ, List.getElem?_cons_zero]; rfl) (by kernel_rfl) (by kernel_rfl) (by kernel_rfl) (by exact fun _ _ _ h => h) (Or.inl ⟨by rfl, ?_⟩) (by assumption) ?_
                          rotate_left
                          · intro w' hSw; obtain ⟨e0, e1, e2, e3, e4, e5, e6⟩ := hSw
                            go_simp; try with_reducible rfl
                          try simp only [Act.put, List.setIfInBounds_toArray, List.set_cons_zero, List.set_cons_succ]
                          refine wpAnyH_take (i := 7) (v := ?_) (by simp only [List.getElem?_toArray, List.getElem?_cons_succ, List.getElem?_cons_zero]; rfl) (by kernel_rfl) (by kernel_rfl) (by kernel_rfl) (by exact fun _ _ _ h => h) (Or.inl ⟨by rfl, ?_⟩) (by assumption) ?_
                          rotate_left
                          · intro w' hSw; obtain ⟨e0, e1, e2, e3, e4, e5, e6⟩ := hSw
                            go_simp; try with_reducible rfl
                          try simp only [Act.put, List.setIfInBounds_toArray, List.set_cons_zero, List.set_cons_succ]
                          refine wpAnyH_take (i := 8) (v := ?_) (by simp only [List.getElem?_toArray, List.getElem?_cons_succ, List.getElem?_cons_zero]; rfl) (by kernel_rfl) (by kernel_rfl) (by kernel_rfl) (by exact fun _ _ _ h => h) (Or.inl ⟨by rfl, ?_⟩) (by assumption) ?_
                          rotate_left
                          · intro w' hSw; obtain ⟨e0, e1, e2, e3, e4, e5, e6⟩ := hSw
                            go_simp; try with_reducible rfl
                          try simp only [Act.put, List.setIfInBounds_toArray, List.set_cons_zero, List.set_cons_succ]
                          refine wpAnyH_take (i := 9) (v := ?_) (by simp only [List.getElem?_toArray, List.getElem?_cons_succ, List.getElem?_cons_zero]; rfl) (by kernel_rfl) (by kernel_rfl) (by kernel_rfl) (by exact fun _ _ _ h => h) (Or.inl ⟨by rfl, ?_⟩) (by assumption) ?_
                          rotate_left
                          · intro w' hSw; obtain ⟨e0, e1, e2, e3, e4, e5, e6⟩ := hSw
                            go_simp; try with_reducible rfl
                          try simp only [Act.put, List.setIfInBounds_toArray, List.set_cons_zero, List.set_cons_succ]
                          refine wpAnyH_take (i := 10) (v := ?_) (by simp only [List.getElem?_toArray, List.getElem?_cons_succ, List.getElem?_cons_zero]; rfl) (by kernel_rfl) (by kernel_rfl) (by kernel_rfl) (by exact fun _ _ _ h => h) (Or.inl ⟨by rfl, ?_⟩) (by assumption) ?_
                          rotate_left
                          · intro w' hSw; obtain ⟨e0, e1, e2, e3, e4, e5, e6⟩ := hSw
                            go_simp; try with_reducible rfl
                          try simp only [Act.put, List.setIfInBounds_toArray, List.set_cons_zero, List.set_cons_succ]
                          refine wpAnyH_take (i := 11) (v := ?_) (by simp only [List.getElem?_toArray, List.getElem?_cons_succ, List.getElem?_cons_zero]; rfl) (by kernel_rfl) (by kernel_rfl) (by kernel_rfl) (by exact fun _ _ _ h => h) (Or.inl ⟨by rfl, ?_⟩) (by assumption) ?_
                          rotate_left
                          · intro w' hSw; obtain ⟨e0, e1, e2, e3, e4, e5, e6⟩ := hSw
                            go_simp; try with_reducible rfl
                          try simp only [Act.put, List.setIfInBounds_toArray, List.set_cons_zero, List.set_cons_succ]
                          refine wpAnyH_take (i := 12) (v := ?_) (by simp only [List.getElem?_toArray, List.getElem?_cons_succ, List.getElem?_cons_zero]; rfl) (by kernel_rfl) (by kernel_rfl) (by kernel_rfl) (by exact fun _ _ _ h => h) (Or.inl ⟨by rfl, ?_⟩) (by assumption) ?_
                          rotate_left
                          · intro w' hSw; obtain ⟨e0, e1, e2, e3, e4, e5, e6⟩ := hSw
                            go_simp; try with_reducible rfl
                          try simp only [Act.put, List.setIfInBounds_toArray, List.set_cons_zero, List.set_cons_succ]
                          refine wpAnyH_take (i := 13) (v := ?_) (by simp only [List.getElem?_toArray, List.getElem?_cons_succ, List.getElem?_cons_zero]; rfl) (by kernel_rfl) (by kernel_rfl) (by kernel_rfl) (by exact fun _ _ _ h => h) (Or.inl ⟨by rfl, ?_⟩) (by assumption) ?_
                          rotate_left
                          · intro w' hSw; obtain ⟨e0, e1, e2, e3, e4, e5, e6⟩ := hSw
                            go_simp; try with_reducible rfl
                          try simp only [Act.put, List.setIfInBounds_toArray, List.set_cons_zero, List.set_cons_succ]
                          refine wpAnyH_take (i := 14) (v := ?_) (by simp only [List.getElem?_toArray, List.getElem?_cons_succ, List.getElem?_cons_zero]; rfl) (by kernel_rfl) (by kernel_rfl) (by kernel_rfl) (by exact fun _ _ _ h => h) (Or.inl ⟨by rfl, ?_⟩) (by assumption) ?_
                          rotate_left
                          · intro w' hSw; obtain ⟨e0, e1, e2, e3, e4, e5, e6⟩ := hSw
                            go_simp; try with_reducible rfl
                          try simp only [Act.put, List.setIfInBounds_toArray, List.set_cons_zero, List.set_cons_succ]
                          refine wpAnyH_take (i := 15) (v := ?_) (by simp only [List.getElem?_toArray, List.getElem?_cons_succ, List.getElem?_cons_zero]; rfl) (by kernel_rfl) (by kernel_rfl) (by kernel_rfl) (by exact fun _ _ _ h => h) (Or.inl ⟨by rfl, ?_⟩) (by assumption) ?_
                          rotate_left
                          · intro w' hSw; obtain ⟨e0, e1, e2, e3, e4, e5, e6⟩ := hSw
                            go_simp; try with_reducible rfl
                          try simp only [Act.put, List.setIfInBounds_toArray, List.set_cons_zero, List.set_cons_succ]
                          refine wpAnyH_take (i := 16) (v := ?_) (by simp only [List.getElem?_toArray, List.getElem?_cons_succ, List.getElem?_cons_zero]; rfl) (by kernel_rfl) (by kernel_rfl) (by kernel_rfl) (by exact fun _ _ _ h => h) (Or.inl ⟨by rfl, ?_⟩) (by assumption) ?_
                          rotate_left
                          · intro w' hSw; obtain ⟨e0, e1, e2, e3, e4, e5, e6⟩ := hSw
                            go_simp; try with_reducible rfl
                          try simp only [Act.put, List.setIfInBounds_toArray, List.set_cons_zero, List.set_cons_succ]
                          refine wpAnyH_take (i := 17) (v := ?_) (by simp only [List.getElem?_toArray, List.getElem?_cons_succ, List.getElem?_cons_zero]; rfl) (by kernel_rfl) (by kernel_rfl) (by kernel_rfl) (by exact fun _ _ _ h => h) (Or.inl ⟨by rfl, ?_⟩) (by assumption) ?_
                          rotate_left
                          · intro w' hSw; obtain ⟨e0, e1, e2, e3, e4, e5, e6⟩ := hSw
                            go_simp; try with_reducible rfl
                          try simp only [Act.put, List.setIfInBounds_toArray, List.set_cons_zero, List.set_cons_succ]
                          refine wpAnyH_take (i := 18) (v := ?_) (by simp only [List.getElem?_toArray, List.getElem?_cons_succ, List.getElem?_cons_zero]; rfl) (by kernel_rfl) (by kernel_rfl) (by kernel_rfl) (by exact fun _ _ _ h => h) (Or.inl ⟨by rfl, ?_⟩) (by assumption) ?_
                          rotate_left
                          · intro w' hSw; obtain ⟨e0, e1, e2, e3, e4, e5, e6⟩ := hSw
                            go_simp; try with_reducible rfl
                          try simp only [Act.put, List.setIfInBounds_toArray, List.set_cons_zero, List.set_cons_succ]
                          refine wpAnyH_take (i := 19) (v := ?_) (by simp only [List.getElem?_toArray, List.getElem?_cons_succ, List.getElem?_cons_zero]; rfl) (by kernel_rfl) (by kernel_rfl) (by kernel_rfl) (by exact fun _ _ _ h => h) (Or.inl ⟨by rfl, ?_⟩) (by assumption) ?_
                          rotate_left
                          · intro w' hSw; obtain ⟨e0, e1, e2, e3, e4, e5, e6⟩ := hSw
                            go_simp; try with_reducible rfl
                          try simp only [Act.put, List.setIfInBounds_toArray, List.set_cons_zero, List.set_cons_succ]
                          refine wpAnyH_take (i := 20) (v := ?_) (by simp only [List.getElem?_toArray, List.getElem?_cons_succ, List.getElem?_cons_zero]; rfl) (by kernel_rfl) (by kernel_rfl) (by kernel_rfl) (by exact fun _ _ _ h => h) (Or.inl ⟨by rfl, ?_⟩) (by assumption) ?_
                          rotate_left
                          · intro w' hSw; obtain ⟨e0, e1, e2, e3, e4, e5, e6⟩ := hSw
                            go_simp; try with_reducible rfl
                          try simp only [Act.put, List.setIfInBounds_toArray, List.set_cons_zero, List.set_cons_succ]
                          refine wpAnyH_take (i := 21) (v := ?_) (by simp only [List.getElem?_toArray, List.getElem?_cons_succ, List.getElem?_cons_zero]; rfl) (by kernel_rfl) (by kernel_rfl) (by kernel_rfl) (by exact fun _ _ _ h => h) (Or.inl ⟨by rfl, ?_⟩) (by assumption) ?_
                          rotate_left
                          · intro w' hSw; obtain ⟨e0, e1, e2, e3, e4, e5, e6⟩ := hSw
                            go_simp; try with_reducible rfl
                          try simp only [Act.put, List.setIfInBounds_toArray, List.set_cons_zero, List.set_cons_succ]
                          refine wpAnyH_take (i := 23) (v := ?_) (by simp only [List.getElem?_toArray, List.getElem?_cons_succ, List.getElem?_cons_zero]; rfl) (by kernel_rfl) (by kernel_rfl) (by kernel_rfl) (by exact fun _ _ _ h => h) (Or.inl ⟨by rfl, ?_⟩) (by assumption) ?_
                          rotate_left
                          · intro w' hSw; obtain ⟨e0, e1, e2, e3, e4, e5, e6⟩ := hSw
                            go_simp; try with_reducible rfl
                          try simp only [Act.put, List.setIfInBounds_toArray, List.set_cons_zero, List.set_cons_succ]
                          refine wpAnyH_ready (rs := [22]) (by kernel_rfl) (by simp) ?_
                          refine AllReadyH.cons (by simp only [List.getElem?_toArray, List.getElem?_cons_succ, List.getElem?_cons_zero]; rfl) (fun K hK => ?_) AllReadyH.nil
                          go_simp
                          go_at_call 57
                          refine (HF2.out _ HB2.out.1).mono ?_
                          rintro e w3 ⟨rfl, hb⟩
                          have rbw : Below w2.heap.size w2 w3 := hb
                          have hS2 : w3.cell? ⟨w.heap.size, 0, none⟩ = some (.slice c0 t.net.stops.length d0) ∧ w3.cell? ⟨w.heap.size, 1, none⟩ = some (.slice c1 t.net.lines.length d1) ∧ w3.cell? ⟨w.heap.size, 2, none⟩ = some (.slice c2 t.trips.length d2) ∧ w3.cell? ⟨w.heap.size + 1, 0, none⟩ = some (.slice fa f.dead.length fc) ∧ w3.cell? ⟨w.heap.size + 1, 1, none⟩ = some (.int .i64 f.turn) ∧ w3.cell? ⟨vb, vo + i, none⟩ = some (.slice (some ⟨rb, ro, none⟩) bs[i].length rc) ∧ w3.cell? ⟨rb, ro + m, none⟩ = some (.int .i64 idp) := ⟨bkeep rbw p0, bkeep rbw p1, bkeep rbw p2, bkeep rbw q0, bkeep rbw q1, bkeep rbw yI, bkeep rbw zP⟩
                          have HB3 : Hid (Below w.heap.size w w3 ∧ w.heap.size + 2 ≤ w3.heap.size) := ⟨HB2.out.1.trans (rbw.mono HB2.out.1.size), Nat.le_trans HB2.out.2 rbw.size⟩
                          have HO3 := Lib.hid (own_later HO2.out rbw)
                          clear hb rbw
                          go_wp2_with fail
                          refine hK.out _ _ hS2 (fun hH22 => ?_)
                          obtain ⟨p0, p1, p2, q0, q1, yI, zP⟩ := hS2
                          clear hK K
                          try simp only [Act.put, List.setIfInBounds_toArray, List.set_cons_zero, List.set_cons_succ]
                          refine wpAnyH_ready (rs := [24]) (by kernel_rfl) (by simp) ?_
                          refine AllReadyH.cons (by simp only [List.getElem?_toArray, List.getElem?_cons_succ, List.getElem?_cons_zero]; rfl) (fun K hK => ?_) AllReadyH.nil
                          go_simp
                          go_at_call 59
                          refine (HFo.out _ HB3.out.1).mono ?_
                          rintro e w4 ⟨rfl, hb⟩
                          have rbw : Below w3.heap.size w3 w4 := hb
                          have hS2 : w4.cell? ⟨w.heap.size, 0, none⟩ = some (.slice c0 t.net.stops.length d0) ∧ w4.cell? ⟨w.heap.size, 1, none⟩ = some (.slice c1 t.net.lines.length d1) ∧ w4.cell? ⟨w.heap.size, 2, none⟩ = some (.slice c2 t.trips.length d2) ∧ w4.cell? ⟨w.heap.size + 1, 0, none⟩ = some (.slice fa f.dead.length fc) ∧ w4.cell? ⟨w.heap.size + 1, 1, none⟩ = some (.int .i64 f.turn) ∧ w4.cell? ⟨vb, vo + i, none⟩ = some (.slice (some ⟨rb, ro, none⟩) bs[i].length rc) ∧ w4.cell? ⟨rb, ro + m, none⟩ = some (.int .i64 idp) := ⟨bkeep rbw p0, bkeep rbw p1, bkeep rbw p2, bkeep rbw q0, bkeep rbw q1, bkeep rbw yI, bkeep rbw zP⟩
                          have HB4 : Hid (Below w.heap.size w w4 ∧ w.heap.size + 2 ≤ w4.heap.size) := ⟨HB3.out.1.trans (rbw.mono HB3.out.1.size), Nat.le_trans HB3.out.2 rbw.size⟩
                          have HO4 := Lib.hid (own_later HO3.out rbw)
                          clear hb rbw
                          go_wp2_with fail
                          refine hK.out _ _ hS2 (fun hH24 => ?_)
                          obtain ⟨p0, p1, p2, q0, q1, yI, zP⟩ := hS2
                          clear hK K
                          try simp only [Act.put, List.setIfInBounds_toArray, List.set_cons_zero, List.set_cons_succ]
                          refine wpAnyH_take (i := 25) (v := ?_) (by simp only [List.getElem?_toArray, List.getElem?_cons_succ, List.getElem?_cons_zero]; rfl) (by kernel_rfl) (by kernel_rfl) (by kernel_rfl) (by exact fun _ _ _ h => h) (Or.inl ⟨by rfl, ?_⟩) (by assumption) ?_
                          rotate_left
                          · intro w' hSw; obtain ⟨e0, e1, e2, e3, e4, e5, e6⟩ := hSw
                            go_simp; try with_reducible rfl
                          try simp only [Act.put, List.setIfInBounds_toArray, List.set_cons_zero, List.set_cons_succ]
                          refine wpAnyH_take (i := 26) (v := ?_) (by simp only [List.getElem?_toArray, List.getElem?_cons_succ, List.getElem?_cons_zero]; rfl) (by kernel_rfl) (by kernel_rfl) (by kernel_rfl) (by exact fun _ _ _ h => h) (Or.inl ⟨by rfl, ?_⟩) (by assumption) ?_
                          rotate_left
                          · intro w' hSw; obtain ⟨e0, e1, e2, e3, e4, e5, e6⟩ := hSw
                            go_simp; try with_reducible rfl
                          try simp only [Act.put, List.setIfInBounds_toArray, List.set_cons_zero, List.set_cons_succ]
                          refine wpAnyH_take (i := 27) (v := ?_) (by simp only [List.getElem?_toArray, List.getElem?_cons_succ, List.getElem?_cons_zero]; rfl) (by kernel_rfl) (by kernel_rfl) (by kernel_rfl) (by exact fun _ _ _ h => h) (Or.inl ⟨by rfl, ?_⟩) (by assumption) ?_
                          rotate_left
                          · intro w' hSw; obtain ⟨e0, e1, e2, e3, e4, e5, e6⟩ := hSw
                            go_simp; try with_reducible rfl
                          try simp only [Act.put, List.setIfInBounds_toArray, List.set_cons_zero, List.set_cons_succ]
                          refine wpAnyH_done (by kernel_rfl) ?_ _
                          clear HFd HF1
                          try clear hk0i hk0n hk0d
                          have hzn := HB4.out.2
                          go_wp2_with (at_builtin; refine wpList_append_own _ rfl _ _ 80 rfl (w.heap.size + 2) 3 i0 (.int .i64 0) 1 8 Try.underlying80 hi0 iz0 iz1 iz2 rfl (by decide) _ _ _ rfl (HO4.out.alloc _) ⟨w4.heap.size, 0, none⟩ 1 1 [.int .i64 ((p : Nat) : Int)] rfl rfl ?c1 ?c2 ?c3 ?c4 ?c5 ?_)
                          case c1 => exact one_new _ _
                          case c2 => intro u hu; simp at hu; subst hu; rfl
                          case c3 => unfold maxLen; omega
                          case c4 => omega
                          case c5 => simp; omega
                          intro v' w5 hown' hgrow _
                          have hown0 := HO4.out
                          have HB5 : Hid (Below w.heap.size w w5 ∧ w.heap.size + 2 ≤ w5.heap.size) := ⟨(HB4.out.1.alloc (by omega) _).grown hgrow (by simp; omega) (fun g hg => by have := (hown0.lt g hg).1; omega), by have := hgrow.size; simp at this; omega⟩
                          have hb6 : Below (w.heap.size + 2) (w4.alloc (.cells #[.int .i64 ((p : Nat) : Int)] 3)) w5 := (Below.refl _ _).grown hgrow (by simp; omega) (fun g hg => (hown0.lt g hg).1)
                          have p0 : w5.cell? ⟨w.heap.size, 0, none⟩ = some (.slice c0 t.net.stops.length d0) := by rw [hb6.cell (p := ⟨w.heap.size, 0, none⟩) (by dsimp only; omega)]; exact acell p0 _
                          have p1 : w5.cell? ⟨w.heap.size, 1, none⟩ = some (.slice c1 t.net.lines.length d1) := by rw [hb6.cell (p := ⟨w.heap.size, 1, none⟩) (by dsimp only; omega)]; exact acell p1 _
                          have p2 : w5.cell? ⟨w.heap.size, 2, none⟩ = some (.slice c2 t.trips.length d2) := by rw [hb6.cell (p := ⟨w.heap.size, 2, none⟩) (by dsimp only; omega)]; exact acell p2 _
                          have q0 : w5.cell? ⟨w.heap.size + 1, 0, none⟩ = some (.slice fa f.dead.length fc) := by rw [hb6.cell (p := ⟨w.heap.size + 1, 0, none⟩) (by dsimp only; omega)]; exact acell q0 _
                          have q1 : w5.cell? ⟨w.heap.size + 1, 1, none⟩ = some (.int .i64 f.turn) := by rw [hb6.cell (p := ⟨w.heap.size + 1, 1, none⟩) (by dsimp only; omega)]; exact acell q1 _
                          have HOn : Hid (w5.ownsRow (w.heap.size + 2) 3 1 v' (seenT t bs i ((m + 1) + 1)).length (sI (seenT t bs i ((m + 1) + 1)))) := by
                            show World.ownsRow _ _ _ _ _ _ _
                            rw [HRw.out, sI_snoc, List.length_append]
                            exact hown'
                          have HTb2 := Lib.hid (blkTo_succ hkl HTb.out HId.out)
                          clear hown' hgrow hown0 hb6
                          obtain ⟨a6, c6, rfl⟩ := own_shape HOn.out
                          go_wp2_with fail
                          go_roundw
                          case rel => exact ⟨(m + 1) + 1, by omega, by go_num, HTb2, HN3, HOn, p0, p1, p2, q0, q1, HB5⟩
                          case measure => simp [RowKit.intOf]; omega
                · have hkE : k = bs[i].length := by omega
                  subst hkE
                  have HTo2 := Lib.hid (blksTo_succ hlt HTo.out ⟨⟨fun e => by rw [e] at hpos; simp at hpos, HTb.out⟩, HHd.out⟩)
                  have hNx := HNk.out
                  have hOx := HOk.out
                  rw [seen_next hlt] at hNx hOx
                  have HNx := Lib.hid hNx
                  have HOx := Lib.hid hOx
                  have hsl : (seenT t bs i bs[i].length).length = (seenT t bs (i + 1) 0).length := by rw [seen_next hlt]
                  rw [hsl]
                  obtain ⟨yI, -⟩ := HY.out _ HB.out.1
                  clear HNk HOk hNx hOx hsl
                  go_wp2_with fail
                  refine ⟨⟨i + 1, by omega, by go_num, HTo2, HNx, HOx, p0, p1, p2, q0, q1, HB⟩, ?_⟩
                  simp [RowKit.intOf]; omega
    · obtain rfl : i = bs.length := by omega
      have hnd := HNd.out
      have hL : ∀ x ∈ seenT t bs bs.length 0, x < t.trips.length := seen_lt HTo.out (Nat.le_refl _)
      have hcnt := nodup_len (A := seenT t bs bs.length 0) (B := List.range t.trips.length) hnd (fun x hx => List.mem_range.2 (hL x hx))
      simp only [List.length_range] at hcnt
      have HR : Hid (blksB t f bs = decide (((seenT t bs bs.length 0).length : Int) = (t.trips.length : Int))) := by
        show _ = _
        by_cases c : (seenT t bs bs.length 0).length = t.trips.length
        · rw [blksB_yes ⟨HTo.out, by rw [← seen_end]; exact hnd, by rw [← seen_end]; exact c⟩, decide_eq_true (by omega)]
        · rw [blksB_no (fun g => c (by rw [seen_end]; exact g.2.2)), decide_eq_false (by omega)]
      clear hnd hL
      generalize hn : (seenT t bs bs.length 0).length = n at *
      clear hn
      go_wp2_with fail
      go_ret
      exact ⟨by rw [HR.out]; exact ret_bool (by first | rfl | simp [beq_eq_decide]), HB.out.1⟩
end Go.Proofs.Ytehpeifaknbcnaa
