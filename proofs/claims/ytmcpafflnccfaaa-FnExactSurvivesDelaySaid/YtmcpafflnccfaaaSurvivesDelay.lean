/-
  CONTRACTS of impl.delayedLegs, impl.SurvivesDelay, spec.SurvivesDelay; both sides.
-/
import Derived.Test.YtmcpafflnccfaaaJourneyTimes
import Derived.Test.YtmcpafflnccfaaaStepRun
import Derived.Test.YtmcpafflnccfaaaCloneLay
import Derived.Test.YtmcpafflnccfaaaLegX
namespace Go.Proofs.Ytmcpafflnccfaaa
open Go.RowKit Go.Maps Jrn Go.Shelf
set_option linter.unusedVariables false
set_option linter.unusedSimpArgs false

/-- a leg with its trip late -/
def lateL (trip mins : Int) (l : LegD) : LegD := ⟨l.trip, l.frm, l.dst, if l.trip = trip then l.dep + mins else l.dep, if l.trip = trip then l.arr + mins else l.arr⟩
theorem late_arr (trip mins : Int) (l : LegD) : (lateL trip mins l).arr = if l.trip = trip then l.arr + mins else l.arr := rfl
theorem late_dep (trip mins : Int) (l : LegD) : (lateL trip mins l).dep = if l.trip = trip then l.dep + mins else l.dep := rfl
/-- the first k changes hold -/
def svT (cs : List LegD) (ch trip mins : Int) : Nat → Bool
  | 0 => true
  | k + 1 => svT cs ch trip mins k && (if h : k + 1 < cs.length then decide ((lateL trip mins (cs[k]'(by omega))).arr + ch ≤ (lateL trip mins cs[k + 1]).dep) else true)
theorem svT_succ {cs : List LegD} {ch trip mins : Int} {k : Nat} (h : k + 1 < cs.length) : svT cs ch trip mins (k + 1) = (svT cs ch trip mins k && decide ((lateL trip mins (cs[k]'(by omega))).arr + ch ≤ (lateL trip mins cs[k + 1]).dep)) := by rw [svT, dif_pos h]
theorem svT_stop {cs : List LegD} {ch trip mins : Int} {k : Nat} (h : svT cs ch trip mins k = false) : ∀ n, k ≤ n → svT cs ch trip mins n = false
  | 0, hn => by obtain rfl : k = 0 := by omega
                exact h
  | n + 1, hn => by
    by_cases e : k = n + 1
    · subst e; exact h
    · rw [svT, svT_stop h n (by omega), Bool.false_and]
noncomputable def sdB (t : TTD) (ch : Int) (cs : List LegD) (trip mins : Int) : Bool := ansJ t ch cs && (foundB trip t.trips && decide (0 ≤ mins ∧ mins ≤ 240))
noncomputable def sdF (t : TTD) (ch : Int) (cs : List LegD) (trip mins : Int) : Bool := sdB t ch cs trip mins && svT cs ch trip mins (cs.length - 1)
/-- the first k legs late -/
def ltT (cs : List LegD) (trip mins : Int) (k : Nat) : List LegD := (cs.take k).map (lateL trip mins) ++ cs.drop k
theorem ltT_len (cs : List LegD) (trip mins : Int) (k : Nat) : (ltT cs trip mins k).length = cs.length := by simp [ltT]; omega
theorem ltT_at (cs : List LegD) (trip mins : Int) (k : Nat) (hk : k < cs.length) (h : k < (ltT cs trip mins k).length) : (ltT cs trip mins k)[k] = cs[k] := by
  have e : (ltT cs trip mins k)[k]? = some cs[k] := by
    unfold ltT
    rw [List.getElem?_append_right (by simp; omega)]
    simp [Nat.min_eq_left (Nat.le_of_lt hk), hk]
  exact (List.getElem?_eq_some_iff.1 e).2
theorem ltT_succ (cs : List LegD) (trip mins : Int) (k : Nat) (hk : k < cs.length) : (ltT cs trip mins k).set k (lateL trip mins cs[k]) = ltT cs trip mins (k + 1) := by
  unfold ltT
  rw [List.set_append_right _ _ (by simp; omega), List.take_succ_eq_append_getElem hk, List.map_append, List.append_assoc]
  simp [Nat.min_eq_left (Nat.le_of_lt hk)]
  rw [List.drop_eq_getElem_cons hk]; rfl
theorem ltT_all (cs : List LegD) (trip mins : Int) : ltT cs trip mins cs.length = cs.map (lateL trip mins) := by simp [ltT]
theorem lateL_no {trip mins : Int} {l : LegD} (h : ¬ l.trip = trip) : lateL trip mins l = l := by unfold lateL; rw [if_neg h, if_neg h]

theorem cloneLegs_any (b off c : Nat) (xs : List LegD) (w : World) (hr : LegsAt w (.slice (some ⟨b, off, none⟩) xs.length c) xs) (h0 : 0 < xs.length) (hn : xs.length ≤ 1048576) :
    Calls Try.prog 113 #[.slice (some ⟨b, off, none⟩) xs.length c] w fun e w' => ∃ v', e = .returned v' ∧ w'.ownsRow w.heap.size 62 5 v' xs.length (legC xs) ∧ Below w.heap.size w w' := by
  obtain ⟨i0, hi, hz0, hz1, hz2⟩ := info_parts infoLeg
  obtain ⟨a', c', he, hc1, hc2, hcl⟩ := legs_open hr
  simp at he
  obtain ⟨rfl, rfl⟩ := he
  have hcell : ∀ j u, (legC xs)[j]? = some u → w.cell? ⟨b, off + j, none⟩ = some u := by
    intro j u hu
    have hj : j < xs.length * 5 := by
      by_cases h : j < xs.length * 5
      · exact h
      · rw [List.getElem?_eq_none (by rw [legC_len]; omega)] at hu; cases hu
    obtain ⟨g, go, he, -, y0, y1, y2, y3, y4⟩ := leg_at hr (j / 5) (by omega)
    simp at he
    obtain ⟨rfl, rfl⟩ := he
    have hk : j / 5 < xs.length := by omega
    have hc : j % 5 = 0 ∨ j % 5 = 1 ∨ j % 5 = 2 ∨ j % 5 = 3 ∨ j % 5 = 4 := by omega
    rcases hc with e | e | e | e | e
    · obtain ⟨k, rfl⟩ : ∃ k, j = k * 5 := ⟨j / 5, by omega⟩
      rw [show k * 5 / 5 = k by omega] at hk
      simp only [show k * 5 / 5 = k by omega] at y0
      rw [legC_get0 xs k hk] at hu; rw [← hu]; exact y0
    · obtain ⟨k, rfl⟩ : ∃ k, j = k * 5 + 1 := ⟨j / 5, by omega⟩
      rw [show (k * 5 + 1) / 5 = k by omega] at hk
      simp only [show (k * 5 + 1) / 5 = k by omega] at y1
      rw [legC_get1 xs k hk] at hu; rw [← hu, ← Nat.add_assoc]; exact y1
    · obtain ⟨k, rfl⟩ : ∃ k, j = k * 5 + 2 := ⟨j / 5, by omega⟩
      rw [show (k * 5 + 2) / 5 = k by omega] at hk
      simp only [show (k * 5 + 2) / 5 = k by omega] at y2
      rw [legC_get2 xs k hk] at hu; rw [← hu, ← Nat.add_assoc]; exact y2
    · obtain ⟨k, rfl⟩ : ∃ k, j = k * 5 + 3 := ⟨j / 5, by omega⟩
      rw [show (k * 5 + 3) / 5 = k by omega] at hk
      simp only [show (k * 5 + 3) / 5 = k by omega] at y3
      rw [legC_get3 xs k hk] at hu; rw [← hu, ← Nat.add_assoc]; exact y3
    · obtain ⟨k, rfl⟩ : ∃ k, j = k * 5 + 4 := ⟨j / 5, by omega⟩
      rw [show (k * 5 + 4) / 5 = k by omega] at hk
      simp only [show (k * 5 + 4) / 5 = k by omega] at y4
      rw [legC_get4 xs k hk] at hu; rw [← hu, ← Nat.add_assoc]; exact y4
  have h := AnyE.slices_Clone Try.cloneLeg i0 (.agg #[.int .i64 0, .int .i64 0, .int .i64 0, .int .i64 0, .int .i64 0]) 5 40 hi hz0 hz1 hz2 rfl (by decide) Try.sizeOf62 b off xs.length c (legC xs) w (legC_len xs) (by unfold maxLen; omega) (by omega) hcell (legC_cells xs)
  change Calls Try.prog 113 _ _ _ at h
  exact h.mono fun e w' ⟨v', he, ho, _, hb⟩ => ⟨v', he, ho, hb⟩

set_option maxRecDepth 100000 in
set_option maxHeartbeats 4000000 in
theorem delayedLegs_any (b off c : Nat) (cs : List LegD) (trip mins : Int) (w : World) (hr : LegsAt w (.slice (some ⟨b, off, none⟩) cs.length c) cs) (h0 : 0 < cs.length) (hn : cs.length ≤ 4) (hbd : ∀ k (hk : k < cs.length), 0 ≤ cs[k].dep ∧ cs[k].dep ≤ 2400 ∧ 0 ≤ cs[k].arr ∧ cs[k].arr ≤ 2400) (hm0 : 0 ≤ mins) (hm1 : mins ≤ 240) :
    Calls Try.prog 69 #[.slice (some ⟨b, off, none⟩) cs.length c, .int .i64 trip, .int .i64 mins] w fun e w' => ∃ g c', e = .returned (.slice (some ⟨g, 0, none⟩) cs.length c') ∧ w'.ownsRow w.heap.size 62 5 (.slice (some ⟨g, 0, none⟩) cs.length c') cs.length (legC (cs.map (lateL trip mins))) ∧ Below w.heap.size w w' := by
  have HC := Lib.hid (cloneLegs_any b off c cs w hr h0 (by omega))
  have HBd := Lib.hid hbd
  clear hr hbd
  go_enter Try.func69, Try.ntmps69
  go_wp2_with fail
  go_at_call 113
  refine HC.out.mono ?_
  rintro e w1 ⟨v', rfl, hown, hb⟩
  obtain ⟨g, c', rfl⟩ : ∃ g c', v' = .slice (some ⟨g, 0, none⟩) cs.length c' := by
    rcases hown.2 with ⟨hv, h0'⟩ | ⟨g, cap, cur, hv, _⟩
    · omega
    · exact ⟨g, cap, hv⟩
  have HO1 : Hid (w1.ownsRow w.heap.size 62 5 (.slice (some ⟨g, 0, none⟩) cs.length c') cs.length (legC (ltT cs trip mins 0))) := by
    show World.ownsRow _ _ _ _ _ _ _
    rw [show ltT cs trip mins 0 = cs by simp [ltT]]; exact hown
  have HB1 := Lib.hid hb
  have hgw : w.heap.size ≤ g := (hown.lt g rfl).1
  clear hown hb HC
  go_wp2_with fail
  go_loopw [13] (fun q wr => ∃ k : Nat, k ≤ cs.length ∧ q = .int .i64 (k : Int) ∧ Hid (wr.ownsRow w.heap.size 62 5 (.slice (some ⟨g, 0, none⟩) cs.length c') cs.length (legC (ltT cs trip mins k))) ∧ Hid (Below w.heap.size w wr)) (fun q _ => cs.length - (RowKit.intOf q).toNat)
  case atStart => exact ⟨0, by omega, by simp, HO1, HB1⟩
  case round =>
    clear HO1 HB1
    obtain ⟨k, hk, rfl, HOwn, HB⟩ := hrel
    by_cases hlt : k < cs.length
    · have hk2 : (k : Int) < (cs.length : Int) := by omega
      have hown := HOwn.out
      have hjl : k < (ltT cs trip mins k).length := by rw [ltT_len]; exact hlt
      have he := ltT_at cs trip mins k hlt hjl
      have q0 : wr.cell? ⟨g, k * 5, none⟩ = some (.int .i64 cs[k].trip) := by rw [hown.cellAt (k * 5) (by omega), legC_get0 _ k hjl, he]
      have q1 : wr.cell? ⟨g, k * 5 + 1, none⟩ = some (.int .i64 cs[k].frm) := by rw [hown.cellAt (k * 5 + 1) (by omega), legC_get1 _ k hjl, he]
      have q2 : wr.cell? ⟨g, k * 5 + 2, none⟩ = some (.int .i64 cs[k].dst) := by rw [hown.cellAt (k * 5 + 2) (by omega), legC_get2 _ k hjl, he]
      have q3 : wr.cell? ⟨g, k * 5 + 3, none⟩ = some (.int .i64 cs[k].dep) := by rw [hown.cellAt (k * 5 + 3) (by omega), legC_get3 _ k hjl, he]
      have q4 : wr.cell? ⟨g, k * 5 + 4, none⟩ = some (.int .i64 cs[k].arr) := by rw [hown.cellAt (k * 5 + 4) (by omega), legC_get4 _ k hjl, he]
      have hf := fun o => hown.frozenAt o
      have hbd := HBd.out k hlt
      by_cases ht : cs[k].trip = trip
      · have hset : legC (ltT cs trip mins (k + 1)) = (((((legC (ltT cs trip mins k)).set (k * 5) (.int .i64 cs[k].trip)).set (k * 5 + 1) (.int .i64 cs[k].frm)).set (k * 5 + 2) (.int .i64 cs[k].dst)).set (k * 5 + 3) (.int .i64 (cs[k].dep + mins))).set (k * 5 + 4) (.int .i64 (cs[k].arr + mins)) := by
          rw [← ltT_succ cs trip mins k hlt, ← legC_set _ k _ hjl]
          simp only [lateL, if_pos ht]
        have same : ∀ (o : Nat) (u : Value), (legC (ltT cs trip mins k))[o]? = some u → (legC (ltT cs trip mins k)).set o u = legC (ltT cs trip mins k) := fun o u hu => by
          refine List.ext_getElem? fun j => ?_
          rw [List.getElem?_set]
          split
          · rename_i e; subst e
            split
            · exact hu.symm
            · rename_i h1 h2; rw [List.getElem?_eq_none (by omega)] at hu; cases hu
          · rfl
        rw [same _ _ (by rw [legC_get0 _ k hjl, he]), same _ _ (by rw [legC_get1 _ k hjl, he]), same _ _ (by rw [legC_get2 _ k hjl, he])] at hset
        have HO2 : Hid (((wr.setCell ⟨g, k * 5 + 3, none⟩ (.int .i64 (cs[k].dep + mins))).setCell ⟨g, k * 5 + 4, none⟩ (.int .i64 (cs[k].arr + mins))).ownsRow w.heap.size 62 5 (.slice (some ⟨g, 0, none⟩) cs.length c') cs.length (legC (ltT cs trip mins (k + 1)))) := by
          show World.ownsRow _ _ _ _ _ _ _
          rw [hset]
          exact ((hown.stored (k * 5 + 3) (.int .i64 (cs[k].dep + mins))).1.stored (k * 5 + 4) (.int .i64 (cs[k].arr + mins))).1
        have HB2 : Hid (Below w.heap.size w ((wr.setCell ⟨g, k * 5 + 3, none⟩ (.int .i64 (cs[k].dep + mins))).setCell ⟨g, k * 5 + 4, none⟩ (.int .i64 (cs[k].arr + mins)))) := (HB.out.setCell (p := ⟨g, k * 5 + 3, none⟩) hgw _).setCell (p := ⟨g, k * 5 + 4, none⟩) hgw _
        have hb : (cs[k].trip == trip) = true := by simp [ht]
        have hw1 : IntKind.i64.wrap (cs[k].dep + mins) = cs[k].dep + mins := IntWalk.i64_in _ (by omega)
        have hw2 : IntKind.i64.wrap (cs[k].arr + mins) = cs[k].arr + mins := IntWalk.i64_in _ (by omega)
        clear hown hset same he ht HOwn HB q1 q2
        generalize cs[k].trip = xt at *
        generalize cs[k].dep = xd at *
        generalize cs[k].arr = xa at *
        go_wp2_with fail
        go_roundw
        case rel => exact ⟨k + 1, by omega, by go_num, HO2, HB2⟩
        case measure => simp [RowKit.intOf]; omega
      · have HO2 : Hid (wr.ownsRow w.heap.size 62 5 (.slice (some ⟨g, 0, none⟩) cs.length c') cs.length (legC (ltT cs trip mins (k + 1)))) := by
          show World.ownsRow _ _ _ _ _ _ _
          have : (ltT cs trip mins k).set k (lateL trip mins cs[k]) = ltT cs trip mins k := by
            rw [lateL_no ht, ← he]; exact List.set_getElem_self hjl
          rw [← ltT_succ cs trip mins k hlt, this]; exact hown
        have hb : (cs[k].trip == trip) = false := by simp [ht]
        clear hown he ht HOwn q1 q2 q3 q4
        generalize cs[k].trip = xt at *
        go_wp2_with fail
        go_roundw
        case rel => exact ⟨k + 1, by omega, by go_num, HO2, HB⟩
        case measure => simp [RowKit.intOf]; omega
    · obtain rfl : k = cs.length := by omega
      have hk2 : ¬ (cs.length : Int) < (cs.length : Int) := by omega
      rw [ltT_all] at HOwn
      go_wp2_with fail
      go_ret
      exact ⟨g, c', rfl, HOwn.out, HB.out⟩

set_option maxRecDepth 100000 in
set_option maxHeartbeats 8000000 in
theorem implSd_any (v lv : Value) (t : TTD) (ch : Int) (cs : List LegD) (trip mins : Int) (w : World) (hr : TTAt w v t) (hl : LegsAt w lv cs) (hf : TTFits t) (hs : TTSmall t) (hsl : LegsSmall cs) (hfl : LegsFit cs) :
    Calls Try.prog 23 #[v, .int .i64 ch, lv, .int .i64 trip, .int .i64 mins] w fun e w' => e = .returned (.tuple #[.bool (sdF t ch cs trip mins), .bool (sdB t ch cs trip mins)]) ∧ Below w.heap.size w w' := by
  have HV := Lib.hid (fun W (hW : Below w.heap.size w W) => implValidJ_any v lv t ch cs W (hr.below rfl hW) (hl.below rfl hW) hf hs hsl hfl)
  have HL := Lib.hid hl
  obtain ⟨a, c, a', c', b, d, rfl, hnn, htr⟩ := tt_open hr
  obtain ⟨la, lc, rfl⟩ := LegS_open hl
  have HTr := Lib.hid htr
  have hsz := hs.2
  unfold TripsSmall at hsz
  clear hr hf hl hs hnn htr
  cases hans : ansJ t ch cs with
  | false =>
    rw [hans] at HV
    have HN : Hid (sdB t ch cs trip mins = false) := by show _ = _; unfold sdB; rw [hans]; rfl
    have HQ : Hid (sdF t ch cs trip mins = false) := by show _ = _; unfold sdF; rw [HN.out]; rfl
    clear hans
    go_enter Try.func23, Try.ntmps23
    go_wp2_with fail
    go_at_call 34
    refine (HV.out _ ((Below.refl _ _).alloc (Nat.le_refl _) _)).mono ?_
    rintro e w1 ⟨rfl, hb1⟩
    have HB1 : Hid (Below w.heap.size w w1) := ((Below.refl _ _).alloc (Nat.le_refl _) _).trans (hb1.mono (by simp))
    have z0 : w1.cell? ⟨w.heap.size, 0, none⟩ = some (.slice a t.net.stops.length c) := bkeep hb1 (by go_simp)
    have z1 : w1.cell? ⟨w.heap.size, 1, none⟩ = some (.slice a' t.net.lines.length c') := bkeep hb1 (by go_simp)
    have z2 : w1.cell? ⟨w.heap.size, 2, none⟩ = some (.slice b t.trips.length d) := bkeep hb1 (by go_simp)
    clear hb1
    clear z0 z1 z2
    go_wp2_with fail
    go_ret2
    exact ⟨by first | (rw [HQ.out, HN.out]; rfl) | (rw [HQ.out, HN.out]; done), HB1.out⟩
  | true =>
    rw [hans] at HV
    obtain ⟨hg, hch, hj⟩ := ansJ_iff hans
    have hlen := hj.2.1
    obtain ⟨hc0, hc1⟩ := hch
    obtain ⟨n, hnl, hnu⟩ : ∃ n, n < cs.length ∧ cs.length < n + 2 := ⟨cs.length - 1, by have := hj.1; omega, by omega⟩
    have HBd := Lib.hid (fun k hk => jrn_bound hg hj k hk)
    have HLk := Lib.hid (fun m (hm : m + 1 < cs.length) => ((hj.2.2 (m + 1) hm hm).2.2 m rfl).1)
    have HTP := Lib.hid (fun W (hW : Below w.heap.size w W) => tripPlace_any _ t.trips trip W (HTr.out.below rfl hW) hsz hg.Asc)
    by_cases hm0 : 0 ≤ mins
    · by_cases hm1 : mins ≤ 240
      · cases hfd : foundB trip t.trips with
        | false =>
          rw [hfd] at HTP
          have HN : Hid (sdB t ch cs trip mins = false) := by show _ = _; unfold sdB; rw [hfd]; simp
          have HQ : Hid (sdF t ch cs trip mins = false) := by show _ = _; unfold sdF; rw [HN.out]; rfl
          clear hans hfd hg hj
          go_enter Try.func23, Try.ntmps23
          go_wp2_with fail
          go_at_call 34
          refine (HV.out _ ((Below.refl _ _).alloc (Nat.le_refl _) _)).mono ?_
          rintro e w1 ⟨rfl, hb1⟩
          have HB1 : Hid (Below w.heap.size w w1) := ((Below.refl _ _).alloc (Nat.le_refl _) _).trans (hb1.mono (by simp))
          have z0 : w1.cell? ⟨w.heap.size, 0, none⟩ = some (.slice a t.net.stops.length c) := bkeep hb1 (by go_simp)
          have z1 : w1.cell? ⟨w.heap.size, 1, none⟩ = some (.slice a' t.net.lines.length c') := bkeep hb1 (by go_simp)
          have z2 : w1.cell? ⟨w.heap.size, 2, none⟩ = some (.slice b t.trips.length d) := bkeep hb1 (by go_simp)
          clear hb1
          go_wp2_with fail
          go_at_call 68
          refine (HTP.out _ HB1.out).mono ?_
          rintro e w2 ⟨rfl, hb⟩
          have HB2 : Hid (Below w.heap.size w w2) := HB1.out.trans (hb.mono HB1.out.size)
          clear hb z0 z1 z2
          go_wp2_with fail
          go_ret2
          exact ⟨by first | (rw [HQ.out, HN.out]; rfl) | (rw [HQ.out, HN.out]; done), HB2.out⟩
        | true =>
          rw [hfd] at HTP
          have HN : Hid (sdB t ch cs trip mins = true) := by show _ = _; unfold sdB; rw [hfd, hans, decide_eq_true (show 0 ≤ mins ∧ mins ≤ 240 from ⟨hm0, hm1⟩)]; rfl
          obtain ⟨lb, lo, rfl⟩ : ∃ lb lo, la = some ⟨lb, lo, none⟩ := by
            obtain ⟨lb, lo, h, _⟩ := leg_at HL.out 0 (by omega)
            exact ⟨lb, lo, h⟩
          have HDl := Lib.hid (fun W (hW : Below w.heap.size w W) => delayedLegs_any lb lo lc cs trip mins W (HL.out.below rfl hW) (by omega) hlen HBd.out hm0 hm1)
          clear hans hfd hg hj
          go_enter Try.func23, Try.ntmps23
          go_wp2_with fail
          go_at_call 34
          refine (HV.out _ ((Below.refl _ _).alloc (Nat.le_refl _) _)).mono ?_
          rintro e w1 ⟨rfl, hb1⟩
          have HB1 : Hid (Below w.heap.size w w1) := ((Below.refl _ _).alloc (Nat.le_refl _) _).trans (hb1.mono (by simp))
          have z0 : w1.cell? ⟨w.heap.size, 0, none⟩ = some (.slice a t.net.stops.length c) := bkeep hb1 (by go_simp)
          have z1 : w1.cell? ⟨w.heap.size, 1, none⟩ = some (.slice a' t.net.lines.length c') := bkeep hb1 (by go_simp)
          have z2 : w1.cell? ⟨w.heap.size, 2, none⟩ = some (.slice b t.trips.length d) := bkeep hb1 (by go_simp)
          clear hb1
          go_wp2_with fail
          go_at_call 68
          refine (HTP.out _ HB1.out).mono ?_
          rintro e w2 ⟨rfl, hb⟩
          have HB2 : Hid (Below w.heap.size w w2) := HB1.out.trans (hb.mono HB1.out.size)
          clear hb z0 z1 z2
          go_wp2_with fail
          go_at_call 69
          refine (HDl.out _ HB2.out).mono ?_
          rintro e w3 ⟨g, c9, rfl, hown, hb⟩
          have HB3 : Hid (Below w.heap.size w w3) := HB2.out.trans (hb.mono HB2.out.size)
          have HO3 := Lib.hid (own_base hown HB2.out.size)
          clear hown hb
          go_wp2_with fail
          go_loopw [15] (fun q wr => ∃ m : Nat, m + 1 ≤ cs.length ∧ q = .int .i64 ((m : Int) + 1) ∧ Hid (svT cs ch trip mins m = true) ∧ Hid (wr.ownsRow w.heap.size 62 5 (.slice (some ⟨g, 0, none⟩) cs.length c9) cs.length (legC (cs.map (lateL trip mins)))) ∧ Hid (Below w.heap.size w wr)) (fun q _ => cs.length - (RowKit.intOf q).toNat)
          case atStart => exact ⟨0, by omega, by simp, rfl, HO3, HB3⟩
          case round =>
            clear HO3 HB3
            obtain ⟨m, hmm, rfl, HSv, HOwn, HB⟩ := hrel
            have hzr := HB.out.size
            by_cases hlt : m + 1 < cs.length
            · have hown := HOwn.out
              have h1l : m + 1 < (cs.map (lateL trip mins)).length := by simpa using hlt
              have h0l : m < (cs.map (lateL trip mins)).length := by omega
              have hb1 := HBd.out (m + 1) hlt
              have hb0 := HBd.out m (by omega)
              have HSucc := Lib.hid (svT_succ (ch := ch) (trip := trip) (mins := mins) hlt)
              have hlk := HLk.out m hlt
              obtain ⟨y, Hy⟩ : ∃ y, Hid (lateL trip mins (cs[m]'(by omega)) = y) := ⟨lateL trip mins (cs[m]'(by omega)), rfl⟩
              obtain ⟨x, Hx⟩ : ∃ x, Hid (lateL trip mins (cs[m + 1]'(by omega)) = x) := ⟨lateL trip mins (cs[m + 1]'(by omega)), rfl⟩
              rw [Hy.out, Hx.out] at HSucc
              have ey : (cs.map (lateL trip mins))[m] = y := by rw [List.getElem_map]; exact Hy.out
              have ex : (cs.map (lateL trip mins))[m + 1] = x := by rw [List.getElem_map]; exact Hx.out
              have hlk2 : y.dst = x.frm := by rw [← Hy.out, ← Hx.out]; exact hlk
              have hya : 0 ≤ y.arr ∧ y.arr ≤ 2640 := by rw [← Hy.out, late_arr]; split <;> omega
              have u0 : wr.cell? ⟨g, m * 5, none⟩ = some (.int .i64 y.trip) := by rw [hown.cellAt (m * 5) (by omega), legC_get0 _ m h0l, ey]
              have u1 : wr.cell? ⟨g, m * 5 + 1, none⟩ = some (.int .i64 y.frm) := by rw [hown.cellAt (m * 5 + 1) (by omega), legC_get1 _ m h0l, ey]
              have u2 : wr.cell? ⟨g, m * 5 + 2, none⟩ = some (.int .i64 y.dst) := by rw [hown.cellAt (m * 5 + 2) (by omega), legC_get2 _ m h0l, ey]
              have u3 : wr.cell? ⟨g, m * 5 + 3, none⟩ = some (.int .i64 y.dep) := by rw [hown.cellAt (m * 5 + 3) (by omega), legC_get3 _ m h0l, ey]
              have u4 : wr.cell? ⟨g, m * 5 + 4, none⟩ = some (.int .i64 y.arr) := by rw [hown.cellAt (m * 5 + 4) (by omega), legC_get4 _ m h0l, ey]
              have x0 : wr.cell? ⟨g, (m + 1) * 5, none⟩ = some (.int .i64 x.trip) := by rw [hown.cellAt ((m + 1) * 5) (by omega), legC_get0 _ (m + 1) h1l, ex]
              have x1 : wr.cell? ⟨g, (m + 1) * 5 + 1, none⟩ = some (.int .i64 x.frm) := by rw [hown.cellAt ((m + 1) * 5 + 1) (by omega), legC_get1 _ (m + 1) h1l, ex]
              have x2 : wr.cell? ⟨g, (m + 1) * 5 + 2, none⟩ = some (.int .i64 x.dst) := by rw [hown.cellAt ((m + 1) * 5 + 2) (by omega), legC_get2 _ (m + 1) h1l, ex]
              have x3 : wr.cell? ⟨g, (m + 1) * 5 + 3, none⟩ = some (.int .i64 x.dep) := by rw [hown.cellAt ((m + 1) * 5 + 3) (by omega), legC_get3 _ (m + 1) h1l, ex]
              have x4 : wr.cell? ⟨g, (m + 1) * 5 + 4, none⟩ = some (.int .i64 x.arr) := by rw [hown.cellAt ((m + 1) * 5 + 4) (by omega), legC_get4 _ (m + 1) h1l, ex]
              have HCan := Lib.hid (fun W => canChange_any y x ch W (IntWalk.i64_in _ (by omega)))
              clear hown ey ex h1l h0l hb1 hb0
              have hk2 : (m : Int) + 1 < (cs.length : Int) := by omega
              have hk4 : (m : Int) < (cs.length : Int) := by omega
              have hk5 : (0 : Int) ≤ (m : Int) := by omega
              have hk6 : (0 : Int) ≤ (m : Int) + 1 := by omega
              have hwk2 : IntKind.i64.wrap (m : Int) = (m : Int) := IntWalk.i64_in _ (by omega)
              have htn : ((m : Int) + 1).toNat = m + 1 := by omega
              by_cases hle : y.arr + ch ≤ x.dep
              · rw [decide_eq_true (show y.dst = x.frm ∧ y.arr + ch ≤ x.dep from ⟨hlk2, hle⟩)] at HCan
                have HS1 : Hid (svT cs ch trip mins (m + 1) = true) := by show _ = _; rw [HSucc.out, HSv.out, decide_eq_true hle]; rfl
                clear hlk2 hle hya hlk
                unfold legV at HCan
                go_wp2_with fail
                refine wp_region_held_drew (S := (fun w' => w'.cell? ⟨g, m * 5, none⟩ = some (.int .i64 y.trip) ∧ w'.cell? ⟨g, m * 5 + 1, none⟩ = some (.int .i64 y.frm) ∧ w'.cell? ⟨g, m * 5 + 2, none⟩ = some (.int .i64 y.dst) ∧ w'.cell? ⟨g, m * 5 + 3, none⟩ = some (.int .i64 y.dep) ∧ w'.cell? ⟨g, m * 5 + 4, none⟩ = some (.int .i64 y.arr) ∧ w'.cell? ⟨g, (m + 1) * 5, none⟩ = some (.int .i64 x.trip) ∧ w'.cell? ⟨g, (m + 1) * 5 + 1, none⟩ = some (.int .i64 x.frm) ∧ w'.cell? ⟨g, (m + 1) * 5 + 2, none⟩ = some (.int .i64 x.dst) ∧ w'.cell? ⟨g, (m + 1) * 5 + 3, none⟩ = some (.int .i64 x.dep) ∧ w'.cell? ⟨g, (m + 1) * 5 + 4, none⟩ = some (.int .i64 x.arr))) (by kernel_rfl) ?_ (fun hHeld => ?_)
                · exact ⟨u0, u1, u2, u3, u4, x0, x1, x2, x3, x4⟩
                refine wpAnyH_take (i := 0) (v := ?_) (by simp only [List.getElem?_toArray, List.getElem?_cons_zero]; rfl) (by kernel_rfl) (by kernel_rfl) (by kernel_rfl) (by exact fun _ _ _ h => h) (Or.inl ⟨by rfl, ?_⟩) (by assumption) ?_
                rotate_left
                · intro w' hSw; obtain ⟨e0, e1, e2, e3, e4, e5, e6, e7, e8, e9⟩ := hSw
                  go_simp; try with_reducible rfl
                try simp only [Act.put, List.setIfInBounds_toArray, List.set_cons_zero, List.set_cons_succ]
                refine wpAnyH_take (i := 1) (v := ?_) (by simp only [List.getElem?_toArray, List.getElem?_cons_succ, List.getElem?_cons_zero]; rfl) (by kernel_rfl) (by kernel_rfl) (by kernel_rfl) (by exact fun _ _ _ h => h) (Or.inl ⟨by rfl, ?_⟩) (by assumption) ?_
                rotate_left
                · intro w' hSw; obtain ⟨e0, e1, e2, e3, e4, e5, e6, e7, e8, e9⟩ := hSw
                  go_simp; try with_reducible rfl
                try simp only [Act.put, List.setIfInBounds_toArray, List.set_cons_zero, List.set_cons_succ]
                refine wpAnyH_take (i := 2) (v := ?_) (by simp only [List.getElem?_toArray, List.getElem?_cons_succ, List.getElem?_cons_zero]; rfl) (by kernel_rfl) (by kernel_rfl) (by kernel_rfl) (by exact fun _ _ _ h => h) (Or.inl ⟨by rfl, ?_⟩) (by assumption) ?_
                rotate_left
                · intro w' hSw; obtain ⟨e0, e1, e2, e3, e4, e5, e6, e7, e8, e9⟩ := hSw
                  go_simp; try with_reducible rfl
                try simp only [Act.put, List.setIfInBounds_toArray, List.set_cons_zero, List.set_cons_succ]
                refine wpAnyH_take (i := 3) (v := ?_) (by simp only [List.getElem?_toArray, List.getElem?_cons_succ, List.getElem?_cons_zero]; rfl) (by kernel_rfl) (by kernel_rfl) (by kernel_rfl) (by exact fun _ _ _ h => h) (Or.inl ⟨by rfl, ?_⟩) (by assumption) ?_
                rotate_left
                · intro w' hSw; obtain ⟨e0, e1, e2, e3, e4, e5, e6, e7, e8, e9⟩ := hSw
                  go_simp; try with_reducible rfl
                try simp only [Act.put, List.setIfInBounds_toArray, List.set_cons_zero, List.set_cons_succ]
                refine wpAnyH_take (i := 4) (v := ?_) (by simp only [List.getElem?_toArray, List.getElem?_cons_succ, List.getElem?_cons_zero]; rfl) (by kernel_rfl) (by kernel_rfl) (by kernel_rfl) (by exact fun _ _ _ h => h) (Or.inl ⟨by rfl, ?_⟩) (by assumption) ?_
                rotate_left
                · intro w' hSw; obtain ⟨e0, e1, e2, e3, e4, e5, e6, e7, e8, e9⟩ := hSw
                  go_simp; try with_reducible rfl
                try simp only [Act.put, List.setIfInBounds_toArray, List.set_cons_zero, List.set_cons_succ]
                refine wpAnyH_take (i := 5) (v := ?_) (by simp only [List.getElem?_toArray, List.getElem?_cons_succ, List.getElem?_cons_zero]; rfl) (by kernel_rfl) (by kernel_rfl) (by kernel_rfl) (by exact fun _ _ _ h => h) (Or.inl ⟨by rfl, ?_⟩) (by assumption) ?_
                rotate_left
                · intro w' hSw; obtain ⟨e0, e1, e2, e3, e4, e5, e6, e7, e8, e9⟩ := hSw
                  go_simp; try with_reducible rfl
                try simp only [Act.put, List.setIfInBounds_toArray, List.set_cons_zero, List.set_cons_succ]
                refine wpAnyH_take (i := 6) (v := ?_) (by simp only [List.getElem?_toArray, List.getElem?_cons_succ, List.getElem?_cons_zero]; rfl) (by kernel_rfl) (by kernel_rfl) (by kernel_rfl) (by exact fun _ _ _ h => h) (Or.inl ⟨by rfl, ?_⟩) (by assumption) ?_
                rotate_left
                · intro w' hSw; obtain ⟨e0, e1, e2, e3, e4, e5, e6, e7, e8, e9⟩ := hSw
                  go_simp; try with_reducible rfl
                try simp only [Act.put, List.setIfInBounds_toArray, List.set_cons_zero, List.set_cons_succ]
                refine wpAnyH_take (i := 7) (v := ?_) (by simp only [List.getElem?_toArray, List.getElem?_cons_succ, List.getElem?_cons_zero]; rfl) (by kernel_rfl) (by kernel_rfl) (by kernel_rfl) (by exact fun _ _ _ h => h) (Or.inl ⟨by rfl, ?_⟩) (by assumption) ?_
                rotate_left
                · intro w' hSw; obtain ⟨e0, e1, e2, e3, e4, e5, e6, e7, e8, e9⟩ := hSw
                  go_simp; try with_reducible rfl
                try simp only [Act.put, List.setIfInBounds_toArray, List.set_cons_zero, List.set_cons_succ]
                refine wpAnyH_take (i := 8) (v := ?_) (by simp only [List.getElem?_toArray, List.getElem?_cons_succ, List.getElem?_cons_zero]; rfl) (by kernel_rfl) (by kernel_rfl) (by kernel_rfl) (by exact fun _ _ _ h => h) (Or.inl ⟨by rfl, ?_⟩) (by assumption) ?_
                rotate_left
                · intro w' hSw; obtain ⟨e0, e1, e2, e3, e4, e5, e6, e7, e8, e9⟩ := hSw
                  go_simp; try with_reducible rfl
                try simp only [Act.put, List.setIfInBounds_toArray, List.set_cons_zero, List.set_cons_succ]
                refine wpAnyH_take (i := 9) (v := ?_) (by simp only [List.getElem?_toArray, List.getElem?_cons_succ, List.getElem?_cons_zero]; rfl) (by kernel_rfl) (by kernel_rfl) (by kernel_rfl) (by exact fun _ _ _ h => h) (Or.inl ⟨by rfl, ?_⟩) (by assumption) ?_
                rotate_left
                · intro w' hSw; obtain ⟨e0, e1, e2, e3, e4, e5, e6, e7, e8, e9⟩ := hSw
                  go_simp; try with_reducible rfl
                try simp only [Act.put, List.setIfInBounds_toArray, List.set_cons_zero, List.set_cons_succ]
                refine wpAnyH_ready (rs := [10]) (by kernel_rfl) (by simp) ?_
                refine AllReadyH.cons (by simp only [List.getElem?_toArray, List.getElem?_cons_succ, List.getElem?_cons_zero]; rfl) (fun K hK => ?_) AllReadyH.nil
                go_simp
                go_at_call 70
                refine (HCan.out _).mono ?_
                rintro e w3 ⟨rfl, hb⟩
                have rb : Below wr.heap.size wr w3 := (Below.refl _ _).drew.trans hb
                have hS3 : w3.cell? ⟨g, m * 5, none⟩ = some (.int .i64 y.trip) ∧ w3.cell? ⟨g, m * 5 + 1, none⟩ = some (.int .i64 y.frm) ∧ w3.cell? ⟨g, m * 5 + 2, none⟩ = some (.int .i64 y.dst) ∧ w3.cell? ⟨g, m * 5 + 3, none⟩ = some (.int .i64 y.dep) ∧ w3.cell? ⟨g, m * 5 + 4, none⟩ = some (.int .i64 y.arr) ∧ w3.cell? ⟨g, (m + 1) * 5, none⟩ = some (.int .i64 x.trip) ∧ w3.cell? ⟨g, (m + 1) * 5 + 1, none⟩ = some (.int .i64 x.frm) ∧ w3.cell? ⟨g, (m + 1) * 5 + 2, none⟩ = some (.int .i64 x.dst) ∧ w3.cell? ⟨g, (m + 1) * 5 + 3, none⟩ = some (.int .i64 x.dep) ∧ w3.cell? ⟨g, (m + 1) * 5 + 4, none⟩ = some (.int .i64 x.arr) := ⟨bkeep rb u0, bkeep rb u1, bkeep rb u2, bkeep rb u3, bkeep rb u4, bkeep rb x0, bkeep rb x1, bkeep rb x2, bkeep rb x3, bkeep rb x4⟩
                have HB3 : Hid (Below w.heap.size w w3) := HB.out.trans (rb.mono hzr)
                have HO3 := Lib.hid (own_later HOwn.out rb)
                clear hb rb
                go_wp2_with fail
                refine hK.out _ _ hS3 (fun hH10 => ?_)
                clear hK K
                try simp only [Act.put, List.setIfInBounds_toArray, List.set_cons_zero, List.set_cons_succ]
                refine wpAnyH_take (i := 11) (v := ?_) (by simp only [List.getElem?_toArray, List.getElem?_cons_succ, List.getElem?_cons_zero]; rfl) (by kernel_rfl) (by kernel_rfl) (by kernel_rfl) (by exact fun _ _ _ h => h) (Or.inl ⟨by rfl, ?_⟩) (by assumption) ?_
                rotate_left
                · intro w' hSw; obtain ⟨e0, e1, e2, e3, e4, e5, e6, e7, e8, e9⟩ := hSw
                  go_simp; try with_reducible rfl
                try simp only [Act.put, List.setIfInBounds_toArray, List.set_cons_zero, List.set_cons_succ]
                refine wpAnyH_done (by kernel_rfl) ?_ _
                clear hS3 hH10
                go_wp2_with fail
                go_roundw
                case rel => exact ⟨m + 1, by omega, by go_num, HS1, HO3, HB3⟩
                case measure => simp [RowKit.intOf]; omega
              · rw [decide_eq_false (show ¬ (y.dst = x.frm ∧ y.arr + ch ≤ x.dep) from fun h => hle h.2)] at HCan
                have HS1 : Hid (svT cs ch trip mins (m + 1) = false) := by show _ = _; rw [HSucc.out, decide_eq_false hle, Bool.and_false]
                have HQ : Hid (sdF t ch cs trip mins = false) := by show _ = _; unfold sdF; rw [HN.out, Bool.true_and]; exact svT_stop HS1.out _ (by omega)
                clear hlk2 hle hya hlk
                unfold legV at HCan
                go_wp2_with fail
                refine wp_region_held_drew (S := (fun w' => w'.cell? ⟨g, m * 5, none⟩ = some (.int .i64 y.trip) ∧ w'.cell? ⟨g, m * 5 + 1, none⟩ = some (.int .i64 y.frm) ∧ w'.cell? ⟨g, m * 5 + 2, none⟩ = some (.int .i64 y.dst) ∧ w'.cell? ⟨g, m * 5 + 3, none⟩ = some (.int .i64 y.dep) ∧ w'.cell? ⟨g, m * 5 + 4, none⟩ = some (.int .i64 y.arr) ∧ w'.cell? ⟨g, (m + 1) * 5, none⟩ = some (.int .i64 x.trip) ∧ w'.cell? ⟨g, (m + 1) * 5 + 1, none⟩ = some (.int .i64 x.frm) ∧ w'.cell? ⟨g, (m + 1) * 5 + 2, none⟩ = some (.int .i64 x.dst) ∧ w'.cell? ⟨g, (m + 1) * 5 + 3, none⟩ = some (.int .i64 x.dep) ∧ w'.cell? ⟨g, (m + 1) * 5 + 4, none⟩ = some (.int .i64 x.arr))) (by kernel_rfl) ?_ (fun hHeld => ?_)
                · exact ⟨u0, u1, u2, u3, u4, x0, x1, x2, x3, x4⟩
                refine wpAnyH_take (i := 0) (v := ?_) (by simp only [List.getElem?_toArray, List.getElem?_cons_zero]; rfl) (by kernel_rfl) (by kernel_rfl) (by kernel_rfl) (by exact fun _ _ _ h => h) (Or.inl ⟨by rfl, ?_⟩) (by assumption) ?_
                rotate_left
                · intro w' hSw; obtain ⟨e0, e1, e2, e3, e4, e5, e6, e7, e8, e9⟩ := hSw
                  go_simp; try with_reducible rfl
                try simp only [Act.put, List.setIfInBounds_toArray, List.set_cons_zero, List.set_cons_succ]
                refine wpAnyH_take (i := 1) (v := ?_) (by simp only [List.getElem?_toArray, List.getElem?_cons_succ, List.getElem?_cons_zero]; rfl) (by kernel_rfl) (by kernel_rfl) (by kernel_rfl) (by exact fun _ _ _ h => h) (Or.inl ⟨by rfl, ?_⟩) (by assumption) ?_
                rotate_left
                · intro w' hSw; obtain ⟨e0, e1, e2, e3, e4, e5, e6, e7, e8, e9⟩ := hSw
                  go_simp; try with_reducible rfl
                try simp only [Act.put, List.setIfInBounds_toArray, List.set_cons_zero, List.set_cons_succ]
                refine wpAnyH_take (i := 2) (v := ?_) (by simp only [List.getElem?_toArray, List.getElem?_cons_succ, List.getElem?_cons_zero]; rfl) (by kernel_rfl) (by kernel_rfl) (by kernel_rfl) (by exact fun _ _ _ h => h) (Or.inl ⟨by rfl, ?_⟩) (by assumption) ?_
                rotate_left
                · intro w' hSw; obtain ⟨e0, e1, e2, e3, e4, e5, e6, e7, e8, e9⟩ := hSw
                  go_simp; try with_reducible rfl
                try simp only [Act.put, List.setIfInBounds_toArray, List.set_cons_zero, List.set_cons_succ]
                refine wpAnyH_take (i := 3) (v := ?_) (by simp only [List.getElem?_toArray, List.getElem?_cons_succ, List.getElem?_cons_zero]; rfl) (by kernel_rfl) (by kernel_rfl) (by kernel_rfl) (by exact fun _ _ _ h => h) (Or.inl ⟨by rfl, ?_⟩) (by assumption) ?_
                rotate_left
                · intro w' hSw; obtain ⟨e0, e1, e2, e3, e4, e5, e6, e7, e8, e9⟩ := hSw
                  go_simp; try with_reducible rfl
                try simp only [Act.put, List.setIfInBounds_toArray, List.set_cons_zero, List.set_cons_succ]
                refine wpAnyH_take (i := 4) (v := ?_) (by simp only [List.getElem?_toArray, List.getElem?_cons_succ, List.getElem?_cons_zero]; rfl) (by kernel_rfl) (by kernel_rfl) (by kernel_rfl) (by exact fun _ _ _ h => h) (Or.inl ⟨by rfl, ?_⟩) (by assumption) ?_
                rotate_left
                · intro w' hSw; obtain ⟨e0, e1, e2, e3, e4, e5, e6, e7, e8, e9⟩ := hSw
                  go_simp; try with_reducible rfl
                try simp only [Act.put, List.setIfInBounds_toArray, List.set_cons_zero, List.set_cons_succ]
                refine wpAnyH_take (i := 5) (v := ?_) (by simp only [List.getElem?_toArray, List.getElem?_cons_succ, List.getElem?_cons_zero]; rfl) (by kernel_rfl) (by kernel_rfl) (by kernel_rfl) (by exact fun _ _ _ h => h) (Or.inl ⟨by rfl, ?_⟩) (by assumption) ?_
                rotate_left
                · intro w' hSw; obtain ⟨e0, e1, e2, e3, e4, e5, e6, e7, e8, e9⟩ := hSw
                  go_simp; try with_reducible rfl
                try simp only [Act.put, List.setIfInBounds_toArray, List.set_cons_zero, List.set_cons_succ]
                refine wpAnyH_take (i := 6) (v := ?_) (by simp only [List.getElem?_toArray, List.getElem?_cons_succ, List.getElem?_cons_zero]; rfl) (by kernel_rfl) (by kernel_rfl) (by kernel_rfl) (by exact fun _ _ _ h => h) (Or.inl ⟨by rfl, ?_⟩) (by assumption) ?_
                rotate_left
                · intro w' hSw; obtain ⟨e0, e1, e2, e3, e4, e5, e6, e7, e8, e9⟩ := hSw
                  go_simp; try with_reducible rfl
                try simp only [Act.put, List.setIfInBounds_toArray, List.set_cons_zero, List.set_cons_succ]
                refine wpAnyH_take (i := 7) (v := ?_) (by simp only [List.getElem?_toArray, List.getElem?_cons_succ, List.getElem?_cons_zero]; rfl) (by kernel_rfl) (by kernel_rfl) (by kernel_rfl) (by exact fun _ _ _ h => h) (Or.inl ⟨by rfl, ?_⟩) (by assumption) ?_
                rotate_left
                · intro w' hSw; obtain ⟨e0, e1, e2, e3, e4, e5, e6, e7, e8, e9⟩ := hSw
                  go_simp; try with_reducible rfl
                try simp only [Act.put, List.setIfInBounds_toArray, List.set_cons_zero, List.set_cons_succ]
                refine wpAnyH_take (i := 8) (v := ?_) (by simp only [List.getElem?_toArray, List.getElem?_cons_succ, List.getElem?_cons_zero]; rfl) (by kernel_rfl) (by kernel_rfl) (by kernel_rfl) (by exact fun _ _ _ h => h) (Or.inl ⟨by rfl, ?_⟩) (by assumption) ?_
                rotate_left
                · intro w' hSw; obtain ⟨e0, e1, e2, e3, e4, e5, e6, e7, e8, e9⟩ := hSw
                  go_simp; try with_reducible rfl
                try simp only [Act.put, List.setIfInBounds_toArray, List.set_cons_zero, List.set_cons_succ]
                refine wpAnyH_take (i := 9) (v := ?_) (by simp only [List.getElem?_toArray, List.getElem?_cons_succ, List.getElem?_cons_zero]; rfl) (by kernel_rfl) (by kernel_rfl) (by kernel_rfl) (by exact fun _ _ _ h => h) (Or.inl ⟨by rfl, ?_⟩) (by assumption) ?_
                rotate_left
                · intro w' hSw; obtain ⟨e0, e1, e2, e3, e4, e5, e6, e7, e8, e9⟩ := hSw
                  go_simp; try with_reducible rfl
                try simp only [Act.put, List.setIfInBounds_toArray, List.set_cons_zero, List.set_cons_succ]
                refine wpAnyH_ready (rs := [10]) (by kernel_rfl) (by simp) ?_
                refine AllReadyH.cons (by simp only [List.getElem?_toArray, List.getElem?_cons_succ, List.getElem?_cons_zero]; rfl) (fun K hK => ?_) AllReadyH.nil
                go_simp
                go_at_call 70
                refine (HCan.out _).mono ?_
                rintro e w3 ⟨rfl, hb⟩
                have rb : Below wr.heap.size wr w3 := (Below.refl _ _).drew.trans hb
                have hS3 : w3.cell? ⟨g, m * 5, none⟩ = some (.int .i64 y.trip) ∧ w3.cell? ⟨g, m * 5 + 1, none⟩ = some (.int .i64 y.frm) ∧ w3.cell? ⟨g, m * 5 + 2, none⟩ = some (.int .i64 y.dst) ∧ w3.cell? ⟨g, m * 5 + 3, none⟩ = some (.int .i64 y.dep) ∧ w3.cell? ⟨g, m * 5 + 4, none⟩ = some (.int .i64 y.arr) ∧ w3.cell? ⟨g, (m + 1) * 5, none⟩ = some (.int .i64 x.trip) ∧ w3.cell? ⟨g, (m + 1) * 5 + 1, none⟩ = some (.int .i64 x.frm) ∧ w3.cell? ⟨g, (m + 1) * 5 + 2, none⟩ = some (.int .i64 x.dst) ∧ w3.cell? ⟨g, (m + 1) * 5 + 3, none⟩ = some (.int .i64 x.dep) ∧ w3.cell? ⟨g, (m + 1) * 5 + 4, none⟩ = some (.int .i64 x.arr) := ⟨bkeep rb u0, bkeep rb u1, bkeep rb u2, bkeep rb u3, bkeep rb u4, bkeep rb x0, bkeep rb x1, bkeep rb x2, bkeep rb x3, bkeep rb x4⟩
                have HB3 : Hid (Below w.heap.size w w3) := HB.out.trans (rb.mono hzr)
                have HO3 := Lib.hid (own_later HOwn.out rb)
                clear hb rb
                go_wp2_with fail
                refine hK.out _ _ hS3 (fun hH10 => ?_)
                clear hK K
                try simp only [Act.put, List.setIfInBounds_toArray, List.set_cons_zero, List.set_cons_succ]
                refine wpAnyH_take (i := 11) (v := ?_) (by simp only [List.getElem?_toArray, List.getElem?_cons_succ, List.getElem?_cons_zero]; rfl) (by kernel_rfl) (by kernel_rfl) (by kernel_rfl) (by exact fun _ _ _ h => h) (Or.inl ⟨by rfl, ?_⟩) (by assumption) ?_
                rotate_left
                · intro w' hSw; obtain ⟨e0, e1, e2, e3, e4, e5, e6, e7, e8, e9⟩ := hSw
                  go_simp; try with_reducible rfl
                try simp only [Act.put, List.setIfInBounds_toArray, List.set_cons_zero, List.set_cons_succ]
                refine wpAnyH_done (by kernel_rfl) ?_ _
                clear hS3 hH10
                go_wp2_with fail
                go_ret2
                exact ⟨by first | (rw [HQ.out, HN.out]; rfl) | (rw [HQ.out, HN.out]; done), HB3.out⟩
            · obtain rfl : m = n := by omega
              have hk2 : ¬ (m : Int) + 1 < (cs.length : Int) := by omega
              have HQ : Hid (sdF t ch cs trip mins = true) := by show _ = _; unfold sdF; rw [HN.out, Bool.true_and, show cs.length - 1 = m by omega]; exact HSv.out
              go_wp2_with fail
              go_ret2
              exact ⟨by first | (rw [HQ.out, HN.out]; rfl) | (rw [HQ.out, HN.out]; done), HB.out⟩
      · have HN : Hid (sdB t ch cs trip mins = false) := by show _ = _; unfold sdB; rw [decide_eq_false (show ¬ (0 ≤ mins ∧ mins ≤ 240) from fun h => hm1 h.2)]; simp
        have HQ : Hid (sdF t ch cs trip mins = false) := by show _ = _; unfold sdF; rw [HN.out]; rfl
        clear hans hg hj
        go_enter Try.func23, Try.ntmps23
        go_wp2_with fail
        go_at_call 34
        refine (HV.out _ ((Below.refl _ _).alloc (Nat.le_refl _) _)).mono ?_
        rintro e w1 ⟨rfl, hb1⟩
        have HB1 : Hid (Below w.heap.size w w1) := ((Below.refl _ _).alloc (Nat.le_refl _) _).trans (hb1.mono (by simp))
        have z0 : w1.cell? ⟨w.heap.size, 0, none⟩ = some (.slice a t.net.stops.length c) := bkeep hb1 (by go_simp)
        have z1 : w1.cell? ⟨w.heap.size, 1, none⟩ = some (.slice a' t.net.lines.length c') := bkeep hb1 (by go_simp)
        have z2 : w1.cell? ⟨w.heap.size, 2, none⟩ = some (.slice b t.trips.length d) := bkeep hb1 (by go_simp)
        clear hb1
        clear z0 z1 z2
        go_wp2_with fail
        go_ret2
        exact ⟨by first | (rw [HQ.out, HN.out]; rfl) | (rw [HQ.out, HN.out]; done), HB1.out⟩
    · have HN : Hid (sdB t ch cs trip mins = false) := by show _ = _; unfold sdB; rw [decide_eq_false (show ¬ (0 ≤ mins ∧ mins ≤ 240) from fun h => hm0 h.1)]; simp
      have HQ : Hid (sdF t ch cs trip mins = false) := by show _ = _; unfold sdF; rw [HN.out]; rfl
      clear hans hg hj
      go_enter Try.func23, Try.ntmps23
      go_wp2_with fail
      go_at_call 34
      refine (HV.out _ ((Below.refl _ _).alloc (Nat.le_refl _) _)).mono ?_
      rintro e w1 ⟨rfl, hb1⟩
      have HB1 : Hid (Below w.heap.size w w1) := ((Below.refl _ _).alloc (Nat.le_refl _) _).trans (hb1.mono (by simp))
      have z0 : w1.cell? ⟨w.heap.size, 0, none⟩ = some (.slice a t.net.stops.length c) := bkeep hb1 (by go_simp)
      have z1 : w1.cell? ⟨w.heap.size, 1, none⟩ = some (.slice a' t.net.lines.length c') := bkeep hb1 (by go_simp)
      have z2 : w1.cell? ⟨w.heap.size, 2, none⟩ = some (.slice b t.trips.length d) := bkeep hb1 (by go_simp)
      clear hb1
      clear z0 z1 z2
      go_wp2_with fail
      go_ret2
      exact ⟨by first | (rw [HQ.out, HN.out]; rfl) | (rw [HQ.out, HN.out]; done), HB1.out⟩

set_option maxRecDepth 100000 in
set_option maxHeartbeats 8000000 in
theorem specSd_any (v lv : Value) (t : TTD) (ch : Int) (cs : List LegD) (trip mins : Int) (w : World) (hr : TTAt w v t) (hl : LegsAt w lv cs) (hf : TTFits t) (hs : TTSmall t) (hsl : LegsSmall cs) :
    Calls Try.prog 21 #[v, .int .i64 ch, lv, .int .i64 trip, .int .i64 mins] w fun e w' => e = .returned (.tuple #[.bool (sdF t ch cs trip mins), .bool (sdB t ch cs trip mins)]) ∧ Below w.heap.size w w' := by
  have HA := Lib.hid (fun W (hW : Below w.heap.size w W) => l8Asked_any v t ch W (hr.below rfl hW) hf)
  have HJ := Lib.hid (fun (hg : TTGood t) (h0 : 0 ≤ ch) (h1 : ch ≤ 30) W (hW : Below w.heap.size w W) => l8Journey_any v lv t ch cs W (hr.below rfl hW) (hl.below rfl hW) hg hs hsl h0 h1)
  have HFi := Lib.hid (fun W (hW : Below w.heap.size w W) => l5Find_any v t trip W (hr.below rfl hW) hs)
  have HL := Lib.hid hl
  obtain ⟨a, c, a', c', b, d, rfl, hnn, htr⟩ := tt_open hr
  obtain ⟨la, lc, rfl⟩ := LegS_open hl
  clear hr hf hl hs hnn htr
  cases hans : ansJ t ch cs with
  | false =>
    have HN : Hid (sdB t ch cs trip mins = false) := by show _ = _; unfold sdB; rw [hans]; rfl
    have HQ : Hid (sdF t ch cs trip mins = false) := by show _ = _; unfold sdF; rw [HN.out]; rfl
    by_cases h : TTGood t ∧ 0 ≤ ch ∧ ch ≤ 30
    · rw [askB_yes h] at HA
      have HJ1 := Lib.hid (HJ.out h.1 h.2.1 h.2.2)
      rw [← ansJ_yes h.1 h.2, hans] at HJ1
      clear h HJ hans
      go_enter Try.func21, Try.ntmps21
      go_wp2_with fail
      go_at_call 63
      refine (HA.out _ ((Below.refl _ _).alloc (Nat.le_refl _) _)).mono ?_
      rintro e w1 ⟨rfl, hb1⟩
      have HB1 : Hid (Below w.heap.size w w1) := ((Below.refl _ _).alloc (Nat.le_refl _) _).trans (hb1.mono (by simp))
      have z0 : w1.cell? ⟨w.heap.size, 0, none⟩ = some (.slice a t.net.stops.length c) := bkeep hb1 (by go_simp)
      have z1 : w1.cell? ⟨w.heap.size, 1, none⟩ = some (.slice a' t.net.lines.length c') := bkeep hb1 (by go_simp)
      have z2 : w1.cell? ⟨w.heap.size, 2, none⟩ = some (.slice b t.trips.length d) := bkeep hb1 (by go_simp)
      clear hb1
      go_wp2_with fail
      go_at_call 64
      refine (HJ1.out _ HB1.out).mono ?_
      rintro e w2 ⟨rfl, hb⟩
      have HB2 : Hid (Below w.heap.size w w2) := HB1.out.trans (hb.mono HB1.out.size)
      clear hb z0 z1 z2
      go_wp2_with fail
      go_ret2
      exact ⟨by first | (rw [HQ.out, HN.out]; rfl) | (rw [HQ.out, HN.out]; done), HB2.out⟩
    · rw [askB_no h] at HA
      clear h HJ hans
      go_enter Try.func21, Try.ntmps21
      go_wp2_with fail
      go_at_call 63
      refine (HA.out _ ((Below.refl _ _).alloc (Nat.le_refl _) _)).mono ?_
      rintro e w1 ⟨rfl, hb1⟩
      have HB1 : Hid (Below w.heap.size w w1) := ((Below.refl _ _).alloc (Nat.le_refl _) _).trans (hb1.mono (by simp))
      have z0 : w1.cell? ⟨w.heap.size, 0, none⟩ = some (.slice a t.net.stops.length c) := bkeep hb1 (by go_simp)
      have z1 : w1.cell? ⟨w.heap.size, 1, none⟩ = some (.slice a' t.net.lines.length c') := bkeep hb1 (by go_simp)
      have z2 : w1.cell? ⟨w.heap.size, 2, none⟩ = some (.slice b t.trips.length d) := bkeep hb1 (by go_simp)
      clear hb1
      clear z0 z1 z2
      go_wp2_with fail
      go_ret2
      exact ⟨by first | (rw [HQ.out, HN.out]; rfl) | (rw [HQ.out, HN.out]; done), HB1.out⟩
  | true =>
    obtain ⟨hg, hch, hj⟩ := ansJ_iff hans
    have hlen := hj.2.1
    obtain ⟨hc0, hc1⟩ := hch
    obtain ⟨n, hnl, hnu⟩ : ∃ n, n < cs.length ∧ cs.length < n + 2 := ⟨cs.length - 1, by have := hj.1; omega, by omega⟩
    have HBd := Lib.hid (fun k hk => jrn_bound hg hj k hk)
    rw [askB_yes ⟨hg, hc0, hc1⟩] at HA
    have HJ1 := Lib.hid (HJ.out hg hc0 hc1)
    rw [jrnB_yes hj] at HJ1
    clear HJ
    cases hfd : foundB trip t.trips with
    | false =>
      rw [findI_none hg.Asc hfd] at HFi
      have HN : Hid (sdB t ch cs trip mins = false) := by show _ = _; unfold sdB; rw [hfd]; simp
      have HQ : Hid (sdF t ch cs trip mins = false) := by show _ = _; unfold sdF; rw [HN.out]; rfl
      clear hans hfd hg hj
      go_enter Try.func21, Try.ntmps21
      go_wp2_with fail
      go_at_call 63
      refine (HA.out _ ((Below.refl _ _).alloc (Nat.le_refl _) _)).mono ?_
      rintro e w1 ⟨rfl, hb1⟩
      have HB1 : Hid (Below w.heap.size w w1) := ((Below.refl _ _).alloc (Nat.le_refl _) _).trans (hb1.mono (by simp))
      have z0 : w1.cell? ⟨w.heap.size, 0, none⟩ = some (.slice a t.net.stops.length c) := bkeep hb1 (by go_simp)
      have z1 : w1.cell? ⟨w.heap.size, 1, none⟩ = some (.slice a' t.net.lines.length c') := bkeep hb1 (by go_simp)
      have z2 : w1.cell? ⟨w.heap.size, 2, none⟩ = some (.slice b t.trips.length d) := bkeep hb1 (by go_simp)
      clear hb1
      go_wp2_with fail
      go_at_call 64
      refine (HJ1.out _ HB1.out).mono ?_
      rintro e w2 ⟨rfl, hb⟩
      have HB2 : Hid (Below w.heap.size w w2) := HB1.out.trans (hb.mono HB1.out.size)
      have z20 := bkeep hb z0
      have z21 := bkeep hb z1
      have z22 := bkeep hb z2
      clear hb z0 z1 z2
      go_wp2_with fail
      go_at_call 65
      refine (HFi.out _ HB2.out).mono ?_
      rintro e w3 ⟨rfl, hb⟩
      have HB3 : Hid (Below w.heap.size w w3) := HB2.out.trans (hb.mono HB2.out.size)
      clear hb z20 z21 z22
      go_wp2_with fail
      go_ret2
      exact ⟨by first | (rw [HQ.out, HN.out]; rfl) | (rw [HQ.out, HN.out]; done), HB3.out⟩
    | true =>
      obtain ⟨hfi, hpl⟩ := findI_found hg.Asc hfd
      rw [hfi] at HFi
      have hp0 : ¬ ((placeOf trip t.trips : Nat) : Int) < 0 := by omega
      by_cases hm : 0 ≤ mins ∧ mins ≤ 240
      · have HN : Hid (sdB t ch cs trip mins = true) := by show _ = _; unfold sdB; rw [hfd, hans, decide_eq_true hm]; rfl
        clear hans hfd hg hj hfi hpl
        go_enter Try.func21, Try.ntmps21
        go_wp2_with fail
        go_at_call 63
        refine (HA.out _ ((Below.refl _ _).alloc (Nat.le_refl _) _)).mono ?_
        rintro e w1 ⟨rfl, hb1⟩
        have HB1 : Hid (Below w.heap.size w w1) := ((Below.refl _ _).alloc (Nat.le_refl _) _).trans (hb1.mono (by simp))
        have z0 : w1.cell? ⟨w.heap.size, 0, none⟩ = some (.slice a t.net.stops.length c) := bkeep hb1 (by go_simp)
        have z1 : w1.cell? ⟨w.heap.size, 1, none⟩ = some (.slice a' t.net.lines.length c') := bkeep hb1 (by go_simp)
        have z2 : w1.cell? ⟨w.heap.size, 2, none⟩ = some (.slice b t.trips.length d) := bkeep hb1 (by go_simp)
        clear hb1
        go_wp2_with fail
        go_at_call 64
        refine (HJ1.out _ HB1.out).mono ?_
        rintro e w2 ⟨rfl, hb⟩
        have HB2 : Hid (Below w.heap.size w w2) := HB1.out.trans (hb.mono HB1.out.size)
        have z20 := bkeep hb z0
        have z21 := bkeep hb z1
        have z22 := bkeep hb z2
        clear hb z0 z1 z2
        go_wp2_with fail
        go_at_call 65
        refine (HFi.out _ HB2.out).mono ?_
        rintro e w3 ⟨rfl, hb⟩
        have HB3 : Hid (Below w.heap.size w w3) := HB2.out.trans (hb.mono HB2.out.size)
        clear hb z20 z21 z22
        go_wp2_with fail
        go_at_call 66
        refine (l1In_yes _ _ _ _ hm).mono ?_
        rintro e w9 ⟨rfl, rfl⟩
        obtain ⟨hm0, hm1⟩ := hm
        go_wp2_with fail
        go_loopw [12] (fun q wr => ∃ m : Nat, m + 1 ≤ cs.length ∧ q = .int .i64 ((m : Int) + 1) ∧ Hid (svT cs ch trip mins m = true) ∧ Hid (Below w.heap.size w wr)) (fun q _ => cs.length - (RowKit.intOf q).toNat)
        case atStart => exact ⟨0, by omega, by simp, rfl, HB3.out⟩
        case round =>
          obtain ⟨m, hmm, rfl, HSv, HB⟩ := hrel
          have hzr := HB.out.size
          by_cases hlt : m + 1 < cs.length
          · obtain ⟨g, go, rfl, hgb, u0, -, -, u3, -⟩ := leg_at (HL.out.below rfl HB.out) (m + 1) hlt
            obtain ⟨g', go', hg', -, v0, -, -, -, v4⟩ := leg_at (HL.out.below rfl HB.out) m (by omega)
            simp at hg'
            obtain ⟨rfl, rfl⟩ := hg'
            have hb1 := HBd.out (m + 1) hlt
            have hb0 := HBd.out m (by omega)
            have HSucc := Lib.hid (svT_succ (ch := ch) (trip := trip) (mins := mins) hlt)
            obtain ⟨y, Hy⟩ : ∃ y, Hid ((cs[m]'(by omega)) = y) := ⟨cs[m]'(by omega), rfl⟩
            obtain ⟨x, Hx⟩ : ∃ x, Hid (cs[m + 1] = x) := ⟨cs[m + 1], rfl⟩
            rw [Hy.out] at v0 v4 hb0 HSucc
            rw [Hx.out] at u0 u3 hb1 HSucc
            obtain ⟨yt, HYT⟩ : ∃ yt, Hid (y.trip = yt) := ⟨_, rfl⟩
            obtain ⟨ya, HYA⟩ : ∃ ya, Hid (y.arr = ya) := ⟨_, rfl⟩
            obtain ⟨xt, HXT⟩ : ∃ xt, Hid (x.trip = xt) := ⟨_, rfl⟩
            obtain ⟨xd, HXD⟩ : ∃ xd, Hid (x.dep = xd) := ⟨_, rfl⟩
            rw [HYT.out] at v0
            rw [HYA.out] at v4 hb0
            rw [HXT.out] at u0
            rw [HXD.out] at u3 hb1
            obtain ⟨-, -, ha0, ha1⟩ := hb0
            obtain ⟨hx0, hx1, -, -⟩ := hb1
            have hk2 : (m : Int) + 1 < (cs.length : Int) := by omega
            have hk4 : (m : Int) < (cs.length : Int) := by omega
            have hk5 : (0 : Int) ≤ (m : Int) := by omega
            have hk6 : (0 : Int) ≤ (m : Int) + 1 := by omega
            have hwk2 : IntKind.i64.wrap (m : Int) = (m : Int) := IntWalk.i64_in _ (by omega)
            have htn : ((m : Int) + 1).toNat = m + 1 := by omega
            by_cases hty : yt = trip
            · by_cases htx : xt = trip
              · have hw1 : IntKind.i64.wrap (ya + mins) = ya + mins := IntWalk.i64_in _ (by omega)
                have hw2 : IntKind.i64.wrap (xd + mins) = xd + mins := IntWalk.i64_in _ (by omega)
                have hw3 : IntKind.i64.wrap ((ya + mins) + ch) = (ya + mins) + ch := IntWalk.i64_in _ (by omega)
                have HC : Hid (svT cs ch trip mins (m + 1) = decide ((ya + mins) + ch ≤ (xd + mins))) := by
                  show _ = _
                  rw [HSucc.out, HSv.out, late_arr, late_dep, HYT.out, HXT.out, HYA.out, HXD.out, Bool.true_and]
                  simp only [if_pos hty, if_pos htx]
                have hyb : (yt == trip) = true := by simp [hty]
                have hxb : (xt == trip) = true := by simp [htx]
                clear hty htx
                by_cases hle : (ya + mins) + ch ≤ (xd + mins)
                · have hd : decide ((xd + mins) < (ya + mins) + ch) = false := decide_eq_false (by omega)
                  have HS1 : Hid (svT cs ch trip mins (m + 1) = true) := by show _ = _; rw [HC.out]; exact decide_eq_true hle
                  go_wp2_with fail
                  go_quiet (fail)
                  go_wp2_with fail
                  go_roundw
                  case rel => exact ⟨m + 1, by omega, by go_num, HS1, HB.out.trans ((Dr.below ⟨_, rfl⟩).mono hzr)⟩
                  case measure => simp [RowKit.intOf]; omega
                · have hd : decide ((xd + mins) < (ya + mins) + ch) = true := decide_eq_true (by omega)
                  have HS1 : Hid (svT cs ch trip mins (m + 1) = false) := by show _ = _; rw [HC.out]; exact decide_eq_false hle
                  have HQ : Hid (sdF t ch cs trip mins = false) := by show _ = _; unfold sdF; rw [HN.out, Bool.true_and]; exact svT_stop HS1.out _ (by omega)
                  go_wp2_with fail
                  go_quiet (fail)
                  go_wp2_with fail
                  go_ret2
                  exact ⟨by first | (rw [HQ.out, HN.out]; rfl) | (rw [HQ.out, HN.out]; done), HB.out.trans ((Dr.below ⟨_, rfl⟩).mono hzr)⟩
              · have hw1 : IntKind.i64.wrap (ya + mins) = ya + mins := IntWalk.i64_in _ (by omega)
                have hw2 : IntKind.i64.wrap (xd + mins) = xd + mins := IntWalk.i64_in _ (by omega)
                have hw3 : IntKind.i64.wrap ((ya + mins) + ch) = (ya + mins) + ch := IntWalk.i64_in _ (by omega)
                have HC : Hid (svT cs ch trip mins (m + 1) = decide ((ya + mins) + ch ≤ xd)) := by
                  show _ = _
                  rw [HSucc.out, HSv.out, late_arr, late_dep, HYT.out, HXT.out, HYA.out, HXD.out, Bool.true_and]
                  simp only [if_pos hty, if_neg htx]
                have hyb : (yt == trip) = true := by simp [hty]
                have hxb : (xt == trip) = false := by simp [htx]
                clear hty htx
                by_cases hle : (ya + mins) + ch ≤ xd
                · have hd : decide (xd < (ya + mins) + ch) = false := decide_eq_false (by omega)
                  have HS1 : Hid (svT cs ch trip mins (m + 1) = true) := by show _ = _; rw [HC.out]; exact decide_eq_true hle
                  go_wp2_with fail
                  go_quiet (fail)
                  go_wp2_with fail
                  go_roundw
                  case rel => exact ⟨m + 1, by omega, by go_num, HS1, HB.out.trans ((Dr.below ⟨_, rfl⟩).mono hzr)⟩
                  case measure => simp [RowKit.intOf]; omega
                · have hd : decide (xd < (ya + mins) + ch) = true := decide_eq_true (by omega)
                  have HS1 : Hid (svT cs ch trip mins (m + 1) = false) := by show _ = _; rw [HC.out]; exact decide_eq_false hle
                  have HQ : Hid (sdF t ch cs trip mins = false) := by show _ = _; unfold sdF; rw [HN.out, Bool.true_and]; exact svT_stop HS1.out _ (by omega)
                  go_wp2_with fail
                  go_quiet (fail)
                  go_wp2_with fail
                  go_ret2
                  exact ⟨by first | (rw [HQ.out, HN.out]; rfl) | (rw [HQ.out, HN.out]; done), HB.out.trans ((Dr.below ⟨_, rfl⟩).mono hzr)⟩
            · by_cases htx : xt = trip
              · have hw1 : IntKind.i64.wrap (ya + mins) = ya + mins := IntWalk.i64_in _ (by omega)
                have hw2 : IntKind.i64.wrap (xd + mins) = xd + mins := IntWalk.i64_in _ (by omega)
                have hw3 : IntKind.i64.wrap (ya + ch) = ya + ch := IntWalk.i64_in _ (by omega)
                have HC : Hid (svT cs ch trip mins (m + 1) = decide (ya + ch ≤ (xd + mins))) := by
                  show _ = _
                  rw [HSucc.out, HSv.out, late_arr, late_dep, HYT.out, HXT.out, HYA.out, HXD.out, Bool.true_and]
                  simp only [if_neg hty, if_pos htx]
                have hyb : (yt == trip) = false := by simp [hty]
                have hxb : (xt == trip) = true := by simp [htx]
                clear hty htx
                by_cases hle : ya + ch ≤ (xd + mins)
                · have hd : decide ((xd + mins) < ya + ch) = false := decide_eq_false (by omega)
                  have HS1 : Hid (svT cs ch trip mins (m + 1) = true) := by show _ = _; rw [HC.out]; exact decide_eq_true hle
                  go_wp2_with fail
                  go_quiet (fail)
                  go_wp2_with fail
                  go_roundw
                  case rel => exact ⟨m + 1, by omega, by go_num, HS1, HB.out.trans ((Dr.below ⟨_, rfl⟩).mono hzr)⟩
                  case measure => simp [RowKit.intOf]; omega
                · have hd : decide ((xd + mins) < ya + ch) = true := decide_eq_true (by omega)
                  have HS1 : Hid (svT cs ch trip mins (m + 1) = false) := by show _ = _; rw [HC.out]; exact decide_eq_false hle
                  have HQ : Hid (sdF t ch cs trip mins = false) := by show _ = _; unfold sdF; rw [HN.out, Bool.true_and]; exact svT_stop HS1.out _ (by omega)
                  go_wp2_with fail
                  go_quiet (fail)
                  go_wp2_with fail
                  go_ret2
                  exact ⟨by first | (rw [HQ.out, HN.out]; rfl) | (rw [HQ.out, HN.out]; done), HB.out.trans ((Dr.below ⟨_, rfl⟩).mono hzr)⟩
              · have hw1 : IntKind.i64.wrap (ya + mins) = ya + mins := IntWalk.i64_in _ (by omega)
                have hw2 : IntKind.i64.wrap (xd + mins) = xd + mins := IntWalk.i64_in _ (by omega)
                have hw3 : IntKind.i64.wrap (ya + ch) = ya + ch := IntWalk.i64_in _ (by omega)
                have HC : Hid (svT cs ch trip mins (m + 1) = decide (ya + ch ≤ xd)) := by
                  show _ = _
                  rw [HSucc.out, HSv.out, late_arr, late_dep, HYT.out, HXT.out, HYA.out, HXD.out, Bool.true_and]
                  simp only [if_neg hty, if_neg htx]
                have hyb : (yt == trip) = false := by simp [hty]
                have hxb : (xt == trip) = false := by simp [htx]
                clear hty htx
                by_cases hle : ya + ch ≤ xd
                · have hd : decide (xd < ya + ch) = false := decide_eq_false (by omega)
                  have HS1 : Hid (svT cs ch trip mins (m + 1) = true) := by show _ = _; rw [HC.out]; exact decide_eq_true hle
                  go_wp2_with fail
                  go_quiet (fail)
                  go_wp2_with fail
                  go_roundw
                  case rel => exact ⟨m + 1, by omega, by go_num, HS1, HB.out.trans ((Dr.below ⟨_, rfl⟩).mono hzr)⟩
                  case measure => simp [RowKit.intOf]; omega
                · have hd : decide (xd < ya + ch) = true := decide_eq_true (by omega)
                  have HS1 : Hid (svT cs ch trip mins (m + 1) = false) := by show _ = _; rw [HC.out]; exact decide_eq_false hle
                  have HQ : Hid (sdF t ch cs trip mins = false) := by show _ = _; unfold sdF; rw [HN.out, Bool.true_and]; exact svT_stop HS1.out _ (by omega)
                  go_wp2_with fail
                  go_quiet (fail)
                  go_wp2_with fail
                  go_ret2
                  exact ⟨by first | (rw [HQ.out, HN.out]; rfl) | (rw [HQ.out, HN.out]; done), HB.out.trans ((Dr.below ⟨_, rfl⟩).mono hzr)⟩
          · obtain rfl : m = n := by omega
            have hk2 : ¬ (m : Int) + 1 < (cs.length : Int) := by omega
            have HQ : Hid (sdF t ch cs trip mins = true) := by show _ = _; unfold sdF; rw [HN.out, Bool.true_and, show cs.length - 1 = m by omega]; exact HSv.out
            go_wp2_with fail
            go_ret2
            exact ⟨by first | (rw [HQ.out, HN.out]; rfl) | (rw [HQ.out, HN.out]; done), HB.out⟩
      · have HN : Hid (sdB t ch cs trip mins = false) := by show _ = _; unfold sdB; rw [decide_eq_false hm]; simp
        have HQ : Hid (sdF t ch cs trip mins = false) := by show _ = _; unfold sdF; rw [HN.out]; rfl
        clear hans hfd hg hj hfi hpl
        go_enter Try.func21, Try.ntmps21
        go_wp2_with fail
        go_at_call 63
        refine (HA.out _ ((Below.refl _ _).alloc (Nat.le_refl _) _)).mono ?_
        rintro e w1 ⟨rfl, hb1⟩
        have HB1 : Hid (Below w.heap.size w w1) := ((Below.refl _ _).alloc (Nat.le_refl _) _).trans (hb1.mono (by simp))
        have z0 : w1.cell? ⟨w.heap.size, 0, none⟩ = some (.slice a t.net.stops.length c) := bkeep hb1 (by go_simp)
        have z1 : w1.cell? ⟨w.heap.size, 1, none⟩ = some (.slice a' t.net.lines.length c') := bkeep hb1 (by go_simp)
        have z2 : w1.cell? ⟨w.heap.size, 2, none⟩ = some (.slice b t.trips.length d) := bkeep hb1 (by go_simp)
        clear hb1
        go_wp2_with fail
        go_at_call 64
        refine (HJ1.out _ HB1.out).mono ?_
        rintro e w2 ⟨rfl, hb⟩
        have HB2 : Hid (Below w.heap.size w w2) := HB1.out.trans (hb.mono HB1.out.size)
        have z20 := bkeep hb z0
        have z21 := bkeep hb z1
        have z22 := bkeep hb z2
        clear hb z0 z1 z2
        go_wp2_with fail
        go_at_call 65
        refine (HFi.out _ HB2.out).mono ?_
        rintro e w3 ⟨rfl, hb⟩
        have HB3 : Hid (Below w.heap.size w w3) := HB2.out.trans (hb.mono HB2.out.size)
        clear hb z20 z21 z22
        go_wp2_with fail
        go_at_call 66
        refine (l1In_no _ _ _ _ hm).mono ?_
        rintro e w9 ⟨rfl, rfl⟩
        go_wp2_with fail
        go_ret2
        exact ⟨by first | (rw [HQ.out, HN.out]; rfl) | (rw [HQ.out, HN.out]; done), HB3.out⟩

theorem bothSurvivesDelay (t : TTD) (hf : TTFits t) (hs : TTSmall t) (ch : Int) (w1 : (Lit.int .i64 ch).wf = true) (cs : List LegD) (hfl : LegsFit cs) (hsl : LegsSmall cs) (trip : Int) (w3 : (Lit.int .i64 trip).wf = true) (mins : Int) (w4 : (Lit.int .i64 mins).wf = true) : ∃ (r0 r1 : Bool), ∀ (v lv : Value) (w : World), TTAt w v t → LegsAt w lv cs →
    Calls Try.prog 21 #[v, .int .i64 ch, lv, .int .i64 trip, .int .i64 mins] w (fun e w' => e = .returned (.tuple #[.bool r0, .bool r1]) ∧ Below w.heap.size w w') ∧
    Calls Try.prog 23 #[v, .int .i64 ch, lv, .int .i64 trip, .int .i64 mins] w (fun e w' => e = .returned (.tuple #[.bool r0, .bool r1]) ∧ Below w.heap.size w w') :=
  ⟨_, _, fun v lv w h hl => ⟨specSd_any v lv t ch cs trip mins w h hl hf hs hsl, implSd_any v lv t ch cs trip mins w h hl hf hs hsl hfl⟩⟩
end Go.Proofs.Ytmcpafflnccfaaa
