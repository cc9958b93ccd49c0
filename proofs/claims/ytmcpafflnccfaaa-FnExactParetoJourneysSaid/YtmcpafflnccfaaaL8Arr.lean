/-
  CONTRACT of spec.l8Arrivals: the earliest arrivals with at most some legs.
-/
import Derived.Test.YtmcpafflnccfaaaJrnEnv
import Derived.Test.YtmcpafflnccfaaaFillS
import Derived.Test.YtmcpafflnccfaaaStopTimes
import Derived.Test.YtmcpafflnccfaaaWpRun
import Derived.OrdersHeld
import Derived.Deep.RegionHeld
namespace Go.Proofs.Ytmcpafflnccfaaa
open Go.RowKit Jrn
set_option linter.unusedVariables false
set_option linter.unusedSimpArgs false

theorem gr_set (w : World) (g o : Nat) (u : Value) : w.grownBy (w.setCell ⟨g, o, none⟩ u) (some g) :=
  ⟨rfl, rfl, rfl, by simp [World.setCell], fun q hq hne => Below.heap_setCell _ _ _ _ (fun e => hne (by rw [e]))⟩
theorem set_self (xs : List Int) (i : Nat) : xs.set i (xs.getD i 0) = xs := by
  by_cases h : i < xs.length
  · rw [List.getD_eq_getElem?_getD, List.getElem?_eq_getElem h]; exact List.set_getElem_self h
  · exact List.set_eq_of_length_le (by omega)
/-! all times are in range -/
def InR (xs : List Int) : Prop := ∀ i, -1 ≤ xs.getD i 0 ∧ xs.getD i 0 ≤ 2400
theorem InR.set {xs : List Int} (h : InR xs) (i : Nat) {v : Int} (hv : -1 ≤ v ∧ v ≤ 2400) : InR (xs.set i v) := by
  intro j
  by_cases hi : i < xs.length
  · rw [getD_set _ _ _ _ hi]; split
    · exact hv
    · exact h j
  · rw [List.set_eq_of_length_le (by omega)]; exact h j
theorem nextT_in {best : List Int} {frm at_ wait : Int} {r : RideD} {next : List Int} (hn : InR next) (ht : ∀ x ∈ r.times, 0 ≤ x ∧ x ≤ 2400) (hl : r.times.length = r.stops.length) : ∀ k, k ≤ r.stops.length → InR (nextT best frm at_ wait r next k)
  | 0, _ => hn
  | k + 1, hk => by
    have ih := nextT_in (best := best) (frm := frm) (at_ := at_) (wait := wait) hn ht hl k (by omega)
    simp only [nextT]
    split
    · refine ih.set _ ?_
      have h1 := ht _ (getD_mem (xs := r.times) (k := k) (by omega))
      have h2 := ih (r.stops.getD k 0).toNat
      unfold lowF
      split <;> omega
    · exact ih
theorem roundT_in {best : List Int} {frm at_ wait : Int} {rs : List RideD} {N : Nat} (hn : InR best) (hok : RidesOk rs) (hin : RidesIn N rs) : ∀ i, i ≤ rs.length → InR (roundT best frm at_ wait rs i)
  | 0, _ => hn
  | i + 1, hi => by
    have ih := roundT_in (frm := frm) (at_ := at_) (wait := wait) hn hok hin i (by omega)
    have hlt : i < rs.length := by omega
    simp only [roundT, List.getElem?_eq_getElem hlt]
    exact nextT_in ih (hin.time _ (List.getElem_mem hlt)) (hok.each _ (List.getElem_mem hlt)).len _ (Nat.le_refl _)
theorem arrT_in {N : Nat} {rs : List RideD} {ch frm at_ : Int} (hok : RidesOk rs) (hin : RidesIn N rs) (h0 : 0 ≤ at_) (h1 : at_ ≤ 2400) : ∀ n, InR (arrT N rs ch frm at_ n)
  | 0 => by
    refine InR.set (fun i => ?_) _ (by omega)
    rw [List.getD_eq_getElem?_getD, List.getElem?_replicate]
    split <;> simp
  | n + 1 => roundT_in (arrT_in hok hin h0 h1 n) hok hin _ (Nat.le_refl _)
theorem run_append_ints (w : World) (B n : Nat) (v : Value) (xs : List Int) (hown : w.ownsRow B 3 1 v n (ints xs)) (g off cap : Nat) (ys : List Int) (hy : RowAt w (.slice (some ⟨g, off, none⟩) ys.length cap) (ints ys)) (hn : n + ys.length ≤ 1048576) (hB : B ≤ w.heap.size) :
    ∃ v' w', (Builtin.append_ #[51, 51] 51 #[v, .slice (some ⟨g, off, none⟩) ys.length cap]).run Try.prog w = .ok v' w' ∧ w'.ownsRow B 3 1 v' (n + ys.length) (ints (xs ++ ys)) ∧ w.grownBy w' v.ownBlock ∧ (v'.ownBlock = v.ownBlock ∨ v'.ownBlock = some w.heap.size) := by
  obtain ⟨i, hi, hz0, hz1, hz2⟩ := info_parts infoInt
  obtain ⟨v', w', h1, h2, h3, -, h5⟩ := run_append_own_at (P := Try.prog) (w := w) B 51 51 3 i (.int .i64 0) 1 8 Try.underlying51 hi hz0 hz1 hz2 rfl (by decide) v n (ints xs) hown ⟨g, off, none⟩ ys.length cap (ints ys) (by rw [ints_len]; omega)
    (fun j u hu => by
      obtain ⟨_, _, he, _, _, hcell⟩ := hy
      simp [ints_len] at he
      obtain ⟨rfl, rfl⟩ := he
      obtain ⟨b', o', he, hlt, hc'⟩ := hcell j u hu
      simp at he
      obtain ⟨rfl, rfl⟩ := he
      rw [addr_add]; exact hc')
    (fun u hu => by obtain ⟨z, _, rfl⟩ := List.mem_map.1 hu; rfl) (by unfold maxLen; omega) (by omega) hB
  exact ⟨v', w', h1, by unfold ints at *; rw [List.map_append]; exact h2, h3, h5⟩

set_option maxRecDepth 100000 in
set_option maxHeartbeats 16000000 in
theorem l8Arrivals_any (v : Value) (t : TTD) (ch frm at_ : Int) (n : Nat) (w : World) (hr : TTAt w v t) (hg : TTGood t) (hc0 : 0 ≤ ch) (hc1 : ch ≤ 30) (hf0 : 0 ≤ frm) (hf1 : frm < (t.net.stops.length : Int)) (ha0 : 0 ≤ at_) (ha1 : at_ ≤ 2400) (hn4 : n ≤ 4) :
    Calls Try.prog 85 #[v, .int .i64 ch, .int .i64 frm, .int .i64 at_, .int .i64 (n : Int)] w fun e w' => (∃ v', e = .returned v' ∧ w'.ownsRow w.heap.size 3 1 v' t.net.stops.length (ints (arrT t.net.stops.length (rides t) ch frm at_ n))) ∧ Below w.heap.size w w' := by
  have HTT := Lib.hid hr
  have HG := Lib.hid hg
  have h8 : t.net.stops.length ≤ 8 := hg.1.1.2.1
  have h12 := hg.2.1
  obtain ⟨fN, hfN⟩ := Int.eq_ofNat_of_zero_le hf0
  obtain ⟨a, c, a', c', b, d, rfl, -, -⟩ := tt_open hr
  obtain ⟨N, hN⟩ : ∃ N, t.net.stops.length = N := ⟨_, rfl⟩
  have HRin := Lib.hid (rides_in hg)
  have HRok := Lib.hid (rides_ok hg)
  have HIn := Lib.hid (fun k => arrT_in (ch := ch) (frm := frm) (rides_ok hg) (rides_in hg) ha0 (by omega) k)
  obtain ⟨i0, hi0, hz0, hz1, hz2⟩ := info_parts infoInt
  have hfl : fN < t.net.stops.length := by omega
  clear hr hg hN
  subst hfN
  have hfl2 : (fN : Int) < (t.net.stops.length : Int) := by omega
  have hfl3 : (0 : Int) ≤ (fN : Int) := by omega
  go_enter Try.func85, Try.ntmps85
  go_wp2_with (at_make; refine wpList_make_full _ rfl _ _ 51 rfl (w.heap.size + 1) 3 i0 _ 1 Try.underlying51 hi0 hz0 hz1 .i64 .i64 (t.net.stops.length : Int) (t.net.stops.length : Int) t.net.stops.length rfl rfl rfl rfl ?c1 ?c2 ?c3 ?_)
  case c1 => rw [hz2]; omega
  case c2 => unfold maxLen; omega
  case c3 => simp
  intro w1 hown hgrow
  have hbel1 : Below w.heap.size w w1 := ((Below.refl _ _).alloc (Nat.le_refl _) _).grown hgrow (by simp) (fun g hg => by cases hg)
  have p0 : w1.cell? ⟨w.heap.size, 0, none⟩ = some (.slice a t.net.stops.length c) := hgrow.cell (by go_simp) (by simp)
  have p1 : w1.cell? ⟨w.heap.size, 1, none⟩ = some (.slice a' t.net.lines.length c') := hgrow.cell (by go_simp) (by simp)
  have p2 : w1.cell? ⟨w.heap.size, 2, none⟩ = some (.slice b t.trips.length d) := hgrow.cell (by go_simp) (by simp)
  have hzl := hown.1
  generalize Array.toList (madeCells _ _) = z0 at *
  have HB1 := Lib.hid hbel1
  have HO1 := Lib.hid hown
  clear hgrow hbel1 hown
  go_wp2_with fail
  go_loopw [12] (fun q wr => ∃ k : Nat, k ≤ t.net.stops.length ∧ q = .int .i64 k ∧ (∃ zs : List Value, zs.length = t.net.stops.length ∧ Hid (zs.take k = List.replicate k (.int .i64 (-1))) ∧ Hid (wr.ownsRow (w.heap.size + 1) 3 1 (.slice (some ⟨w.heap.size + 1, 0, none⟩) t.net.stops.length t.net.stops.length) t.net.stops.length zs)) ∧ wr.cell? ⟨w.heap.size, 0, none⟩ = some (.slice a t.net.stops.length c) ∧ wr.cell? ⟨w.heap.size, 1, none⟩ = some (.slice a' t.net.lines.length c') ∧ wr.cell? ⟨w.heap.size, 2, none⟩ = some (.slice b t.trips.length d) ∧ Hid (Below w.heap.size w wr)) (fun q _ => t.net.stops.length - (RowKit.intOf q).toNat)
  case atStart => exact ⟨0, Nat.zero_le _, rfl, ⟨z0, by simpa using hzl, rfl, HO1.out⟩, p0, p1, p2, HB1.out⟩
  case round =>
    clear p0 p1 p2 HB1 HO1 hzl
    obtain ⟨k, hk, rfl, ⟨zs, hzs, HTk, HO⟩, p0, p1, p2, HB⟩ := hrel
    by_cases hlt : k < t.net.stops.length
    · have hk1 : (k : Int) < (t.net.stops.length : Int) := by omega
      have hcell : wr.cell? ⟨w.heap.size + 1, k, none⟩ = some (zs[k]'(by omega)) := by
        have h := HO.out.cellAt k (by omega)
        rw [h]; exact List.getElem?_eq_getElem _
      have hf := fun o => HO.out.frozenAt o
      have HO2 := Lib.hid (HO.out.stored k (.int .i64 (-1))).1
      have HT2 : Hid ((zs.set k (.int .i64 (-1))).take (k + 1) = List.replicate (k + 1) (.int .i64 (-1))) := by
        show _ = _
        rw [List.replicate_succ', ← HTk.out, List.take_succ_eq_append_getElem (by simp; omega), List.getElem_set_self, List.take_set_of_le (Nat.le_refl _)]
      have hgs := gr_set wr (w.heap.size + 1) k (.int .i64 (-1))
      have q0 := gr_cell hgs p0 (by show w.heap.size ≠ w.heap.size + 1; omega)
      have q1 := gr_cell hgs p1 (by show w.heap.size ≠ w.heap.size + 1; omega)
      have q2 := gr_cell hgs p2 (by show w.heap.size ≠ w.heap.size + 1; omega)
      have HB2 : Hid (Below w.heap.size w (wr.setCell ⟨w.heap.size + 1, k, none⟩ (.int .i64 (-1)))) := HB.out.setCell (p := ⟨w.heap.size + 1, k, none⟩) (by show w.heap.size ≤ w.heap.size + 1; omega) _
      generalize zs[k] = old at *
      clear HO HTk HB hgs p0 p1 p2
      go_wp2_with fail
      go_roundw
      case rel => exact ⟨k + 1, by omega, by go_num, ⟨_, by simpa using hzs, HT2, HO2⟩, q0, q1, q2, HB2⟩
      case measure => simp [RowKit.intOf]; omega
    · obtain rfl : k = t.net.stops.length := by omega
      have hk1 : ¬ (t.net.stops.length : Int) < (t.net.stops.length : Int) := by omega
      have hzz : zs = ints (List.replicate t.net.stops.length (-1 : Int)) := by
        have := HTk.out
        rw [List.take_of_length_le (by omega)] at this
        rw [this]; simp [ints]
      subst hzz
      have hcell : wr.cell? ⟨w.heap.size + 1, fN, none⟩ = some (.int .i64 (-1)) := by
        have h := HO.out.cellAt fN (by omega)
        rw [h]; unfold ints; rw [List.getElem?_map, List.getElem?_replicate, if_pos hfl]; rfl
      have hf := fun o => HO.out.frozenAt o
      have HO2 : Hid ((wr.setCell ⟨w.heap.size + 1, fN, none⟩ (.int .i64 at_)).ownsRow (w.heap.size + 1) 3 1 (.slice (some ⟨w.heap.size + 1, 0, none⟩) t.net.stops.length t.net.stops.length) t.net.stops.length (ints (arrT t.net.stops.length (rides t) ch (fN : Int) at_ 0))) := by
        have h := (HO.out.stored fN (.int .i64 at_)).1
        show World.ownsRow _ _ _ _ _ _ _
        have e : ints (arrT t.net.stops.length (rides t) ch (fN : Int) at_ 0) = (ints (List.replicate t.net.stops.length (-1 : Int))).set fN (.int .i64 at_) := by
          unfold ints arrT; rw [List.map_set, Int.toNat_natCast]
        rw [e]; exact h
      have hgs := gr_set wr (w.heap.size + 1) fN (.int .i64 at_)
      have q0 := gr_cell hgs p0 (by show w.heap.size ≠ w.heap.size + 1; omega)
      have q1 := gr_cell hgs p1 (by show w.heap.size ≠ w.heap.size + 1; omega)
      have q2 := gr_cell hgs p2 (by show w.heap.size ≠ w.heap.size + 1; omega)
      have HB2 : Hid (Below w.heap.size w (wr.setCell ⟨w.heap.size + 1, fN, none⟩ (.int .i64 at_))) := HB.out.setCell (p := ⟨w.heap.size + 1, fN, none⟩) (by show w.heap.size ≤ w.heap.size + 1; omega) _
      clear HO HTk HB hgs p0 p1 p2 hk hzs
      go_wp2_with fail
      go_loopw [11, 13] (fun bs q wr => ∃ rn : Nat, rn ≤ n ∧ q = .int .i64 rn ∧ Hid (wr.ownsRow (w.heap.size + 1) 3 1 bs t.net.stops.length (ints (arrT t.net.stops.length (rides t) ch (fN : Int) at_ rn))) ∧ wr.cell? ⟨w.heap.size, 0, none⟩ = some (.slice a t.net.stops.length c) ∧ wr.cell? ⟨w.heap.size, 1, none⟩ = some (.slice a' t.net.lines.length c') ∧ wr.cell? ⟨w.heap.size, 2, none⟩ = some (.slice b t.trips.length d) ∧ Hid (Below w.heap.size w wr)) (fun _ q _ => n - (RowKit.intOf q).toNat)
      case atStart => exact ⟨0, Nat.zero_le _, rfl, HO2.out, q0, q1, q2, HB2.out⟩
      case round =>
        clear q0 q1 q2 HB2 HO2 hf hcell
        obtain ⟨wo, rfl⟩ : ∃ wo : World, wo = wr := ⟨_, rfl⟩
        obtain ⟨rn, hrn, rfl, HOb, p0, p1, p2, HB⟩ := hrel
        obtain ⟨ba, bc, rfl⟩ := own_shape HOb.out
        by_cases hlt2 : rn < n
        · have hrn1 : (rn : Int) < (n : Int) := by omega
          have HInB := Lib.hid (HIn.out rn)
          have hbl := arrT_len t.net.stops.length (rides t) ch (fN : Int) at_ rn
          have HNext : Hid (arrT t.net.stops.length (rides t) ch (fN : Int) at_ (rn + 1) = roundT (arrT t.net.stops.length (rides t) ch (fN : Int) at_ rn) (fN : Int) at_ (if rn = 0 then 0 else ch) (rides t) (rides t).length) := rfl
          generalize arrT t.net.stops.length (rides t) ch (fN : Int) at_ rn = best at *
          obtain ⟨gb, rfl, hgb1, hgb2, hcb⟩ := ownI_at HOb.out (by omega) hbl
          have hlit := row_new wo (w.heap.size + 1) (by have := HB.out.size; omega)
          have hla : Below wo.heap.size wo (wo.alloc (.cells #[] 3)) := (Below.refl _ _).alloc (Nat.le_refl _) _
          obtain ⟨nv, w2, hrun, hown2, hg2, hloc2⟩ := run_append_ints (wo.alloc (.cells #[] 3)) (w.heap.size + 1) 0 _ [] hlit gb 0 bc best (by rw [hbl]; exact (rowAt_own (own_later HOb.out hla))) (by omega) (by simp; have := HB.out.size; omega)
          rw [hbl] at hrun hown2
          simp only [Nat.zero_add, List.nil_append] at hrun hown2
          obtain ⟨na, nc, rfl⟩ := own_shape hown2
          obtain ⟨gn, rfl, hgn1, hgn2, -⟩ := ownI_at hown2 (by omega) hbl
          have hgn3 : wo.heap.size ≤ gn := by
            rcases hloc2 with e | e
            · simp [Value.ownBlock] at e; omega
            · simp [Value.ownBlock] at e; omega
          have hb2 : Below wo.heap.size wo w2 := hla.grown hg2 (by simp) (fun q hq => by simp [Value.ownBlock] at hq; omega)
          have HOn2 := Lib.hid hown2
          have HOb2 := Lib.hid (own_later HOb.out hb2)
          have HB2 : Hid (Below w.heap.size w w2) := HB.out.trans (hb2.mono HB.out.size)
          have q0 := bkeep hb2 p0
          have q1 := bkeep hb2 p1
          have q2 := bkeep hb2 p2
          have hgw : w.heap.size ≤ wo.heap.size := HB.out.size
          have hgbn : gb ≠ gn := by omega
          have hgnb : gn ≠ gb := by omega
          clear hlit hla hown2 hg2 hloc2 hcb hb2 p0 p1 p2 HB HOb
          by_cases hr0 : rn = 0
          · have hr1 : ((rn : Int) == 0) = true := by simp [hr0]
            obtain ⟨wait, hwait⟩ : ∃ wait : Int, wait = 0 := ⟨_, rfl⟩
            have HNext2 : Hid (arrT t.net.stops.length (rides t) ch (fN : Int) at_ (rn + 1) = roundT best (fN : Int) at_ wait (rides t) (rides t).length) := by show _ = _; rw [HNext.out, if_pos hr0, hwait]
            have hw0 : 0 ≤ wait ∧ wait ≤ 30 := by omega
            subst hwait
            clear hr0 HNext
            go_wp2_with (at_builtin; refine wpList_append_run rfl (.tmp 46) (.tmp 47) 51 rfl rfl rfl hrun ?_)
            go_loopw [16] (fun q wr => ∃ i : Nat, i ≤ t.trips.length ∧ q = .int .i64 i ∧ Hid (wr.ownsRow (w.heap.size + 1) 3 1 (.slice (some ⟨gn, 0, none⟩) t.net.stops.length nc) t.net.stops.length (ints (roundT best (fN : Int) at_ (0 : Int) (rides t) i))) ∧ Hid (wr.ownsRow (w.heap.size + 1) 3 1 (.slice (some ⟨gb, 0, none⟩) t.net.stops.length bc) t.net.stops.length (ints best)) ∧ wr.cell? ⟨w.heap.size, 0, none⟩ = some (.slice a t.net.stops.length c) ∧ wr.cell? ⟨w.heap.size, 1, none⟩ = some (.slice a' t.net.lines.length c') ∧ wr.cell? ⟨w.heap.size, 2, none⟩ = some (.slice b t.trips.length d) ∧ Hid (Below w.heap.size w wr)) (fun q _ => t.trips.length - (RowKit.intOf q).toNat)
            case atStart => exact ⟨0, Nat.zero_le _, rfl, HOn2.out, HOb2.out, q0, q1, q2, HB2.out⟩
            case round =>
              clear q0 q1 q2 HB2 HOb2 HOn2 hrun
              obtain ⟨wi, rfl⟩ : ∃ wi : World, wi = wr := ⟨_, rfl⟩
              obtain ⟨i, hi, rfl, HOn, HOb, p0, p1, p2, HB⟩ := hrel
              by_cases hlt3 : i < t.trips.length
              · have hi1 : (i : Int) < (t.trips.length : Int) := by omega
                obtain ⟨s0, s1, hrs, hS⟩ := l5StopsR _ t i w HTT.out HG.out hlt3
                have HS := Lib.hid hS
                have HAll := Lib.hid (fun p hp => l5AtR _ t i w HTT.out HG.out hlt3 p hp)
                have hrm : rideOf t t.trips[i] ∈ rides t := mem_rides hlt3
                have hro := HRok.out.each _ hrm
                have HRs := Lib.hid (HRin.out.stop _ hrm)
                have HRt := Lib.hid (HRin.out.time _ hrm)
                have hrl := hro.len
                have hr26 := ride_bounds HG.out i hlt3
                obtain ⟨sb, sq, rfl, hsb, hsc0⟩ := rowI_at hrs (by omega)
                have HSC := Lib.hid hsc0
                have hnl : (roundT best (fN : Int) at_ (0 : Int) (rides t) i).length = t.net.stops.length := by rw [roundT_len]; exact hbl
                have HSucc : Hid (roundT best (fN : Int) at_ (0 : Int) (rides t) (i + 1) = nextT best (fN : Int) at_ (0 : Int) (rideOf t t.trips[i]) (roundT best (fN : Int) at_ (0 : Int) (rides t) i) (rideOf t t.trips[i]).stops.length) := by
                  show _ = _
                  have hll : i < (rides t).length := by rw [rides_len]; exact hlt3
                  simp only [roundT, List.getElem?_eq_getElem hll, rides_at]
                have HNin := Lib.hid (roundT_in (frm := (fN : Int)) (at_ := at_) (wait := (0 : Int)) HInB.out HRok.out HRin.out i (by rw [rides_len]; omega))
                generalize roundT best (fN : Int) at_ (0 : Int) (rides t) i = next at *
                generalize rideOf t t.trips[i] = r at *
                have hr6 : r.stops.length ≤ 6 := hr26.2
                clear hrs hS hsc0 hro hrm hr26
                go_wp2_with fail
                go_at_call 121
                refine (HS.out _ HB.out).mono ?_
                rintro e w4 ⟨rfl, hb⟩
                have HOn4 := Lib.hid (own_later HOn.out hb)
                have HOb4 := Lib.hid (own_later HOb.out hb)
                have HB4 : Hid (Below w.heap.size w w4) := HB.out.trans (hb.mono HB.out.size)
                have q0 := bkeep hb p0
                have q1 := bkeep hb p1
                have q2 := bkeep hb p2
                clear hb p0 p1 p2 HB HOn HOb HS
                go_wp2_with fail
                go_loopw [17, 19] (fun on q wr => ∃ k : Nat, k ≤ r.stops.length ∧ q = .int .i64 k ∧ on = .bool (onB best (fN : Int) at_ (0 : Int) r k) ∧ Hid (wr.ownsRow (w.heap.size + 1) 3 1 (.slice (some ⟨gn, 0, none⟩) t.net.stops.length nc) t.net.stops.length (ints (nextT best (fN : Int) at_ (0 : Int) r next k))) ∧ Hid (wr.ownsRow (w.heap.size + 1) 3 1 (.slice (some ⟨gb, 0, none⟩) t.net.stops.length bc) t.net.stops.length (ints best)) ∧ wr.cell? ⟨w.heap.size, 0, none⟩ = some (.slice a t.net.stops.length c) ∧ wr.cell? ⟨w.heap.size, 1, none⟩ = some (.slice a' t.net.lines.length c') ∧ wr.cell? ⟨w.heap.size, 2, none⟩ = some (.slice b t.trips.length d) ∧ Hid (Below w.heap.size w wr)) (fun _ q _ => r.stops.length - (RowKit.intOf q).toNat)
                case atStart => exact ⟨0, Nat.zero_le _, rfl, rfl, HOn4.out, HOb4.out, q0, q1, q2, HB4.out⟩
                case round =>
                  clear q0 q1 q2 HB4 HOb4 HOn4
                  obtain ⟨k, hk, rfl, rfl, HOn, HOb, p0, p1, p2, HB⟩ := hrel
                  by_cases hlt4 : k < r.stops.length
                  · have hk1 : (k : Int) < (r.stops.length : Int) := by omega
                    have hsbd := HRs.out _ (getD_mem hlt4)
                    obtain ⟨sN, hsN⟩ := Int.eq_ofNat_of_zero_le hsbd.1
                    have HSk := Lib.hid hsN
                    obtain ⟨tm, htm⟩ : ∃ x, r.times.getD k 0 = x := ⟨_, rfl⟩
                    have htb := HRt.out _ (getD_mem (xs := r.times) (k := k) (by omega))
                    have HTk := Lib.hid htm
                    have HAt := Lib.hid (HAll.out k hlt4)
                    rw [htm] at HAt htb
                    have hsc := bkeep HB.out (HSC.out k hlt4)
                    rw [hsN] at hsc hsbd
                    obtain ⟨bx, hbx⟩ : ∃ x, best.getD sN 0 = x := ⟨_, rfl⟩
                    obtain ⟨nx, hnx⟩ : ∃ x, (nextT best (fN : Int) at_ (0 : Int) r next k).getD sN 0 = x := ⟨_, rfl⟩
                    have hbxb := HInB.out sN
                    rw [hbx] at hbxb
                    have HBx := Lib.hid hbx
                    have HNxv := Lib.hid hnx
                    have hsNN : sN < t.net.stops.length := by omega
                    have hsN1 : (sN : Int) < (t.net.stops.length : Int) := by omega
                    have hsN0 : (0 : Int) ≤ (sN : Int) := by omega
                    have hwr : IntKind.i64.wrap (bx + (0 : Int)) = bx + (0 : Int) := IntWalk.i64_in _ (by omega)
                    clear hsN htm hbx hnx
                    go_wp2_with fail
                    refine wp_region_held_drew (S := (fun w' => w'.cell? ⟨w.heap.size, 0, none⟩ = some (.slice a t.net.stops.length c) ∧ w'.cell? ⟨w.heap.size, 1, none⟩ = some (.slice a' t.net.lines.length c') ∧ w'.cell? ⟨w.heap.size, 2, none⟩ = some (.slice b t.trips.length d) ∧ w'.cell? ⟨sb, sq + k, none⟩ = some (.int .i64 (sN : Int)))) (by kernel_rfl) ?_ (fun hHeld => ?_)
                    · exact ⟨p0, p1, p2, hsc⟩
                    refine wpAnyH_take (i := 0) (v := ?_) (by simp only [List.getElem?_toArray, List.getElem?_cons_zero]; rfl) (by kernel_rfl) (by kernel_rfl) (by kernel_rfl) (by exact fun _ _ _ h => h) (Or.inl ⟨by rfl, ?_⟩) (by assumption) ?_
                    rotate_left
                    · intro w' hSw; obtain ⟨e0, e1, e2, e3⟩ := hSw
                      go_simp; try with_reducible rfl
                    try simp only [Act.put, List.setIfInBounds_toArray, List.set_cons_zero, List.set_cons_succ]
                    refine wpAnyH_take (i := 1) (v := ?_) (by simp only [List.getElem?_toArray, List.getElem?_cons_succ, List.getElem?_cons_zero]; rfl) (by kernel_rfl) (by kernel_rfl) (by kernel_rfl) (by exact fun _ _ _ h => h) (Or.inl ⟨by rfl, ?_⟩) (by assumption) ?_
                    rotate_left
                    · intro w' hSw; obtain ⟨e0, e1, e2, e3⟩ := hSw
                      go_simp; try with_reducible rfl
                    try simp only [Act.put, List.setIfInBounds_toArray, List.set_cons_zero, List.set_cons_succ]
                    refine wpAnyH_take (i := 2) (v := ?_) (by simp only [List.getElem?_toArray, List.getElem?_cons_succ, List.getElem?_cons_zero]; rfl) (by kernel_rfl) (by kernel_rfl) (by kernel_rfl) (by exact fun _ _ _ h => h) (Or.inl ⟨by rfl, ?_⟩) (by assumption) ?_
                    rotate_left
                    · intro w' hSw; obtain ⟨e0, e1, e2, e3⟩ := hSw
                      go_simp; try with_reducible rfl
                    try simp only [Act.put, List.setIfInBounds_toArray, List.set_cons_zero, List.set_cons_succ]
                    refine wpAnyH_take (i := 3) (v := ?_) (by simp only [List.getElem?_toArray, List.getElem?_cons_succ, List.getElem?_cons_zero]; rfl) (by kernel_rfl) (by kernel_rfl) (by kernel_rfl) (by exact fun _ _ _ h => h) (Or.inl ⟨by rfl, ?_⟩) (by assumption) ?_
                    rotate_left
                    · intro w' hSw; obtain ⟨e0, e1, e2, e3⟩ := hSw
                      go_simp; try with_reducible rfl
                    try simp only [Act.put, List.setIfInBounds_toArray, List.set_cons_zero, List.set_cons_succ]
                    refine wpAnyH_take (i := 4) (v := ?_) (by simp only [List.getElem?_toArray, List.getElem?_cons_succ, List.getElem?_cons_zero]; rfl) (by kernel_rfl) (by kernel_rfl) (by kernel_rfl) (by exact fun _ _ _ h => h) (Or.inl ⟨by rfl, ?_⟩) (by assumption) ?_
                    rotate_left
                    · intro w' hSw; obtain ⟨e0, e1, e2, e3⟩ := hSw
                      go_simp; try with_reducible rfl
                    try simp only [Act.put, List.setIfInBounds_toArray, List.set_cons_zero, List.set_cons_succ]
                    refine wpAnyH_take (i := 5) (v := ?_) (by simp only [List.getElem?_toArray, List.getElem?_cons_succ, List.getElem?_cons_zero]; rfl) (by kernel_rfl) (by kernel_rfl) (by kernel_rfl) (by exact fun _ _ _ h => h) (Or.inl ⟨by rfl, ?_⟩) (by assumption) ?_
                    rotate_left
                    · intro w' hSw; obtain ⟨e0, e1, e2, e3⟩ := hSw
                      go_simp; try with_reducible rfl
                    try simp only [Act.put, List.setIfInBounds_toArray, List.set_cons_zero, List.set_cons_succ]
                    refine wpAnyH_take (i := 6) (v := ?_) (by simp only [List.getElem?_toArray, List.getElem?_cons_succ, List.getElem?_cons_zero]; rfl) (by kernel_rfl) (by kernel_rfl) (by kernel_rfl) (by exact fun _ _ _ h => h) (Or.inl ⟨by rfl, ?_⟩) (by assumption) ?_
                    rotate_left
                    · intro w' hSw; obtain ⟨e0, e1, e2, e3⟩ := hSw
                      go_simp; try with_reducible rfl
                    try simp only [Act.put, List.setIfInBounds_toArray, List.set_cons_zero, List.set_cons_succ]
                    refine wpAnyH_ready (rs := [7]) (by kernel_rfl) (by simp) ?_
                    refine AllReadyH.cons (by simp only [List.getElem?_toArray, List.getElem?_cons_succ, List.getElem?_cons_zero]; rfl) (fun K hK => ?_) AllReadyH.nil
                    go_simp
                    go_at_call 122
                    refine (HAt.out _ (HB.out.drew)).mono ?_
                    rintro e w5 ⟨rfl, hb⟩
                    have rb : Below wr.heap.size wr w5 := (Below.refl _ _).drew.trans hb
                    have hS5 : w5.cell? ⟨w.heap.size, 0, none⟩ = some (.slice a t.net.stops.length c) ∧ w5.cell? ⟨w.heap.size, 1, none⟩ = some (.slice a' t.net.lines.length c') ∧ w5.cell? ⟨w.heap.size, 2, none⟩ = some (.slice b t.trips.length d) ∧ w5.cell? ⟨sb, sq + k, none⟩ = some (.int .i64 (sN : Int)) := ⟨bkeep rb p0, bkeep rb p1, bkeep rb p2, bkeep rb hsc⟩
                    have HOn5 := Lib.hid (own_later HOn.out rb)
                    have HOb5 := Lib.hid (own_later HOb.out rb)
                    have HB5 : Hid (Below w.heap.size w w5) := HB.out.trans (rb.mono HB.out.size)
                    have hz5 := rb.size
                    clear hb rb
                    go_wp2_with fail
                    refine hK.out _ _ hS5 (fun hH7 => ?_)
                    clear hK K
                    try simp only [Act.put, List.setIfInBounds_toArray, List.set_cons_zero, List.set_cons_succ]
                    refine wpAnyH_take (i := 8) (v := ?_) (by simp only [List.getElem?_toArray, List.getElem?_cons_succ, List.getElem?_cons_zero]; rfl) (by kernel_rfl) (by kernel_rfl) (by kernel_rfl) (by exact fun _ _ _ h => h) (Or.inl ⟨by rfl, ?_⟩) (by assumption) ?_
                    rotate_left
                    · intro w' hSw; obtain ⟨e0, e1, e2, e3⟩ := hSw
                      go_simp; try with_reducible rfl
                    try simp only [Act.put, List.setIfInBounds_toArray, List.set_cons_zero, List.set_cons_succ]
                    refine wpAnyH_take (i := 9) (v := ?_) (by simp only [List.getElem?_toArray, List.getElem?_cons_succ, List.getElem?_cons_zero]; rfl) (by kernel_rfl) (by kernel_rfl) (by kernel_rfl) (by exact fun _ _ _ h => h) (Or.inl ⟨by rfl, ?_⟩) (by assumption) ?_
                    rotate_left
                    · intro w' hSw; obtain ⟨e0, e1, e2, e3⟩ := hSw
                      go_simp; try with_reducible rfl
                    try simp only [Act.put, List.setIfInBounds_toArray, List.set_cons_zero, List.set_cons_succ]
                    refine wpAnyH_done (by kernel_rfl) ?_ _
                    obtain ⟨q0, q1, q2, -⟩ := hS5
                    clear hH7
                    obtain ⟨_, hgn', -, -, hcn⟩ := ownI_at HOn5.out (by omega) (by rw [nextT_len]; exact hnl)
                    simp at hgn'
                    subst hgn'
                    obtain ⟨_, hgb', -, -, hcb⟩ := ownI_at HOb5.out (by omega) hbl
                    simp at hgb'
                    subst hgb'
                    have nc5 := hcn sN hsNN
                    have bc5 := hcb sN hsNN
                    rw [HNxv.out] at nc5
                    rw [HBx.out] at bc5
                    have hf5 := fun o => HOn5.out.frozenAt o
                    clear hcn hcb p0 p1 p2 hsc HOn HOb HB
                    cases hon : onB best (fN : Int) at_ (0 : Int) r k with
                    | false =>
                      have HNx : Hid (nextT best (fN : Int) at_ (0 : Int) r next (k + 1) = nextT best (fN : Int) at_ (0 : Int) r next k) := by show _ = _; simp only [nextT, hon]; rfl
                      by_cases hsf : sN = fN
                      · by_cases hbp : 0 ≤ bx
                        · have HOnB : Hid (onB best (fN : Int) at_ (0 : Int) r (k + 1) = decide (at_ ≤ tm)) := by
                            show _ = _
                            simp only [onB, hon, Bool.false_or]
                            unfold boardB
                            rw [HSk.out, HTk.out, Int.toNat_natCast, HBx.out, if_pos (show (sN : Int) = (fN : Int) by omega)]
                            simp [hbp]
                          have hsb : ((sN : Int) == (fN : Int)) = true := by simp [hsf]
                          have hsb2 : (sN == fN) = true := by simp [hsf]
                          clear hon hsf
                          have HOn6 : Hid (w5.ownsRow (w.heap.size + 1) 3 1 (.slice (some ⟨gn, 0, none⟩) t.net.stops.length nc) t.net.stops.length (ints (nextT best (fN : Int) at_ (0 : Int) r next (k + 1)))) := by
                            show World.ownsRow _ _ _ _ _ _ _
                            rw [HNx.out]; exact HOn5.out
                          have HOb6 := HOb5
                          have HB6 := HB5
                          have r0 := q0
                          have r1 := q1
                          have r2 := q2
                          clear HOn5 HOb5 HB5
                          go_wp2_with fail
                          go_roundw
                          case rel => exact ⟨k + 1, by omega, by go_num, (by rw [HOnB.out]; try simp), HOn6, HOb6, r0, r1, r2, HB6⟩
                          case measure => simp [RowKit.intOf]; omega
                        · have HOnB : Hid (onB best (fN : Int) at_ (0 : Int) r (k + 1) = false) := by
                            show _ = _
                            simp only [onB, hon, Bool.false_or]
                            unfold boardB
                            rw [HSk.out, HTk.out, Int.toNat_natCast, HBx.out]
                            exact decide_eq_false (fun h => hbp h.1)
                          have hsb : ((sN : Int) == (fN : Int)) = true := by simp [hsf]
                          have hsb2 : (sN == fN) = true := by simp [hsf]
                          clear hon hsf
                          have HOn6 : Hid (w5.ownsRow (w.heap.size + 1) 3 1 (.slice (some ⟨gn, 0, none⟩) t.net.stops.length nc) t.net.stops.length (ints (nextT best (fN : Int) at_ (0 : Int) r next (k + 1)))) := by
                            show World.ownsRow _ _ _ _ _ _ _
                            rw [HNx.out]; exact HOn5.out
                          have HOb6 := HOb5
                          have HB6 := HB5
                          have r0 := q0
                          have r1 := q1
                          have r2 := q2
                          clear HOn5 HOb5 HB5
                          go_wp2_with fail
                          go_roundw
                          case rel => exact ⟨k + 1, by omega, by go_num, (by rw [HOnB.out]; try simp), HOn6, HOb6, r0, r1, r2, HB6⟩
                          case measure => simp [RowKit.intOf]; omega
                      · by_cases hbp : 0 ≤ bx
                        · have HOnB : Hid (onB best (fN : Int) at_ (0 : Int) r (k + 1) = decide (bx + (0 : Int) ≤ tm)) := by
                            show _ = _
                            simp only [onB, hon, Bool.false_or]
                            unfold boardB
                            rw [HSk.out, HTk.out, Int.toNat_natCast, HBx.out, if_neg (show ¬ ((sN : Int) = (fN : Int)) by omega)]
                            simp [hbp]
                          have hsb : ((sN : Int) == (fN : Int)) = false := by simp; omega
                          have hsb2 : (sN == fN) = false := by simp [hsf]
                          clear hon hsf
                          have HOn6 : Hid (w5.ownsRow (w.heap.size + 1) 3 1 (.slice (some ⟨gn, 0, none⟩) t.net.stops.length nc) t.net.stops.length (ints (nextT best (fN : Int) at_ (0 : Int) r next (k + 1)))) := by
                            show World.ownsRow _ _ _ _ _ _ _
                            rw [HNx.out]; exact HOn5.out
                          have HOb6 := HOb5
                          have HB6 := HB5
                          have r0 := q0
                          have r1 := q1
                          have r2 := q2
                          clear HOn5 HOb5 HB5
                          go_wp2_with fail
                          go_roundw
                          case rel => exact ⟨k + 1, by omega, by go_num, (by rw [HOnB.out]; try simp), HOn6, HOb6, r0, r1, r2, HB6⟩
                          case measure => simp [RowKit.intOf]; omega
                        · have HOnB : Hid (onB best (fN : Int) at_ (0 : Int) r (k + 1) = false) := by
                            show _ = _
                            simp only [onB, hon, Bool.false_or]
                            unfold boardB
                            rw [HSk.out, HTk.out, Int.toNat_natCast, HBx.out]
                            exact decide_eq_false (fun h => hbp h.1)
                          have hsb : ((sN : Int) == (fN : Int)) = false := by simp; omega
                          have hsb2 : (sN == fN) = false := by simp [hsf]
                          clear hon hsf
                          have HOn6 : Hid (w5.ownsRow (w.heap.size + 1) 3 1 (.slice (some ⟨gn, 0, none⟩) t.net.stops.length nc) t.net.stops.length (ints (nextT best (fN : Int) at_ (0 : Int) r next (k + 1)))) := by
                            show World.ownsRow _ _ _ _ _ _ _
                            rw [HNx.out]; exact HOn5.out
                          have HOb6 := HOb5
                          have HB6 := HB5
                          have r0 := q0
                          have r1 := q1
                          have r2 := q2
                          clear HOn5 HOb5 HB5
                          go_wp2_with fail
                          go_roundw
                          case rel => exact ⟨k + 1, by omega, by go_num, (by rw [HOnB.out]; try simp), HOn6, HOb6, r0, r1, r2, HB6⟩
                          case measure => simp [RowKit.intOf]; omega
                    | true =>
                      have HOnB : Hid (onB best (fN : Int) at_ (0 : Int) r (k + 1) = true) := by show _ = _; simp only [onB, hon, Bool.true_or]
                      by_cases hneg : nx < 0
                      · have HNx : Hid (nextT best (fN : Int) at_ (0 : Int) r next (k + 1) = (nextT best (fN : Int) at_ (0 : Int) r next k).set sN tm) := by
                          show _ = _
                          simp only [nextT, hon, if_true]
                          rw [HSk.out, HTk.out, Int.toNat_natCast, HNxv.out]
                          unfold lowF
                          rw [if_pos (.inl hneg)]
                        clear hon
                        by_cases hsf : sN = fN
                        · have hsb : ((sN : Int) == (fN : Int)) = true := by simp [hsf]
                          have hsb2 : (sN == fN) = true := by simp [hsf]
                          clear hsf
                          have hc1 : (nx : Int) < 0 := hneg
                          have hst := HOn5.out.stored sN (.int .i64 tm)
                          have HOn6 : Hid ((w5.setCell ⟨gn, sN, none⟩ (.int .i64 tm)).ownsRow (w.heap.size + 1) 3 1 (.slice (some ⟨gn, 0, none⟩) t.net.stops.length nc) t.net.stops.length (ints (nextT best (fN : Int) at_ (0 : Int) r next (k + 1)))) := by
                            have h := hst.1
                            show World.ownsRow _ _ _ _ _ _ _
                            rw [HNx.out]
                            have e : ints ((nextT best (fN : Int) at_ (0 : Int) r next k).set sN tm) = (ints (nextT best (fN : Int) at_ (0 : Int) r next k)).set sN (.int .i64 tm) := by unfold ints; rw [List.map_set]
                            rw [e]; exact h
                          have hgs : w5.grownBy (w5.setCell ⟨gn, sN, none⟩ (.int .i64 tm)) (some gn) := gr_set w5 gn sN _
                          have HOb6 := Lib.hid (gr_own hgs HOb5.out (by simp [Value.ownBlock]; omega))
                          have HB6 : Hid (Below w.heap.size w (w5.setCell ⟨gn, sN, none⟩ (.int .i64 tm))) := HB5.out.setCell (p := ⟨gn, sN, none⟩) (by show w.heap.size ≤ gn; omega) _
                          have r0 := gr_cell hgs q0 (by show w.heap.size ≠ gn; omega)
                          have r1 := gr_cell hgs q1 (by show w.heap.size ≠ gn; omega)
                          have r2 := gr_cell hgs q2 (by show w.heap.size ≠ gn; omega)
                          have bc6 := gr_cell hgs bc5 (by show gb ≠ gn; omega)
                          clear hst hgs
                          clear HOn5 HOb5 HB5
                          go_wp2_with fail
                          go_roundw
                          case rel => exact ⟨k + 1, by omega, by go_num, (by rw [HOnB.out]; try simp), HOn6, HOb6, r0, r1, r2, HB6⟩
                          case measure => simp [RowKit.intOf]; omega
                        · have hsb : ((sN : Int) == (fN : Int)) = false := by simp; omega
                          have hsb2 : (sN == fN) = false := by simp [hsf]
                          clear hsf
                          have hc1 : (nx : Int) < 0 := hneg
                          have hst := HOn5.out.stored sN (.int .i64 tm)
                          have HOn6 : Hid ((w5.setCell ⟨gn, sN, none⟩ (.int .i64 tm)).ownsRow (w.heap.size + 1) 3 1 (.slice (some ⟨gn, 0, none⟩) t.net.stops.length nc) t.net.stops.length (ints (nextT best (fN : Int) at_ (0 : Int) r next (k + 1)))) := by
                            have h := hst.1
                            show World.ownsRow _ _ _ _ _ _ _
                            rw [HNx.out]
                            have e : ints ((nextT best (fN : Int) at_ (0 : Int) r next k).set sN tm) = (ints (nextT best (fN : Int) at_ (0 : Int) r next k)).set sN (.int .i64 tm) := by unfold ints; rw [List.map_set]
                            rw [e]; exact h
                          have hgs : w5.grownBy (w5.setCell ⟨gn, sN, none⟩ (.int .i64 tm)) (some gn) := gr_set w5 gn sN _
                          have HOb6 := Lib.hid (gr_own hgs HOb5.out (by simp [Value.ownBlock]; omega))
                          have HB6 : Hid (Below w.heap.size w (w5.setCell ⟨gn, sN, none⟩ (.int .i64 tm))) := HB5.out.setCell (p := ⟨gn, sN, none⟩) (by show w.heap.size ≤ gn; omega) _
                          have r0 := gr_cell hgs q0 (by show w.heap.size ≠ gn; omega)
                          have r1 := gr_cell hgs q1 (by show w.heap.size ≠ gn; omega)
                          have r2 := gr_cell hgs q2 (by show w.heap.size ≠ gn; omega)
                          have bc6 := gr_cell hgs bc5 (by show gb ≠ gn; omega)
                          clear hst hgs
                          clear HOn5 HOb5 HB5
                          go_wp2_with fail
                          go_roundw
                          case rel => exact ⟨k + 1, by omega, by go_num, (by rw [HOnB.out]; try simp), HOn6, HOb6, r0, r1, r2, HB6⟩
                          case measure => simp [RowKit.intOf]; omega
                      · by_cases hless : tm < nx
                        · have HNx : Hid (nextT best (fN : Int) at_ (0 : Int) r next (k + 1) = (nextT best (fN : Int) at_ (0 : Int) r next k).set sN tm) := by
                            show _ = _
                            simp only [nextT, hon, if_true]
                            rw [HSk.out, HTk.out, Int.toNat_natCast, HNxv.out]
                            unfold lowF
                            rw [if_pos (.inr hless)]
                          clear hon
                          by_cases hsf : sN = fN
                          · have hsb : ((sN : Int) == (fN : Int)) = true := by simp [hsf]
                            have hsb2 : (sN == fN) = true := by simp [hsf]
                            clear hsf
                            have hc1 : ¬ (nx : Int) < 0 := hneg
                            have hc2 : tm < nx := hless
                            have hst := HOn5.out.stored sN (.int .i64 tm)
                            have HOn6 : Hid ((w5.setCell ⟨gn, sN, none⟩ (.int .i64 tm)).ownsRow (w.heap.size + 1) 3 1 (.slice (some ⟨gn, 0, none⟩) t.net.stops.length nc) t.net.stops.length (ints (nextT best (fN : Int) at_ (0 : Int) r next (k + 1)))) := by
                              have h := hst.1
                              show World.ownsRow _ _ _ _ _ _ _
                              rw [HNx.out]
                              have e : ints ((nextT best (fN : Int) at_ (0 : Int) r next k).set sN tm) = (ints (nextT best (fN : Int) at_ (0 : Int) r next k)).set sN (.int .i64 tm) := by unfold ints; rw [List.map_set]
                              rw [e]; exact h
                            have hgs : w5.grownBy (w5.setCell ⟨gn, sN, none⟩ (.int .i64 tm)) (some gn) := gr_set w5 gn sN _
                            have HOb6 := Lib.hid (gr_own hgs HOb5.out (by simp [Value.ownBlock]; omega))
                            have HB6 : Hid (Below w.heap.size w (w5.setCell ⟨gn, sN, none⟩ (.int .i64 tm))) := HB5.out.setCell (p := ⟨gn, sN, none⟩) (by show w.heap.size ≤ gn; omega) _
                            have r0 := gr_cell hgs q0 (by show w.heap.size ≠ gn; omega)
                            have r1 := gr_cell hgs q1 (by show w.heap.size ≠ gn; omega)
                            have r2 := gr_cell hgs q2 (by show w.heap.size ≠ gn; omega)
                            have bc6 := gr_cell hgs bc5 (by show gb ≠ gn; omega)
                            clear hst hgs
                            clear HOn5 HOb5 HB5
                            go_wp2_with fail
                            go_roundw
                            case rel => exact ⟨k + 1, by omega, by go_num, (by rw [HOnB.out]; try simp), HOn6, HOb6, r0, r1, r2, HB6⟩
                            case measure => simp [RowKit.intOf]; omega
                          · have hsb : ((sN : Int) == (fN : Int)) = false := by simp; omega
                            have hsb2 : (sN == fN) = false := by simp [hsf]
                            clear hsf
                            have hc1 : ¬ (nx : Int) < 0 := hneg
                            have hc2 : tm < nx := hless
                            have hst := HOn5.out.stored sN (.int .i64 tm)
                            have HOn6 : Hid ((w5.setCell ⟨gn, sN, none⟩ (.int .i64 tm)).ownsRow (w.heap.size + 1) 3 1 (.slice (some ⟨gn, 0, none⟩) t.net.stops.length nc) t.net.stops.length (ints (nextT best (fN : Int) at_ (0 : Int) r next (k + 1)))) := by
                              have h := hst.1
                              show World.ownsRow _ _ _ _ _ _ _
                              rw [HNx.out]
                              have e : ints ((nextT best (fN : Int) at_ (0 : Int) r next k).set sN tm) = (ints (nextT best (fN : Int) at_ (0 : Int) r next k)).set sN (.int .i64 tm) := by unfold ints; rw [List.map_set]
                              rw [e]; exact h
                            have hgs : w5.grownBy (w5.setCell ⟨gn, sN, none⟩ (.int .i64 tm)) (some gn) := gr_set w5 gn sN _
                            have HOb6 := Lib.hid (gr_own hgs HOb5.out (by simp [Value.ownBlock]; omega))
                            have HB6 : Hid (Below w.heap.size w (w5.setCell ⟨gn, sN, none⟩ (.int .i64 tm))) := HB5.out.setCell (p := ⟨gn, sN, none⟩) (by show w.heap.size ≤ gn; omega) _
                            have r0 := gr_cell hgs q0 (by show w.heap.size ≠ gn; omega)
                            have r1 := gr_cell hgs q1 (by show w.heap.size ≠ gn; omega)
                            have r2 := gr_cell hgs q2 (by show w.heap.size ≠ gn; omega)
                            have bc6 := gr_cell hgs bc5 (by show gb ≠ gn; omega)
                            clear hst hgs
                            clear HOn5 HOb5 HB5
                            go_wp2_with fail
                            go_roundw
                            case rel => exact ⟨k + 1, by omega, by go_num, (by rw [HOnB.out]; try simp), HOn6, HOb6, r0, r1, r2, HB6⟩
                            case measure => simp [RowKit.intOf]; omega
                        · have HNx : Hid (nextT best (fN : Int) at_ (0 : Int) r next (k + 1) = nextT best (fN : Int) at_ (0 : Int) r next k) := by
                            show _ = _
                            simp only [nextT, hon, if_true]
                            rw [HSk.out, HTk.out, Int.toNat_natCast, HNxv.out]
                            unfold lowF
                            rw [if_neg (by omega), ← HNxv.out]
                            exact set_self _ _
                          clear hon
                          by_cases hsf : sN = fN
                          · have hsb : ((sN : Int) == (fN : Int)) = true := by simp [hsf]
                            have hsb2 : (sN == fN) = true := by simp [hsf]
                            clear hsf
                            have hc1 : ¬ (nx : Int) < 0 := hneg
                            have hc2 : ¬ tm < nx := hless
                            have HOn6 : Hid (w5.ownsRow (w.heap.size + 1) 3 1 (.slice (some ⟨gn, 0, none⟩) t.net.stops.length nc) t.net.stops.length (ints (nextT best (fN : Int) at_ (0 : Int) r next (k + 1)))) := by
                              show World.ownsRow _ _ _ _ _ _ _
                              rw [HNx.out]; exact HOn5.out
                            have HOb6 := HOb5
                            have HB6 := HB5
                            have r0 := q0
                            have r1 := q1
                            have r2 := q2
                            clear HOn5 HOb5 HB5
                            go_wp2_with fail
                            go_roundw
                            case rel => exact ⟨k + 1, by omega, by go_num, (by rw [HOnB.out]; try simp), HOn6, HOb6, r0, r1, r2, HB6⟩
                            case measure => simp [RowKit.intOf]; omega
                          · have hsb : ((sN : Int) == (fN : Int)) = false := by simp; omega
                            have hsb2 : (sN == fN) = false := by simp [hsf]
                            clear hsf
                            have hc1 : ¬ (nx : Int) < 0 := hneg
                            have hc2 : ¬ tm < nx := hless
                            have HOn6 : Hid (w5.ownsRow (w.heap.size + 1) 3 1 (.slice (some ⟨gn, 0, none⟩) t.net.stops.length nc) t.net.stops.length (ints (nextT best (fN : Int) at_ (0 : Int) r next (k + 1)))) := by
                              show World.ownsRow _ _ _ _ _ _ _
                              rw [HNx.out]; exact HOn5.out
                            have HOb6 := HOb5
                            have HB6 := HB5
                            have r0 := q0
                            have r1 := q1
                            have r2 := q2
                            clear HOn5 HOb5 HB5
                            go_wp2_with fail
                            go_roundw
                            case rel => exact ⟨k + 1, by omega, by go_num, (by rw [HOnB.out]; try simp), HOn6, HOb6, r0, r1, r2, HB6⟩
                            case measure => simp [RowKit.intOf]; omega
                  · obtain rfl : k = r.stops.length := by omega
                    have hk1 : ¬ (r.stops.length : Int) < (r.stops.length : Int) := by omega
                    have HOn2 : Hid (wr.ownsRow (w.heap.size + 1) 3 1 (.slice (some ⟨gn, 0, none⟩) t.net.stops.length nc) t.net.stops.length (ints (roundT best (fN : Int) at_ (0 : Int) (rides t) (i + 1)))) := by
                      show World.ownsRow _ _ _ _ _ _ _
                      rw [HSucc.out]; exact HOn.out
                    clear HOn
                    go_wp2_with fail
                    refine ⟨⟨i + 1, by omega, by go_num, HOn2, HOb, p0, p1, p2, HB⟩, ?_⟩
                    simp [RowKit.intOf]; omega
              · obtain rfl : i = t.trips.length := by omega
                have hi1 : ¬ (t.trips.length : Int) < (t.trips.length : Int) := by omega
                have HOn2 : Hid (wi.ownsRow (w.heap.size + 1) 3 1 (.slice (some ⟨gn, 0, none⟩) t.net.stops.length nc) t.net.stops.length (ints (arrT t.net.stops.length (rides t) ch (fN : Int) at_ (rn + 1)))) := by
                  show World.ownsRow _ _ _ _ _ _ _
                  rw [HNext2.out, rides_len]; exact HOn.out
                clear HOn
                go_wp2_with fail
                refine ⟨⟨rn + 1, by omega, by go_num, HOn2, p0, p1, p2, HB⟩, ?_⟩
                simp [RowKit.intOf]; omega
          · have hr1 : ((rn : Int) == 0) = false := by simp [hr0]
            have HNext2 : Hid (arrT t.net.stops.length (rides t) ch (fN : Int) at_ (rn + 1) = roundT best (fN : Int) at_ ch (rides t) (rides t).length) := by show _ = _; rw [HNext.out, if_neg hr0]
            have hw0 : 0 ≤ ch ∧ ch ≤ 30 := by omega
            clear hr0 HNext
            go_wp2_with (at_builtin; refine wpList_append_run rfl (.tmp 46) (.tmp 47) 51 rfl rfl rfl hrun ?_)
            go_loopw [16] (fun q wr => ∃ i : Nat, i ≤ t.trips.length ∧ q = .int .i64 i ∧ Hid (wr.ownsRow (w.heap.size + 1) 3 1 (.slice (some ⟨gn, 0, none⟩) t.net.stops.length nc) t.net.stops.length (ints (roundT best (fN : Int) at_ ch (rides t) i))) ∧ Hid (wr.ownsRow (w.heap.size + 1) 3 1 (.slice (some ⟨gb, 0, none⟩) t.net.stops.length bc) t.net.stops.length (ints best)) ∧ wr.cell? ⟨w.heap.size, 0, none⟩ = some (.slice a t.net.stops.length c) ∧ wr.cell? ⟨w.heap.size, 1, none⟩ = some (.slice a' t.net.lines.length c') ∧ wr.cell? ⟨w.heap.size, 2, none⟩ = some (.slice b t.trips.length d) ∧ Hid (Below w.heap.size w wr)) (fun q _ => t.trips.length - (RowKit.intOf q).toNat)
            case atStart => exact ⟨0, Nat.zero_le _, rfl, HOn2.out, HOb2.out, q0, q1, q2, HB2.out⟩
            case round =>
              clear q0 q1 q2 HB2 HOb2 HOn2 hrun
              obtain ⟨wi, rfl⟩ : ∃ wi : World, wi = wr := ⟨_, rfl⟩
              obtain ⟨i, hi, rfl, HOn, HOb, p0, p1, p2, HB⟩ := hrel
              by_cases hlt3 : i < t.trips.length
              · have hi1 : (i : Int) < (t.trips.length : Int) := by omega
                obtain ⟨s0, s1, hrs, hS⟩ := l5StopsR _ t i w HTT.out HG.out hlt3
                have HS := Lib.hid hS
                have HAll := Lib.hid (fun p hp => l5AtR _ t i w HTT.out HG.out hlt3 p hp)
                have hrm : rideOf t t.trips[i] ∈ rides t := mem_rides hlt3
                have hro := HRok.out.each _ hrm
                have HRs := Lib.hid (HRin.out.stop _ hrm)
                have HRt := Lib.hid (HRin.out.time _ hrm)
                have hrl := hro.len
                have hr26 := ride_bounds HG.out i hlt3
                obtain ⟨sb, sq, rfl, hsb, hsc0⟩ := rowI_at hrs (by omega)
                have HSC := Lib.hid hsc0
                have hnl : (roundT best (fN : Int) at_ ch (rides t) i).length = t.net.stops.length := by rw [roundT_len]; exact hbl
                have HSucc : Hid (roundT best (fN : Int) at_ ch (rides t) (i + 1) = nextT best (fN : Int) at_ ch (rideOf t t.trips[i]) (roundT best (fN : Int) at_ ch (rides t) i) (rideOf t t.trips[i]).stops.length) := by
                  show _ = _
                  have hll : i < (rides t).length := by rw [rides_len]; exact hlt3
                  simp only [roundT, List.getElem?_eq_getElem hll, rides_at]
                have HNin := Lib.hid (roundT_in (frm := (fN : Int)) (at_ := at_) (wait := ch) HInB.out HRok.out HRin.out i (by rw [rides_len]; omega))
                generalize roundT best (fN : Int) at_ ch (rides t) i = next at *
                generalize rideOf t t.trips[i] = r at *
                have hr6 : r.stops.length ≤ 6 := hr26.2
                clear hrs hS hsc0 hro hrm hr26
                go_wp2_with fail
                go_at_call 121
                refine (HS.out _ HB.out).mono ?_
                rintro e w4 ⟨rfl, hb⟩
                have HOn4 := Lib.hid (own_later HOn.out hb)
                have HOb4 := Lib.hid (own_later HOb.out hb)
                have HB4 : Hid (Below w.heap.size w w4) := HB.out.trans (hb.mono HB.out.size)
                have q0 := bkeep hb p0
                have q1 := bkeep hb p1
                have q2 := bkeep hb p2
                clear hb p0 p1 p2 HB HOn HOb HS
                go_wp2_with fail
                go_loopw [17, 19] (fun on q wr => ∃ k : Nat, k ≤ r.stops.length ∧ q = .int .i64 k ∧ on = .bool (onB best (fN : Int) at_ ch r k) ∧ Hid (wr.ownsRow (w.heap.size + 1) 3 1 (.slice (some ⟨gn, 0, none⟩) t.net.stops.length nc) t.net.stops.length (ints (nextT best (fN : Int) at_ ch r next k))) ∧ Hid (wr.ownsRow (w.heap.size + 1) 3 1 (.slice (some ⟨gb, 0, none⟩) t.net.stops.length bc) t.net.stops.length (ints best)) ∧ wr.cell? ⟨w.heap.size, 0, none⟩ = some (.slice a t.net.stops.length c) ∧ wr.cell? ⟨w.heap.size, 1, none⟩ = some (.slice a' t.net.lines.length c') ∧ wr.cell? ⟨w.heap.size, 2, none⟩ = some (.slice b t.trips.length d) ∧ Hid (Below w.heap.size w wr)) (fun _ q _ => r.stops.length - (RowKit.intOf q).toNat)
                case atStart => exact ⟨0, Nat.zero_le _, rfl, rfl, HOn4.out, HOb4.out, q0, q1, q2, HB4.out⟩
                case round =>
                  clear q0 q1 q2 HB4 HOb4 HOn4
                  obtain ⟨k, hk, rfl, rfl, HOn, HOb, p0, p1, p2, HB⟩ := hrel
                  by_cases hlt4 : k < r.stops.length
                  · have hk1 : (k : Int) < (r.stops.length : Int) := by omega
                    have hsbd := HRs.out _ (getD_mem hlt4)
                    obtain ⟨sN, hsN⟩ := Int.eq_ofNat_of_zero_le hsbd.1
                    have HSk := Lib.hid hsN
                    obtain ⟨tm, htm⟩ : ∃ x, r.times.getD k 0 = x := ⟨_, rfl⟩
                    have htb := HRt.out _ (getD_mem (xs := r.times) (k := k) (by omega))
                    have HTk := Lib.hid htm
                    have HAt := Lib.hid (HAll.out k hlt4)
                    rw [htm] at HAt htb
                    have hsc := bkeep HB.out (HSC.out k hlt4)
                    rw [hsN] at hsc hsbd
                    obtain ⟨bx, hbx⟩ : ∃ x, best.getD sN 0 = x := ⟨_, rfl⟩
                    obtain ⟨nx, hnx⟩ : ∃ x, (nextT best (fN : Int) at_ ch r next k).getD sN 0 = x := ⟨_, rfl⟩
                    have hbxb := HInB.out sN
                    rw [hbx] at hbxb
                    have HBx := Lib.hid hbx
                    have HNxv := Lib.hid hnx
                    have hsNN : sN < t.net.stops.length := by omega
                    have hsN1 : (sN : Int) < (t.net.stops.length : Int) := by omega
                    have hsN0 : (0 : Int) ≤ (sN : Int) := by omega
                    have hwr : IntKind.i64.wrap (bx + ch) = bx + ch := IntWalk.i64_in _ (by omega)
                    clear hsN htm hbx hnx
                    go_wp2_with fail
                    refine wp_region_held_drew (S := (fun w' => w'.cell? ⟨w.heap.size, 0, none⟩ = some (.slice a t.net.stops.length c) ∧ w'.cell? ⟨w.heap.size, 1, none⟩ = some (.slice a' t.net.lines.length c') ∧ w'.cell? ⟨w.heap.size, 2, none⟩ = some (.slice b t.trips.length d) ∧ w'.cell? ⟨sb, sq + k, none⟩ = some (.int .i64 (sN : Int)))) (by kernel_rfl) ?_ (fun hHeld => ?_)
                    · exact ⟨p0, p1, p2, hsc⟩
                    refine wpAnyH_take (i := 0) (v := ?_) (by simp only [List.getElem?_toArray, List.getElem?_cons_zero]; rfl) (by kernel_rfl) (by kernel_rfl) (by kernel_rfl) (by exact fun _ _ _ h => h) (Or.inl ⟨by rfl, ?_⟩) (by assumption) ?_
                    rotate_left
                    · intro w' hSw; obtain ⟨e0, e1, e2, e3⟩ := hSw
                      go_simp; try with_reducible rfl
                    try simp only [Act.put, List.setIfInBounds_toArray, List.set_cons_zero, List.set_cons_succ]
                    refine wpAnyH_take (i := 1) (v := ?_) (by simp only [List.getElem?_toArray, List.getElem?_cons_succ, List.getElem?_cons_zero]; rfl) (by kernel_rfl) (by kernel_rfl) (by kernel_rfl) (by exact fun _ _ _ h => h) (Or.inl ⟨by rfl, ?_⟩) (by assumption) ?_
                    rotate_left
                    · intro w' hSw; obtain ⟨e0, e1, e2, e3⟩ := hSw
                      go_simp; try with_reducible rfl
                    try simp only [Act.put, List.setIfInBounds_toArray, List.set_cons_zero, List.set_cons_succ]
                    refine wpAnyH_take (i := 2) (v := ?_) (by simp only [List.getElem?_toArray, List.getElem?_cons_succ, List.getElem?_cons_zero]; rfl) (by kernel_rfl) (by kernel_rfl) (by kernel_rfl) (by exact fun _ _ _ h => h) (Or.inl ⟨by rfl, ?_⟩) (by assumption) ?_
                    rotate_left
                    · intro w' hSw; obtain ⟨e0, e1, e2, e3⟩ := hSw
                      go_simp; try with_reducible rfl
                    try simp only [Act.put, List.setIfInBounds_toArray, List.set_cons_zero, List.set_cons_succ]
                    refine wpAnyH_take (i := 3) (v := ?_) (by simp only [List.getElem?_toArray, List.getElem?_cons_succ, List.getElem?_cons_zero]; rfl) (by kernel_rfl) (by kernel_rfl) (by kernel_rfl) (by exact fun _ _ _ h => h) (Or.inl ⟨by rfl, ?_⟩) (by assumption) ?_
                    rotate_left
                    · intro w' hSw; obtain ⟨e0, e1, e2, e3⟩ := hSw
                      go_simp; try with_reducible rfl
                    try simp only [Act.put, List.setIfInBounds_toArray, List.set_cons_zero, List.set_cons_succ]
                    refine wpAnyH_take (i := 4) (v := ?_) (by simp only [List.getElem?_toArray, List.getElem?_cons_succ, List.getElem?_cons_zero]; rfl) (by kernel_rfl) (by kernel_rfl) (by kernel_rfl) (by exact fun _ _ _ h => h) (Or.inl ⟨by rfl, ?_⟩) (by assumption) ?_
                    rotate_left
                    · intro w' hSw; obtain ⟨e0, e1, e2, e3⟩ := hSw
                      go_simp; try with_reducible rfl
                    try simp only [Act.put, List.setIfInBounds_toArray, List.set_cons_zero, List.set_cons_succ]
                    refine wpAnyH_take (i := 5) (v := ?_) (by simp only [List.getElem?_toArray, List.getElem?_cons_succ, List.getElem?_cons_zero]; rfl) (by kernel_rfl) (by kernel_rfl) (by kernel_rfl) (by exact fun _ _ _ h => h) (Or.inl ⟨by rfl, ?_⟩) (by assumption) ?_
                    rotate_left
                    · intro w' hSw; obtain ⟨e0, e1, e2, e3⟩ := hSw
                      go_simp; try with_reducible rfl
                    try simp only [Act.put, List.setIfInBounds_toArray, List.set_cons_zero, List.set_cons_succ]
                    refine wpAnyH_take (i := 6) (v := ?_) (by simp only [List.getElem?_toArray, List.getElem?_cons_succ, List.getElem?_cons_zero]; rfl) (by kernel_rfl) (by kernel_rfl) (by kernel_rfl) (by exact fun _ _ _ h => h) (Or.inl ⟨by rfl, ?_⟩) (by assumption) ?_
                    rotate_left
                    · intro w' hSw; obtain ⟨e0, e1, e2, e3⟩ := hSw
                      go_simp; try with_reducible rfl
                    try simp only [Act.put, List.setIfInBounds_toArray, List.set_cons_zero, List.set_cons_succ]
                    refine wpAnyH_ready (rs := [7]) (by kernel_rfl) (by simp) ?_
                    refine AllReadyH.cons (by simp only [List.getElem?_toArray, List.getElem?_cons_succ, List.getElem?_cons_zero]; rfl) (fun K hK => ?_) AllReadyH.nil
                    go_simp
                    go_at_call 122
                    refine (HAt.out _ (HB.out.drew)).mono ?_
                    rintro e w5 ⟨rfl, hb⟩
                    have rb : Below wr.heap.size wr w5 := (Below.refl _ _).drew.trans hb
                    have hS5 : w5.cell? ⟨w.heap.size, 0, none⟩ = some (.slice a t.net.stops.length c) ∧ w5.cell? ⟨w.heap.size, 1, none⟩ = some (.slice a' t.net.lines.length c') ∧ w5.cell? ⟨w.heap.size, 2, none⟩ = some (.slice b t.trips.length d) ∧ w5.cell? ⟨sb, sq + k, none⟩ = some (.int .i64 (sN : Int)) := ⟨bkeep rb p0, bkeep rb p1, bkeep rb p2, bkeep rb hsc⟩
                    have HOn5 := Lib.hid (own_later HOn.out rb)
                    have HOb5 := Lib.hid (own_later HOb.out rb)
                    have HB5 : Hid (Below w.heap.size w w5) := HB.out.trans (rb.mono HB.out.size)
                    have hz5 := rb.size
                    clear hb rb
                    go_wp2_with fail
                    refine hK.out _ _ hS5 (fun hH7 => ?_)
                    clear hK K
                    try simp only [Act.put, List.setIfInBounds_toArray, List.set_cons_zero, List.set_cons_succ]
                    refine wpAnyH_take (i := 8) (v := ?_) (by simp only [List.getElem?_toArray, List.getElem?_cons_succ, List.getElem?_cons_zero]; rfl) (by kernel_rfl) (by kernel_rfl) (by kernel_rfl) (by exact fun _ _ _ h => h) (Or.inl ⟨by rfl, ?_⟩) (by assumption) ?_
                    rotate_left
                    · intro w' hSw; obtain ⟨e0, e1, e2, e3⟩ := hSw
                      go_simp; try with_reducible rfl
                    try simp only [Act.put, List.setIfInBounds_toArray, List.set_cons_zero, List.set_cons_succ]
                    refine wpAnyH_take (i := 9) (v := ?_) (by simp only [List.getElem?_toArray, List.getElem?_cons_succ, List.getElem?_cons_zero]; rfl) (by kernel_rfl) (by kernel_rfl) (by kernel_rfl) (by exact fun _ _ _ h => h) (Or.inl ⟨by rfl, ?_⟩) (by assumption) ?_
                    rotate_left
                    · intro w' hSw; obtain ⟨e0, e1, e2, e3⟩ := hSw
                      go_simp; try with_reducible rfl
                    try simp only [Act.put, List.setIfInBounds_toArray, List.set_cons_zero, List.set_cons_succ]
                    refine wpAnyH_done (by kernel_rfl) ?_ _
                    obtain ⟨q0, q1, q2, -⟩ := hS5
                    clear hH7
                    obtain ⟨_, hgn', -, -, hcn⟩ := ownI_at HOn5.out (by omega) (by rw [nextT_len]; exact hnl)
                    simp at hgn'
                    subst hgn'
                    obtain ⟨_, hgb', -, -, hcb⟩ := ownI_at HOb5.out (by omega) hbl
                    simp at hgb'
                    subst hgb'
                    have nc5 := hcn sN hsNN
                    have bc5 := hcb sN hsNN
                    rw [HNxv.out] at nc5
                    rw [HBx.out] at bc5
                    have hf5 := fun o => HOn5.out.frozenAt o
                    clear hcn hcb p0 p1 p2 hsc HOn HOb HB
                    cases hon : onB best (fN : Int) at_ ch r k with
                    | false =>
                      have HNx : Hid (nextT best (fN : Int) at_ ch r next (k + 1) = nextT best (fN : Int) at_ ch r next k) := by show _ = _; simp only [nextT, hon]; rfl
                      by_cases hsf : sN = fN
                      · by_cases hbp : 0 ≤ bx
                        · have HOnB : Hid (onB best (fN : Int) at_ ch r (k + 1) = decide (at_ ≤ tm)) := by
                            show _ = _
                            simp only [onB, hon, Bool.false_or]
                            unfold boardB
                            rw [HSk.out, HTk.out, Int.toNat_natCast, HBx.out, if_pos (show (sN : Int) = (fN : Int) by omega)]
                            simp [hbp]
                          have hsb : ((sN : Int) == (fN : Int)) = true := by simp [hsf]
                          have hsb2 : (sN == fN) = true := by simp [hsf]
                          clear hon hsf
                          have HOn6 : Hid (w5.ownsRow (w.heap.size + 1) 3 1 (.slice (some ⟨gn, 0, none⟩) t.net.stops.length nc) t.net.stops.length (ints (nextT best (fN : Int) at_ ch r next (k + 1)))) := by
                            show World.ownsRow _ _ _ _ _ _ _
                            rw [HNx.out]; exact HOn5.out
                          have HOb6 := HOb5
                          have HB6 := HB5
                          have r0 := q0
                          have r1 := q1
                          have r2 := q2
                          clear HOn5 HOb5 HB5
                          go_wp2_with fail
                          go_roundw
                          case rel => exact ⟨k + 1, by omega, by go_num, (by rw [HOnB.out]; try simp), HOn6, HOb6, r0, r1, r2, HB6⟩
                          case measure => simp [RowKit.intOf]; omega
                        · have HOnB : Hid (onB best (fN : Int) at_ ch r (k + 1) = false) := by
                            show _ = _
                            simp only [onB, hon, Bool.false_or]
                            unfold boardB
                            rw [HSk.out, HTk.out, Int.toNat_natCast, HBx.out]
                            exact decide_eq_false (fun h => hbp h.1)
                          have hsb : ((sN : Int) == (fN : Int)) = true := by simp [hsf]
                          have hsb2 : (sN == fN) = true := by simp [hsf]
                          clear hon hsf
                          have HOn6 : Hid (w5.ownsRow (w.heap.size + 1) 3 1 (.slice (some ⟨gn, 0, none⟩) t.net.stops.length nc) t.net.stops.length (ints (nextT best (fN : Int) at_ ch r next (k + 1)))) := by
                            show World.ownsRow _ _ _ _ _ _ _
                            rw [HNx.out]; exact HOn5.out
                          have HOb6 := HOb5
                          have HB6 := HB5
                          have r0 := q0
                          have r1 := q1
                          have r2 := q2
                          clear HOn5 HOb5 HB5
                          go_wp2_with fail
                          go_roundw
                          case rel => exact ⟨k + 1, by omega, by go_num, (by rw [HOnB.out]; try simp), HOn6, HOb6, r0, r1, r2, HB6⟩
                          case measure => simp [RowKit.intOf]; omega
                      · by_cases hbp : 0 ≤ bx
                        · have HOnB : Hid (onB best (fN : Int) at_ ch r (k + 1) = decide (bx + ch ≤ tm)) := by
                            show _ = _
                            simp only [onB, hon, Bool.false_or]
                            unfold boardB
                            rw [HSk.out, HTk.out, Int.toNat_natCast, HBx.out, if_neg (show ¬ ((sN : Int) = (fN : Int)) by omega)]
                            simp [hbp]
                          have hsb : ((sN : Int) == (fN : Int)) = false := by simp; omega
                          have hsb2 : (sN == fN) = false := by simp [hsf]
                          clear hon hsf
                          have HOn6 : Hid (w5.ownsRow (w.heap.size + 1) 3 1 (.slice (some ⟨gn, 0, none⟩) t.net.stops.length nc) t.net.stops.length (ints (nextT best (fN : Int) at_ ch r next (k + 1)))) := by
                            show World.ownsRow _ _ _ _ _ _ _
                            rw [HNx.out]; exact HOn5.out
                          have HOb6 := HOb5
                          have HB6 := HB5
                          have r0 := q0
                          have r1 := q1
                          have r2 := q2
                          clear HOn5 HOb5 HB5
                          go_wp2_with fail
                          go_roundw
                          case rel => exact ⟨k + 1, by omega, by go_num, (by rw [HOnB.out]; try simp), HOn6, HOb6, r0, r1, r2, HB6⟩
                          case measure => simp [RowKit.intOf]; omega
                        · have HOnB : Hid (onB best (fN : Int) at_ ch r (k + 1) = false) := by
                            show _ = _
                            simp only [onB, hon, Bool.false_or]
                            unfold boardB
                            rw [HSk.out, HTk.out, Int.toNat_natCast, HBx.out]
                            exact decide_eq_false (fun h => hbp h.1)
                          have hsb : ((sN : Int) == (fN : Int)) = false := by simp; omega
                          have hsb2 : (sN == fN) = false := by simp [hsf]
                          clear hon hsf
                          have HOn6 : Hid (w5.ownsRow (w.heap.size + 1) 3 1 (.slice (some ⟨gn, 0, none⟩) t.net.stops.length nc) t.net.stops.length (ints (nextT best (fN : Int) at_ ch r next (k + 1)))) := by
                            show World.ownsRow _ _ _ _ _ _ _
                            rw [HNx.out]; exact HOn5.out
                          have HOb6 := HOb5
                          have HB6 := HB5
                          have r0 := q0
                          have r1 := q1
                          have r2 := q2
                          clear HOn5 HOb5 HB5
                          go_wp2_with fail
                          go_roundw
                          case rel => exact ⟨k + 1, by omega, by go_num, (by rw [HOnB.out]; try simp), HOn6, HOb6, r0, r1, r2, HB6⟩
                          case measure => simp [RowKit.intOf]; omega
                    | true =>
                      have HOnB : Hid (onB best (fN : Int) at_ ch r (k + 1) = true) := by show _ = _; simp only [onB, hon, Bool.true_or]
                      by_cases hneg : nx < 0
                      · have HNx : Hid (nextT best (fN : Int) at_ ch r next (k + 1) = (nextT best (fN : Int) at_ ch r next k).set sN tm) := by
                          show _ = _
                          simp only [nextT, hon, if_true]
                          rw [HSk.out, HTk.out, Int.toNat_natCast, HNxv.out]
                          unfold lowF
                          rw [if_pos (.inl hneg)]
                        clear hon
                        by_cases hsf : sN = fN
                        · have hsb : ((sN : Int) == (fN : Int)) = true := by simp [hsf]
                          have hsb2 : (sN == fN) = true := by simp [hsf]
                          clear hsf
                          have hc1 : (nx : Int) < 0 := hneg
                          have hst := HOn5.out.stored sN (.int .i64 tm)
                          have HOn6 : Hid ((w5.setCell ⟨gn, sN, none⟩ (.int .i64 tm)).ownsRow (w.heap.size + 1) 3 1 (.slice (some ⟨gn, 0, none⟩) t.net.stops.length nc) t.net.stops.length (ints (nextT best (fN : Int) at_ ch r next (k + 1)))) := by
                            have h := hst.1
                            show World.ownsRow _ _ _ _ _ _ _
                            rw [HNx.out]
                            have e : ints ((nextT best (fN : Int) at_ ch r next k).set sN tm) = (ints (nextT best (fN : Int) at_ ch r next k)).set sN (.int .i64 tm) := by unfold ints; rw [List.map_set]
                            rw [e]; exact h
                          have hgs : w5.grownBy (w5.setCell ⟨gn, sN, none⟩ (.int .i64 tm)) (some gn) := gr_set w5 gn sN _
                          have HOb6 := Lib.hid (gr_own hgs HOb5.out (by simp [Value.ownBlock]; omega))
                          have HB6 : Hid (Below w.heap.size w (w5.setCell ⟨gn, sN, none⟩ (.int .i64 tm))) := HB5.out.setCell (p := ⟨gn, sN, none⟩) (by show w.heap.size ≤ gn; omega) _
                          have r0 := gr_cell hgs q0 (by show w.heap.size ≠ gn; omega)
                          have r1 := gr_cell hgs q1 (by show w.heap.size ≠ gn; omega)
                          have r2 := gr_cell hgs q2 (by show w.heap.size ≠ gn; omega)
                          have bc6 := gr_cell hgs bc5 (by show gb ≠ gn; omega)
                          clear hst hgs
                          clear HOn5 HOb5 HB5
                          go_wp2_with fail
                          go_roundw
                          case rel => exact ⟨k + 1, by omega, by go_num, (by rw [HOnB.out]; try simp), HOn6, HOb6, r0, r1, r2, HB6⟩
                          case measure => simp [RowKit.intOf]; omega
                        · have hsb : ((sN : Int) == (fN : Int)) = false := by simp; omega
                          have hsb2 : (sN == fN) = false := by simp [hsf]
                          clear hsf
                          have hc1 : (nx : Int) < 0 := hneg
                          have hst := HOn5.out.stored sN (.int .i64 tm)
                          have HOn6 : Hid ((w5.setCell ⟨gn, sN, none⟩ (.int .i64 tm)).ownsRow (w.heap.size + 1) 3 1 (.slice (some ⟨gn, 0, none⟩) t.net.stops.length nc) t.net.stops.length (ints (nextT best (fN : Int) at_ ch r next (k + 1)))) := by
                            have h := hst.1
                            show World.ownsRow _ _ _ _ _ _ _
                            rw [HNx.out]
                            have e : ints ((nextT best (fN : Int) at_ ch r next k).set sN tm) = (ints (nextT best (fN : Int) at_ ch r next k)).set sN (.int .i64 tm) := by unfold ints; rw [List.map_set]
                            rw [e]; exact h
                          have hgs : w5.grownBy (w5.setCell ⟨gn, sN, none⟩ (.int .i64 tm)) (some gn) := gr_set w5 gn sN _
                          have HOb6 := Lib.hid (gr_own hgs HOb5.out (by simp [Value.ownBlock]; omega))
                          have HB6 : Hid (Below w.heap.size w (w5.setCell ⟨gn, sN, none⟩ (.int .i64 tm))) := HB5.out.setCell (p := ⟨gn, sN, none⟩) (by show w.heap.size ≤ gn; omega) _
                          have r0 := gr_cell hgs q0 (by show w.heap.size ≠ gn; omega)
                          have r1 := gr_cell hgs q1 (by show w.heap.size ≠ gn; omega)
                          have r2 := gr_cell hgs q2 (by show w.heap.size ≠ gn; omega)
                          have bc6 := gr_cell hgs bc5 (by show gb ≠ gn; omega)
                          clear hst hgs
                          clear HOn5 HOb5 HB5
                          go_wp2_with fail
                          go_roundw
                          case rel => exact ⟨k + 1, by omega, by go_num, (by rw [HOnB.out]; try simp), HOn6, HOb6, r0, r1, r2, HB6⟩
                          case measure => simp [RowKit.intOf]; omega
                      · by_cases hless : tm < nx
                        · have HNx : Hid (nextT best (fN : Int) at_ ch r next (k + 1) = (nextT best (fN : Int) at_ ch r next k).set sN tm) := by
                            show _ = _
                            simp only [nextT, hon, if_true]
                            rw [HSk.out, HTk.out, Int.toNat_natCast, HNxv.out]
                            unfold lowF
                            rw [if_pos (.inr hless)]
                          clear hon
                          by_cases hsf : sN = fN
                          · have hsb : ((sN : Int) == (fN : Int)) = true := by simp [hsf]
                            have hsb2 : (sN == fN) = true := by simp [hsf]
                            clear hsf
                            have hc1 : ¬ (nx : Int) < 0 := hneg
                            have hc2 : tm < nx := hless
                            have hst := HOn5.out.stored sN (.int .i64 tm)
                            have HOn6 : Hid ((w5.setCell ⟨gn, sN, none⟩ (.int .i64 tm)).ownsRow (w.heap.size + 1) 3 1 (.slice (some ⟨gn, 0, none⟩) t.net.stops.length nc) t.net.stops.length (ints (nextT best (fN : Int) at_ ch r next (k + 1)))) := by
                              have h := hst.1
                              show World.ownsRow _ _ _ _ _ _ _
                              rw [HNx.out]
                              have e : ints ((nextT best (fN : Int) at_ ch r next k).set sN tm) = (ints (nextT best (fN : Int) at_ ch r next k)).set sN (.int .i64 tm) := by unfold ints; rw [List.map_set]
                              rw [e]; exact h
                            have hgs : w5.grownBy (w5.setCell ⟨gn, sN, none⟩ (.int .i64 tm)) (some gn) := gr_set w5 gn sN _
                            have HOb6 := Lib.hid (gr_own hgs HOb5.out (by simp [Value.ownBlock]; omega))
                            have HB6 : Hid (Below w.heap.size w (w5.setCell ⟨gn, sN, none⟩ (.int .i64 tm))) := HB5.out.setCell (p := ⟨gn, sN, none⟩) (by show w.heap.size ≤ gn; omega) _
                            have r0 := gr_cell hgs q0 (by show w.heap.size ≠ gn; omega)
                            have r1 := gr_cell hgs q1 (by show w.heap.size ≠ gn; omega)
                            have r2 := gr_cell hgs q2 (by show w.heap.size ≠ gn; omega)
                            have bc6 := gr_cell hgs bc5 (by show gb ≠ gn; omega)
                            clear hst hgs
                            clear HOn5 HOb5 HB5
                            go_wp2_with fail
                            go_roundw
                            case rel => exact ⟨k + 1, by omega, by go_num, (by rw [HOnB.out]; try simp), HOn6, HOb6, r0, r1, r2, HB6⟩
                            case measure => simp [RowKit.intOf]; omega
                          · have hsb : ((sN : Int) == (fN : Int)) = false := by simp; omega
                            have hsb2 : (sN == fN) = false := by simp [hsf]
                            clear hsf
                            have hc1 : ¬ (nx : Int) < 0 := hneg
                            have hc2 : tm < nx := hless
                            have hst := HOn5.out.stored sN (.int .i64 tm)
                            have HOn6 : Hid ((w5.setCell ⟨gn, sN, none⟩ (.int .i64 tm)).ownsRow (w.heap.size + 1) 3 1 (.slice (some ⟨gn, 0, none⟩) t.net.stops.length nc) t.net.stops.length (ints (nextT best (fN : Int) at_ ch r next (k + 1)))) := by
                              have h := hst.1
                              show World.ownsRow _ _ _ _ _ _ _
                              rw [HNx.out]
                              have e : ints ((nextT best (fN : Int) at_ ch r next k).set sN tm) = (ints (nextT best (fN : Int) at_ ch r next k)).set sN (.int .i64 tm) := by unfold ints; rw [List.map_set]
                              rw [e]; exact h
                            have hgs : w5.grownBy (w5.setCell ⟨gn, sN, none⟩ (.int .i64 tm)) (some gn) := gr_set w5 gn sN _
                            have HOb6 := Lib.hid (gr_own hgs HOb5.out (by simp [Value.ownBlock]; omega))
                            have HB6 : Hid (Below w.heap.size w (w5.setCell ⟨gn, sN, none⟩ (.int .i64 tm))) := HB5.out.setCell (p := ⟨gn, sN, none⟩) (by show w.heap.size ≤ gn; omega) _
                            have r0 := gr_cell hgs q0 (by show w.heap.size ≠ gn; omega)
                            have r1 := gr_cell hgs q1 (by show w.heap.size ≠ gn; omega)
                            have r2 := gr_cell hgs q2 (by show w.heap.size ≠ gn; omega)
                            have bc6 := gr_cell hgs bc5 (by show gb ≠ gn; omega)
                            clear hst hgs
                            clear HOn5 HOb5 HB5
                            go_wp2_with fail
                            go_roundw
                            case rel => exact ⟨k + 1, by omega, by go_num, (by rw [HOnB.out]; try simp), HOn6, HOb6, r0, r1, r2, HB6⟩
                            case measure => simp [RowKit.intOf]; omega
                        · have HNx : Hid (nextT best (fN : Int) at_ ch r next (k + 1) = nextT best (fN : Int) at_ ch r next k) := by
                            show _ = _
                            simp only [nextT, hon, if_true]
                            rw [HSk.out, HTk.out, Int.toNat_natCast, HNxv.out]
                            unfold lowF
                            rw [if_neg (by omega), ← HNxv.out]
                            exact set_self _ _
                          clear hon
                          by_cases hsf : sN = fN
                          · have hsb : ((sN : Int) == (fN : Int)) = true := by simp [hsf]
                            have hsb2 : (sN == fN) = true := by simp [hsf]
                            clear hsf
                            have hc1 : ¬ (nx : Int) < 0 := hneg
                            have hc2 : ¬ tm < nx := hless
                            have HOn6 : Hid (w5.ownsRow (w.heap.size + 1) 3 1 (.slice (some ⟨gn, 0, none⟩) t.net.stops.length nc) t.net.stops.length (ints (nextT best (fN : Int) at_ ch r next (k + 1)))) := by
                              show World.ownsRow _ _ _ _ _ _ _
                              rw [HNx.out]; exact HOn5.out
                            have HOb6 := HOb5
                            have HB6 := HB5
                            have r0 := q0
                            have r1 := q1
                            have r2 := q2
                            clear HOn5 HOb5 HB5
                            go_wp2_with fail
                            go_roundw
                            case rel => exact ⟨k + 1, by omega, by go_num, (by rw [HOnB.out]; try simp), HOn6, HOb6, r0, r1, r2, HB6⟩
                            case measure => simp [RowKit.intOf]; omega
                          · have hsb : ((sN : Int) == (fN : Int)) = false := by simp; omega
                            have hsb2 : (sN == fN) = false := by simp [hsf]
                            clear hsf
                            have hc1 : ¬ (nx : Int) < 0 := hneg
                            have hc2 : ¬ tm < nx := hless
                            have HOn6 : Hid (w5.ownsRow (w.heap.size + 1) 3 1 (.slice (some ⟨gn, 0, none⟩) t.net.stops.length nc) t.net.stops.length (ints (nextT best (fN : Int) at_ ch r next (k + 1)))) := by
                              show World.ownsRow _ _ _ _ _ _ _
                              rw [HNx.out]; exact HOn5.out
                            have HOb6 := HOb5
                            have HB6 := HB5
                            have r0 := q0
                            have r1 := q1
                            have r2 := q2
                            clear HOn5 HOb5 HB5
                            go_wp2_with fail
                            go_roundw
                            case rel => exact ⟨k + 1, by omega, by go_num, (by rw [HOnB.out]; try simp), HOn6, HOb6, r0, r1, r2, HB6⟩
                            case measure => simp [RowKit.intOf]; omega
                  · obtain rfl : k = r.stops.length := by omega
                    have hk1 : ¬ (r.stops.length : Int) < (r.stops.length : Int) := by omega
                    have HOn2 : Hid (wr.ownsRow (w.heap.size + 1) 3 1 (.slice (some ⟨gn, 0, none⟩) t.net.stops.length nc) t.net.stops.length (ints (roundT best (fN : Int) at_ ch (rides t) (i + 1)))) := by
                      show World.ownsRow _ _ _ _ _ _ _
                      rw [HSucc.out]; exact HOn.out
                    clear HOn
                    go_wp2_with fail
                    refine ⟨⟨i + 1, by omega, by go_num, HOn2, HOb, p0, p1, p2, HB⟩, ?_⟩
                    simp [RowKit.intOf]; omega
              · obtain rfl : i = t.trips.length := by omega
                have hi1 : ¬ (t.trips.length : Int) < (t.trips.length : Int) := by omega
                have HOn2 : Hid (wi.ownsRow (w.heap.size + 1) 3 1 (.slice (some ⟨gn, 0, none⟩) t.net.stops.length nc) t.net.stops.length (ints (arrT t.net.stops.length (rides t) ch (fN : Int) at_ (rn + 1)))) := by
                  show World.ownsRow _ _ _ _ _ _ _
                  rw [HNext2.out, rides_len]; exact HOn.out
                clear HOn
                go_wp2_with fail
                refine ⟨⟨rn + 1, by omega, by go_num, HOn2, p0, p1, p2, HB⟩, ?_⟩
                simp [RowKit.intOf]; omega
        · obtain rfl : rn = n := by omega
          have hrn1 : ¬ (rn : Int) < (rn : Int) := by omega
          go_wp2_with fail
          go_ret
          exact ⟨⟨_, rfl, own_base HOb.out (Nat.le_succ _)⟩, HB.out⟩
end Go.Proofs.Ytmcpafflnccfaaa
