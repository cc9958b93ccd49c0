/-
  What spec.TripText and impl.TripText both return.
-/
import Derived.Test.YtffcgblionlhhaaTripNumber
import Derived.Test.YtffcgblionlhhaaStopTimesOf
import Derived.Test.YtffcgblionlhhaaTripTxP
import Derived.Test.YtffcgblionlhhaaTimeImpl
import Derived.Test.YtffcgblionlhhaaStrApp
import Derived.Deep.RegionHeld
namespace Go.Proofs.Ytffcgblionlhhaa
open Go.RowKit
set_option linter.unusedVariables false
set_option linter.unusedSimpArgs false

/-- the text of the trip at a place -/
def trTx (t : TTD) (p : Nat) : ByteArray := match t.trips[p]? with
  | some x => match t.net.lines[x.line.toNat]? with
    | some l => ⟨(tripTx t.net.stops l x.start l.stops.length).toArray⟩
    | none => ⟨#[]⟩
  | none => ⟨#[]⟩
theorem trTx_at {t : TTD} {p k : Nat} (hp : p < t.trips.length) (hk : (t.trips[p]).line = k) (hkl : k < t.net.lines.length) : trTx t p = ⟨(tripTx t.net.stops t.net.lines[k] (t.trips[p]).start t.net.lines[k].stops.length).toArray⟩ := by
  unfold trTx; rw [List.getElem?_eq_getElem hp]; simp only [hk, Int.toNat_natCast, List.getElem?_eq_getElem hkl]
noncomputable def ttxF (t : TTD) (id : Int) : ByteArray × Bool := if TTGood t ∧ foundB id t.trips = true then (trTx t (placeOf id t.trips), true) else (⟨#[]⟩, false)

/-- a stop time is a time -/
theorem time_mid {l : LineD} {st : Int} (hs : 0 ≤ st) (hb : ∀ r ∈ l.runs, 1 ≤ r ∧ r ≤ 60) (he : st + l.runs.sum ≤ 1799) (p : Nat) : ∃ n : Nat, st + (l.runs.take p).sum = (n : Int) ∧ n ≤ 1799 := by
  have h1 := (sum_bound (l.runs.take p) (fun x hx => hb x (List.mem_of_mem_take hx))).1
  have h2 := (sum_bound (l.runs.drop p) (fun x hx => hb x (List.mem_of_mem_drop hx))).1
  have h3 : l.runs.sum = (l.runs.take p).sum + (l.runs.drop p).sum := by rw [← List.sum_append, List.take_append_drop]
  obtain ⟨n, hn⟩ := Int.eq_ofNat_of_zero_le (show 0 ≤ st + (l.runs.take p).sum by omega)
  exact ⟨n, hn, by omega⟩
theorem keepT5 {W w w' : World} {p0 p1 p2 p3 p4 : Addr} {x0 x1 x2 x3 x4 : Value} (hb : Below w.heap.size w w') (h : w.cell? p0 = some x0 ∧ w.cell? p1 = some x1 ∧ w.cell? p2 = some x2 ∧ w.cell? p3 = some x3 ∧ w.cell? p4 = some x4 ∧ Below W.heap.size W w) :
    w'.cell? p0 = some x0 ∧ w'.cell? p1 = some x1 ∧ w'.cell? p2 = some x2 ∧ w'.cell? p3 = some x3 ∧ w'.cell? p4 = some x4 ∧ Below W.heap.size W w' :=
  ⟨bkeep hb h.1, bkeep hb h.2.1, bkeep hb h.2.2.1, bkeep hb h.2.2.2.1, bkeep hb h.2.2.2.2.1, h.2.2.2.2.2.trans (hb.mono h.2.2.2.2.2.size)⟩
theorem belT5 {W w : World} {p0 p1 p2 p3 p4 : Addr} {x0 x1 x2 x3 x4 : Value} (h : w.cell? p0 = some x0 ∧ w.cell? p1 = some x1 ∧ w.cell? p2 = some x2 ∧ w.cell? p3 = some x3 ∧ w.cell? p4 = some x4 ∧ Below W.heap.size W w) : Below W.heap.size W w := h.2.2.2.2.2
theorem stop_in {l : LineD} {n k : Nat} (h : ∀ s ∈ l.stops, 0 ≤ s ∧ s < (n : Int)) (hk : k < l.stops.length) : ∃ m : Nat, l.stops[k] = (m : Int) ∧ m < n := by
  obtain ⟨h1, h2⟩ := h _ (List.getElem_mem hk)
  obtain ⟨m, hm⟩ := Int.eq_ofNat_of_zero_le h1
  exact ⟨m, hm, by omega⟩

set_option maxRecDepth 100000 in
set_option maxHeartbeats 4000000 in
theorem specTripText_any (v : Value) (t : TTD) (id : Int) (w : World) (hr : TTAt w v t) (hf : TTFits t) (hs : TTSmall t) :
    Calls Try.prog 93 #[v, .int .i64 id] w fun e w' => e = .returned (.tuple #[.string (ttxF t id).1, .bool (ttxF t id).2]) ∧ Below w.heap.size w w' := by
  have HTT := Lib.hid hr
  have HG := Lib.hid (fun W (hW : Below w.heap.size w W) => l5Good_any v t W (hr.below rfl hW) hf)
  have HF := Lib.hid (fun W (hW : Below w.heap.size w W) => l5Find_any v t id W (hr.below rfl hW) hs)
  by_cases hg : TTGood t
  · rw [ttB_yes hg] at HG
    cases hfd : foundB id t.trips with
    | true =>
      obtain ⟨hfi, hpl⟩ := findI_found hg.Asc hfd
      rw [hfi] at HF
      obtain ⟨k, hk, hkl, harr⟩ := hg.line _ hpl
      rw [show ttxF t id = (trTx t (placeOf id t.trips), true) from if_pos ⟨hg, hfd⟩, trTx_at hpl hk hkl]
      have hst := (hg.step _ hpl).2.2.1.2.1
      have hen := (hg.step _ hpl).2.2.1.2.2.2
      rw [harr] at hen
      obtain ⟨hl1, hl2, hl3⟩ := line_facts hg.1 k hkl
      obtain ⟨hsz, hls⟩ := good_sizes hg.1
      obtain ⟨hnm, -, -, -, hsin⟩ := hls _ (List.getElem_mem hkl)
      obtain ⟨s0, s1, r0, r1, -, hL⟩ := l5Line_any v t _ w hr hpl k hk hkl
      have HL := Lib.hid hL
      have HA := Lib.hid (fun p hp => l5At_any v t _ w hr hpl k hk hkl hl2 hl3 hst.1 hst.2 p hp)
      obtain ⟨q0, q1, hqs, hS⟩ := l5Stops_any v t _ w hr hpl k hk hkl
      have HS := Lib.hid hS
      obtain ⟨_, _, he, hqc, hqm, HQ⟩ := ints_open hqs
      simp at he
      obtain ⟨rfl, rfl⟩ := he
      obtain ⟨a, c, a', c', b, d, rfl, hn, -⟩ := tt_open hr
      obtain ⟨_, l', he, hss, -⟩ := hn
      simp at he
      obtain ⟨rfl, rfl⟩ := he
      obtain ⟨_, _, he, hac, ham, HN⟩ := strs_open hss
      simp at he
      obtain ⟨rfl, rfl⟩ := he
      have HTm := Lib.hid (time_mid hst.1 hl3 hen)
      have HIn := Lib.hid (fun k hk => stop_in hsin (k := k) hk)
      have HLe := Lib.hid (tripTx_len t.net.stops t.net.lines[k] t.trips[placeOf id t.trips].start hsz hnm)
      simp only [runSum_zero] at HA
      have hsl : t.net.lines[k].stops.length ≤ 7 := by omega
      have HLR := Lib.hid hl1
      clear hg hfd hfi hk hl1 hl2 hl3 hst hen harr hsz hnm hsin hL hS hss hqs hr
      generalize placeOf id t.trips = p at *
      generalize t.trips[p].start = st at *
      have hp0 : ¬ (p : Int) < 0 := by omega
      simp only
      generalize t.net.lines[k] = l at *
      have hfd : ∀ w : World, (Instr.field 45 (.agg #[.string l.name, .slice s0 l.stops.length s1, .slice r0 l.runs.length r1]) 0).run Try.prog w = .ok (.string l.name) w := fun _ => by kernel_rfl
      have hnl := length_list l.name
      have hadd0 : ∀ W, (Op.stringOp .add l.name ⟨#[58]⟩).run Try.prog W = .ok (.string ⟨(tripTx t.net.stops l st 0).toArray⟩) W := fun W => by
        have := str_add (P := Try.prog) W l.name ⟨#[58]⟩ _ [58] rfl rfl (by have := HLe.out 0; simp only [tripTx, tripHd, List.length_append] at this; simp only [List.length_cons, List.length_nil] at *; omega)
        rw [this]; simp [tripTx, tripHd, atTx]
      clear hnl
      go_enter Try.func93, Try.ntmps93
      go_wp2_with fail
      go_at_call 183
      refine (HF.out _ ((Below.refl _ _).alloc (Nat.le_refl _) _)).mono ?_
      rintro e w1 ⟨rfl, hb1⟩
      have HB1 : Hid (Below w.heap.size w w1) := ((Below.refl _ _).alloc (Nat.le_refl _) _).trans (hb1.mono (by simp))
      have p0 : w1.cell? ⟨w.heap.size, 0, none⟩ = some (.slice a t.net.stops.length c) := bkeep hb1 (by go_simp)
      have p1 : w1.cell? ⟨w.heap.size, 1, none⟩ = some (.slice a' t.net.lines.length c') := bkeep hb1 (by go_simp)
      have p2 : w1.cell? ⟨w.heap.size, 2, none⟩ = some (.slice b t.trips.length d) := bkeep hb1 (by go_simp)
      clear hb1
      go_wp2_with fail
      go_at_call 155
      refine (HG.out _ HB1.out).mono ?_
      rintro e w2 ⟨rfl, hb2⟩
      have HB2 : Hid (Below w.heap.size w w2) := HB1.out.trans (hb2.mono HB1.out.size)
      have q0' := bkeep hb2 p0
      have q1' := bkeep hb2 p1
      have q2' := bkeep hb2 p2
      clear hb2 p0 p1 p2 HB1
      go_wp2_with fail
      go_at_call 167
      refine (HL.out _ HB2.out).mono ?_
      rintro e w3 ⟨rfl, hb3⟩
      have HB3 : Hid (Below w.heap.size w w3) := HB2.out.trans (hb3.mono HB2.out.size)
      have p0 := bkeep hb3 q0'
      have p1 := bkeep hb3 q1'
      have p2 := bkeep hb3 q2'
      clear hb3 q0' q1' q2' HB2
      go_wp2_with fail
      go_at_call 168
      refine (HS.out _ HB3.out).mono ?_
      rintro e w4 ⟨rfl, hb4⟩
      have HB4 : Hid (Below w.heap.size w w4) := HB3.out.trans (hb4.mono HB3.out.size)
      have z0 := bkeep hb4 p0
      have z1 := bkeep hb4 p1
      have z2 := bkeep hb4 p2
      clear hb4 p0 p1 p2 HB3 hadd0 HG HF HL HS hfd
      go_wp2_with fail
      go_loopw [7, 9] (fun s q wr => ∃ k : Nat, k ≤ l.stops.length ∧ q = .int .i64 k ∧ s = .string ⟨(tripTx t.net.stops l st k).toArray⟩ ∧
          wr.cell? ⟨w.heap.size, 0, none⟩ = some (.slice a t.net.stops.length c) ∧ wr.cell? ⟨w.heap.size, 1, none⟩ = some (.slice a' t.net.lines.length c') ∧ wr.cell? ⟨w.heap.size, 2, none⟩ = some (.slice b t.trips.length d) ∧ Hid (Below w.heap.size w wr))
        (fun _ q _ => l.stops.length - (RowKit.intOf q).toNat)
      case atStart => exact ⟨0, Nat.zero_le _, rfl, rfl, z0, z1, z2, HB4⟩
      case round =>
        clear z0 z1 z2 HB4
        obtain ⟨k, hk, rfl, rfl, z0, z1, z2, HB⟩ := hrel
        by_cases hlt : k < l.stops.length
        · obtain ⟨sb, so, rfl, hsb, y0⟩ := HQ.out k hlt
          obtain ⟨m, hm, hmn⟩ := HIn.out k hlt
          obtain ⟨nb, no, rfl, hnb, x0⟩ := HN.out m hmn
          obtain ⟨n, hn, hn1⟩ := HTm.out k
          have HAk := Lib.hid (HA.out k (by have := HLR.out; omega))
          rw [hn] at HAk
          rw [hm] at y0
          have Y0 := bkeep HB.out y0
          have X0 := bkeep HB.out x0
          have HTx := Lib.hid (fun W => l4Text_any n W hn1)
          have hle := HLe.out (k + 1)
          have hsucc := tripTx_succ t.net.stops l st k
          have e1 : nmB t.net.stops (l.stops.getD k 0) = t.net.stops[m] := by rw [getD_in _ trivial hlt, hm, nmB_at _ _ hmn]
          have e2 : tmB l st k = timeC n := by unfold tmB; rw [hn, Int.toNat_natCast]
          rw [e1, e2] at hsucc
          generalize t.net.stops[m] = nm at *
          generalize timeC n = tm at *
          obtain ⟨B0, hB0⟩ : ∃ B0 : ByteArray, B0 = ⟨(tripTx t.net.stops l st k).toArray⟩ := ⟨_, rfl⟩
          obtain ⟨B1, hB1⟩ : ∃ B1 : ByteArray, B1 = ⟨(tripTx t.net.stops l st k ++ [32]).toArray⟩ := ⟨_, rfl⟩
          obtain ⟨B2, hB2⟩ : ∃ B2 : ByteArray, B2 = ⟨(tripTx t.net.stops l st k ++ [32] ++ nm.data.toList).toArray⟩ := ⟨_, rfl⟩
          obtain ⟨B3, hB3⟩ : ∃ B3 : ByteArray, B3 = ⟨(tripTx t.net.stops l st k ++ [32] ++ nm.data.toList ++ [32]).toArray⟩ := ⟨_, rfl⟩
          obtain ⟨B4, hB4⟩ : ∃ B4 : ByteArray, B4 = ⟨(tripTx t.net.stops l st (k + 1)).toArray⟩ := ⟨_, rfl⟩
          have hl4 : (tripTx t.net.stops l st k).length + 2 + nm.data.toList.length + tm.data.toList.length ≤ 9223372036854775807 := by
            rw [hsucc] at hle; simp only [List.length_append, List.length_cons, List.length_nil] at hle; omega
          have hadd1 : ∀ W, (Op.stringOp .add B0 ⟨#[32]⟩).run Try.prog W = .ok (.string B1) W := fun W => by
            rw [hB1]; exact str_add W _ _ _ [32] (by rw [hB0]) rfl (by simp only [List.length_cons, List.length_nil]; omega)
          have hadd2 : ∀ W, (Op.stringOp .add B1 nm).run Try.prog W = .ok (.string B2) W := fun W => by
            rw [hB2]; exact str_add W _ _ _ _ (by rw [hB1]) rfl (by simp only [List.length_append, List.length_cons, List.length_nil]; omega)
          have hadd3 : ∀ W, (Op.stringOp .add B2 ⟨#[32]⟩).run Try.prog W = .ok (.string B3) W := fun W => by
            rw [hB3]; exact str_add W _ _ _ [32] (by rw [hB2]) rfl (by simp only [List.length_append, List.length_cons, List.length_nil]; omega)
          have hadd4 : ∀ W, (Op.stringOp .add B3 tm).run Try.prog W = .ok (.string B4) W := fun W => by
            rw [hB4, hsucc]; exact str_add W _ _ _ _ (by rw [hB3]) rfl (by simp only [List.length_append, List.length_cons, List.length_nil]; omega)
          have HE4 := Lib.hid hB4
          rw [← hB0]
          have hk1 : (k : Int) < (l.stops.length : Int) := by omega
          have hm1 : (m : Int) < (t.net.stops.length : Int) := by omega
          have hbel := HB.out
          clear hB0 hB1 hB2 hB3 hB4 hl4 hsucc hle e1 e2 hn hn1 hm x0 y0 HB
          go_wp2_with fail
          go_region_held3 (fun w' => w'.cell? ⟨w.heap.size, 0, none⟩ = some (.slice (some ⟨nb, no, none⟩) t.net.stops.length c) ∧ w'.cell? ⟨w.heap.size, 1, none⟩ = some (.slice a' t.net.lines.length c') ∧ w'.cell? ⟨w.heap.size, 2, none⟩ = some (.slice b t.trips.length d) ∧ w'.cell? ⟨sb, so + k, none⟩ = some (.int .i64 (m : Int)) ∧ w'.cell? ⟨nb, no + m, none⟩ = some (.string nm) ∧ Below w.heap.size w w')
            (first | (exact ⟨z0, z1, z2, Y0, X0, hbel.drew⟩) | (exact keepT5 hb (by assumption)))
            (first | (go_at_call 169; refine (HAk.out _ (belT5 (by assumption))).mono ?_; rintro e w' ⟨rfl, hb⟩) | (go_at_call 188; refine (HTx.out _).mono ?_; rintro e w' ⟨rfl, hb⟩))
          all_goals
            obtain ⟨g0, g1, g2, -, -, qb⟩ := (by assumption : _ ∧ _)
            clear z0 z1 z2 Y0 X0 hadd1 hadd2 hadd3 hadd4
            go_wp2_with fail
            go_roundw
            case rel => exact ⟨k + 1, by omega, by go_num, by rw [HE4.out], g0, g1, g2, qb⟩
            case measure => simp [RowKit.intOf]; omega
        · have hlt1 : ¬ (k : Int) < (l.stops.length : Int) := by omega
          obtain rfl : k = l.stops.length := by omega
          go_wp2_with fail
          go_ret2
          exact ⟨rfl, HB.out⟩
    | false =>
      have hfi := findI_none hg.Asc hfd
      rw [hfi] at HF
      rw [show ttxF t id = (⟨#[]⟩, false) from if_neg fun h => by rw [hfd] at h; cases h.2]
      obtain ⟨a, c, a', c', b, d, rfl, -, -⟩ := tt_open hr
      clear hg hfd hfi hr hf hs HTT
      go_enter Try.func93, Try.ntmps93
      go_wp2_with fail
      go_at_call 183
      refine (HF.out _ ((Below.refl _ _).alloc (Nat.le_refl _) _)).mono ?_
      rintro e w1 ⟨rfl, hb1⟩
      have HB1 : Hid (Below w.heap.size w w1) := ((Below.refl _ _).alloc (Nat.le_refl _) _).trans (hb1.mono (by simp))
      have p0 : w1.cell? ⟨w.heap.size, 0, none⟩ = some (.slice a t.net.stops.length c) := bkeep hb1 (by go_simp)
      have p1 : w1.cell? ⟨w.heap.size, 1, none⟩ = some (.slice a' t.net.lines.length c') := bkeep hb1 (by go_simp)
      have p2 : w1.cell? ⟨w.heap.size, 2, none⟩ = some (.slice b t.trips.length d) := bkeep hb1 (by go_simp)
      clear hb1
      go_wp2_with fail
      go_at_call 155
      refine (HG.out _ HB1.out).mono ?_
      rintro e w2 ⟨rfl, hb2⟩
      have HB2 : Hid (Below w.heap.size w w2) := HB1.out.trans (hb2.mono HB1.out.size)
      clear hb2 p0 p1 p2
      go_wp2_with fail
      go_ret2
      exact ⟨rfl, HB2.out⟩
  · rw [ttB_no hg] at HG
    rw [show ttxF t id = (⟨#[]⟩, false) from if_neg fun h => hg h.1]
    obtain ⟨a, c, a', c', b, d, rfl, -, -⟩ := tt_open hr
    clear hg hr hf hs HTT
    go_enter Try.func93, Try.ntmps93
    go_wp2_with fail
    go_at_call 183
    refine (HF.out _ ((Below.refl _ _).alloc (Nat.le_refl _) _)).mono ?_
    rintro e w1 ⟨rfl, hb1⟩
    have HB1 : Hid (Below w.heap.size w w1) := ((Below.refl _ _).alloc (Nat.le_refl _) _).trans (hb1.mono (by simp))
    have p0 : w1.cell? ⟨w.heap.size, 0, none⟩ = some (.slice a t.net.stops.length c) := bkeep hb1 (by go_simp)
    have p1 : w1.cell? ⟨w.heap.size, 1, none⟩ = some (.slice a' t.net.lines.length c') := bkeep hb1 (by go_simp)
    have p2 : w1.cell? ⟨w.heap.size, 2, none⟩ = some (.slice b t.trips.length d) := bkeep hb1 (by go_simp)
    clear hb1
    go_wp2_with fail
    go_at_call 155
    refine (HG.out _ HB1.out).mono ?_
    rintro e w2 ⟨rfl, hb2⟩
    have HB2 : Hid (Below w.heap.size w w2) := HB1.out.trans (hb2.mono HB1.out.size)
    clear hb2 p0 p1 p2
    go_wp2_with fail
    go_ret2
    exact ⟨rfl, HB2.out⟩
end Go.Proofs.Ytffcgblionlhhaa
