/-
  What impl.TripText returns.
-/
import Derived.Test.YtffcgblionlhhaaTripTextS
namespace Go.Proofs.Ytffcgblionlhhaa
open Go.RowKit
set_option linter.unusedVariables false
set_option linter.unusedSimpArgs false

theorem timeText_any (n : Nat) (w : World) (h : n ≤ 1799) : Calls Try.prog 191 #[.int .i64 (n : Int)] w fun e w' => e = .returned (.string (timeC n)) ∧ Below w.heap.size w w' := by
  have H := Lib.hid (implFormatTime_yes n w h)
  generalize timeC n = s at *
  go_enter Try.func191, Try.ntmps191
  go_wp2_with (go_at_call 235; refine H.out.mono ?_; rintro e w' ⟨rfl, hb⟩)
  go_ret
  exact ⟨rfl, hb⟩

set_option maxRecDepth 100000 in
set_option maxHeartbeats 8000000 in
theorem implTripText_any (v : Value) (t : TTD) (id : Int) (w : World) (hr : TTAt w v t) (hf : TTFits t) (hs : TTSmall t) :
    Calls Try.prog 94 #[v, .int .i64 id] w fun e w' => e = .returned (.tuple #[.string (ttxF t id).1, .bool (ttxF t id).2]) ∧ Below w.heap.size w w' := by
  have HN := Lib.hid (fun W (hW : Below w.heap.size w W) => implTripNumber_any v t id W (hr.below rfl hW) hf hs)
  by_cases hok : TTGood t ∧ foundB id t.trips = true
  · rw [show numF t id = ((placeOf id t.trips : Int), true) from if_pos hok] at HN
    rw [show ttxF t id = (trTx t (placeOf id t.trips), true) from if_pos hok]
    obtain ⟨hg, hfd⟩ := hok
    obtain ⟨-, hpl⟩ := findI_found hg.Asc hfd
    obtain ⟨k, hk, hkl, harr⟩ := hg.line _ hpl
    rw [trTx_at hpl hk hkl]
    have hst := (hg.step _ hpl).2.2.1.2.1
    have hen := (hg.step _ hpl).2.2.1.2.2.2
    rw [harr] at hen
    obtain ⟨hl1, hl2, hl3⟩ := line_facts hg.1 k hkl
    obtain ⟨hsz, hls⟩ := good_sizes hg.1
    obtain ⟨hnm, -, -, -, hsin⟩ := hls _ (List.getElem_mem hkl)
    obtain ⟨a, c, a', c', b, d, rfl, hn, ht⟩ := tt_open hr
    have HTm := Lib.hid (fun W (hW : Below w.heap.size w W) => stopTimesOf_any _ t.net (t.trips[placeOf id t.trips]) W (hn.below rfl hW) k hk hkl hl2 hl3 hst.1 hst.2)
    obtain ⟨lb, lo, s0, s1, r0, r1, rfl, hlb, l0, l1, l2, hrs, hrr⟩ := net_line hn k hkl
    obtain ⟨_, l', he, hss, -⟩ := hn
    simp at he
    obtain ⟨rfl, rfl⟩ := he
    obtain ⟨_, _, he, hac, ham, HNm⟩ := strs_open hss
    simp at he
    obtain ⟨rfl, rfl⟩ := he
    obtain ⟨_, _, he, hqc, hqm, HQ⟩ := ints_open hrs
    simp at he
    obtain ⟨rfl, rfl⟩ := he
    obtain ⟨g, go, rfl, hgb, y0, y1, y2⟩ := trip_at ht _ hpl
    have HTi := Lib.hid (time_mid hst.1 hl3 hen)
    have HIn := Lib.hid (fun k hk => stop_in hsin (k := k) hk)
    have HLe := Lib.hid (tripTx_len t.net.stops t.net.lines[k] t.trips[placeOf id t.trips].start hsz hnm)
    have hsl : t.net.lines[k].stops.length ≤ 7 := by omega
    have HLR := Lib.hid hl1
    rw [hk] at y1
    clear hg hfd hl1 hl2 hl3 hst hen harr hsz hnm hsin hss hrs hrr hr hf hs ht
    generalize placeOf id t.trips = p at *
    have hp1 : (p : Int) < (t.trips.length : Int) := by omega
    have hp0 : (0 : Int) ≤ (p : Int) := by omega
    have hk1 : (k : Int) < (t.net.lines.length : Int) := by omega
    simp only
    unfold tripV at HTm
    generalize t.trips[p] = x at *
    obtain ⟨xi, xl, st⟩ := x
    simp only at *
    subst hk
    generalize t.net.lines[k] = l at *
    have hadd0 : ∀ W, (Op.stringOp .add l.name ⟨#[58]⟩).run Try.prog W = .ok (.string ⟨(tripHd l).toArray⟩) W := fun W =>
      str_add (P := Try.prog) W l.name ⟨#[58]⟩ _ [58] rfl rfl (by have := HLe.out 0; simp only [tripTx, tripHd, List.length_append] at this; simp only [List.length_cons, List.length_nil] at *; omega)
    go_enter Try.func94, Try.ntmps94
    go_wp2_with fail
    go_at_call 179
    refine (HN.out _ ((Below.refl _ _).alloc (Nat.le_refl _) _)).mono ?_
    rintro e w1 ⟨rfl, hb1⟩
    have HB1 : Hid (Below w.heap.size w w1) := ((Below.refl _ _).alloc (Nat.le_refl _) _).trans (hb1.mono (by simp))
    have q0 : w1.cell? ⟨w.heap.size, 0, none⟩ = some (.slice a t.net.stops.length c) := bkeep hb1 (by go_simp)
    have q1 : w1.cell? ⟨w.heap.size, 1, none⟩ = some (.slice (some ⟨lb, lo, none⟩) t.net.lines.length c') := bkeep hb1 (by go_simp)
    have q2 : w1.cell? ⟨w.heap.size, 2, none⟩ = some (.slice (some ⟨g, go, none⟩) t.trips.length d) := bkeep hb1 (by go_simp)
    have x0 := bkeep HB1.out y0
    have x1 := bkeep HB1.out y1
    have x2 := bkeep HB1.out y2
    have m0 := bkeep HB1.out l0
    have m1 := bkeep HB1.out l1
    have m2 := bkeep HB1.out l2
    have hz1 : w.heap.size < w1.heap.size := by have := hb1.size; simp at this; omega
    have hgw : g < w1.heap.size := by omega
    have hlw : lb < w1.heap.size := by omega
    have hlw2 : lb < w1.heap.size + 1 := by omega
    have hww2 : w.heap.size < w1.heap.size + 1 := by omega
    have hww3 : w.heap.size < w1.heap.size + 1 + 1 := by omega
    clear hb1 y0 y1 y2 l0 l1 l2
    go_wp2_with fail
    go_at_call 181
    refine (HTm.out _ (((HB1.out.alloc HB1.out.size _).alloc (by simp; omega) _).alloc (by simp; omega) _)).mono ?_
    rintro e w2 ⟨⟨v', rfl, hown⟩, hb2⟩
    have hz2 : w1.heap.size + 3 ≤ w2.heap.size := by have := hb2.size; simp at this; omega
    have HB2 : Hid (Below w.heap.size w w2) := (((HB1.out.alloc HB1.out.size _).alloc (by simp; omega) _).alloc (by simp; omega) _).trans (hb2.mono (by simp; omega))
    have z0 : w2.cell? ⟨w.heap.size, 0, none⟩ = some (.slice a t.net.stops.length c) := bkeep hb2 (by go_simp)
    have z1 : w2.cell? ⟨w1.heap.size + 1, 1, none⟩ = some (.slice s0 l.stops.length s1) := bkeep hb2 (by go_simp)
    have HOwn0 : Hid (w2.ownsRow (w1.heap.size + 2) 9 1 (.slice (some ⟨w1.heap.size + 2, 0, none⟩) 1 1) 1 (strs (tripW t.net.stops l st 0))) := by
      show World.ownsRow _ _ _ _ _ _ _
      refine own_later ?_ hb2
      have h := World.ownsRow_lit (base := w1.heap.size + 2) (e := 9) (size := 1) ((w1.alloc (.cells #[.int .i64 xi, .int .i64 (k : Int), .int .i64 st] 93 (0, 0))).alloc (.cells #[.string l.name, .slice s0 l.stops.length s1, .slice r0 l.runs.length r1] 45 (0, 0))) #[.string ⟨(tripHd l).toArray⟩] 1 (by simp) (by decide) (by simp)
      simpa [strs, tripW_zero] using h
    obtain ⟨ta, tc, rfl⟩ := own_shape hown
    have hrow := rowAt_own hown
    obtain ⟨_, _, he, htc, htm, HTc⟩ := ints_open hrow
    simp only [tk_len, Value.slice.injEq, true_and] at he
    obtain ⟨rfl, rfl⟩ := he
    have HTb := Lib.hid (fun g hg => hown.lt g hg)
    have hrl : (l.runs.length : Int) + 1 = (l.stops.length : Int) := by have := HLR.out; omega
    clear hb2 q0 q1 q2 x0 x1 x2 m0 m1 m2 hown hrow HTm HN HB1 hadd0
    go_wp2_with fail
    go_loopw [10, 42] (fun o q wr => ∃ k : Nat, k ≤ l.stops.length ∧ q = .int .i64 k ∧ (∃ oa oc, o = .slice oa (1 + 2 * k) oc ∧ Hid (wr.ownsRow (w1.heap.size + 2) 9 1 (.slice oa (1 + 2 * k) oc) (1 + 2 * k) (strs (tripW t.net.stops l st k))) ∧ Hid (∀ g, (Value.slice oa (1 + 2 * k) oc).ownBlock = some g → g = w1.heap.size + 2 ∨ w2.heap.size ≤ g)) ∧
        Hid (∀ g, g < w2.heap.size → g ≠ w1.heap.size + 2 → wr.heap[g]? = w2.heap[g]?) ∧ w2.heap.size ≤ wr.heap.size ∧ Hid (Below w.heap.size w wr))
      (fun _ q _ => l.stops.length - (RowKit.intOf q).toNat)
    case atStart => exact ⟨0, Nat.zero_le _, rfl, ⟨_, _, rfl, HOwn0, fun g hg => by simp [Value.ownBlock] at hg; omega⟩, fun _ _ _ => rfl, Nat.le_refl _, HB2⟩
    case round =>
      clear HOwn0 HB2
      obtain ⟨k, hk, rfl, ⟨oa, oc, rfl, HOwn, HBlk⟩, HKp, hzr, HB⟩ := hrel
      by_cases hlt : k < l.stops.length
      · obtain ⟨sb, so, rfl, hsb, y0⟩ := HQ.out k hlt
        obtain ⟨m, hm, hmn⟩ := HIn.out k hlt
        obtain ⟨nb, no, rfl, hnb, x0⟩ := HNm.out m hmn
        obtain ⟨n, hn, hn1⟩ := HTi.out k
        obtain ⟨tb, tq, rfl, htb, t0⟩ := HTc.out k (by rw [tk_len]; have := HLR.out; omega)
        have htk : (tk st l.runs (l.runs.length + 1))[k]'(by rw [tk_len]; have := HLR.out; omega) = (n : Int) := by
          have := tk_get st l.runs (l.runs.length + 1) k (by have := HLR.out; omega)
          rw [List.getElem?_eq_getElem (by rw [tk_len]; have := HLR.out; omega)] at this
          rw [hn] at this
          exact Option.some.inj this
        rw [htk] at t0
        rw [hm] at y0
        have hkp := fun (q o : Nat) (h1 : q < w2.heap.size) (h2 : q ≠ w1.heap.size + 2) => World.cell?_of_block (a := ⟨q, o, none⟩) (HKp.out q h1 h2)
        have Y0 := bkeep HB.out y0
        have X0 := bkeep HB.out x0
        have hTB := (HTb.out tb rfl).1
        simp at hTB
        have T0 := (hkp tb (tq + k) htb (by omega)).trans t0
        have Z0 := (hkp w.heap.size 0 (by omega) (by omega)).trans z0
        have Z1 := (hkp (w1.heap.size + 1) 1 (by omega) (by omega)).trans z1
        have HTx := Lib.hid (fun W => timeText_any n W hn1)
        have hsucc := tripW_succ t.net.stops l st k
        have e1 : nmB t.net.stops (l.stops.getD k 0) = t.net.stops[m] := by rw [getD_in _ trivial hlt, hm, nmB_at _ _ hmn]
        have e2 : tmB l st k = timeC n := by unfold tmB; rw [hn, Int.toNat_natCast]
        rw [e1, e2] at hsucc
        have HSucc := Lib.hid hsucc
        generalize t.net.stops[m] = nm at *
        generalize timeC n = tm at *
        have hk2 : (k : Int) < (l.runs.length : Int) + 1 := by omega
        have hk3 : (k : Int) < (l.stops.length : Int) := by omega
        have hm1 : (m : Int) < (t.net.stops.length : Int) := by omega
        have hbel := HB.out
        clear hsucc e1 e2 hn hn1 hm x0 y0 t0 htk hkp z0 z1 hTB
        have z0 := Z0
        have z1 := Z1
        clear Z0 Z1
        go_wp2_with fail
        refine wp_region_held_drew (S := (fun w' => w'.cell? ⟨w.heap.size, 0, none⟩ = some (.slice (some ⟨nb, no, none⟩) t.net.stops.length c) ∧ w'.cell? ⟨w1.heap.size + 1, 1, none⟩ = some (.slice (some ⟨sb, so, none⟩) l.stops.length s1) ∧ w'.cell? ⟨sb, so + k, none⟩ = some (.int .i64 (m : Int)) ∧ w'.cell? ⟨nb, no + m, none⟩ = some (.string nm) ∧ Below w.heap.size w w')) (by kernel_rfl) ?_ (fun hHeld => ?_)
        · exact ⟨z0, z1, Y0, X0, hbel.drew⟩
        refine wpAnyH_take (i := 0) (v := ?_) (by simp only [List.getElem?_toArray, List.getElem?_cons_zero]; rfl) (by kernel_rfl) (by kernel_rfl) (by kernel_rfl) (by exact fun _ _ _ h => h) (Or.inl ⟨by rfl, ?_⟩) (by assumption) ?_
        rotate_left
        · intro w' hSw; obtain ⟨e1, e2, e3, e4, _⟩ := hSw
          go_simp; try with_reducible rfl
        try simp only [Act.put, List.setIfInBounds_toArray, List.set_cons_zero, List.set_cons_succ]
        refine wpAnyH_take (i := 1) (v := ?_) (by simp only [List.getElem?_toArray, List.getElem?_cons_succ, List.getElem?_cons_zero]; rfl) (by kernel_rfl) (by kernel_rfl) (by kernel_rfl) (by exact fun _ _ _ h => h) (Or.inl ⟨by rfl, ?_⟩) (by assumption) ?_
        rotate_left
        · intro w' hSw; obtain ⟨e1, e2, e3, e4, _⟩ := hSw
          go_simp; try with_reducible rfl
        try simp only [Act.put, List.setIfInBounds_toArray, List.set_cons_zero, List.set_cons_succ]
        refine wpAnyH_take (i := 2) (v := ?_) (by simp only [List.getElem?_toArray, List.getElem?_cons_succ, List.getElem?_cons_zero]; rfl) (by kernel_rfl) (by kernel_rfl) (by kernel_rfl) (by exact fun _ _ _ h => h) (Or.inl ⟨by rfl, ?_⟩) (by assumption) ?_
        rotate_left
        · intro w' hSw; obtain ⟨e1, e2, e3, e4, _⟩ := hSw
          go_simp; try with_reducible rfl
        try simp only [Act.put, List.setIfInBounds_toArray, List.set_cons_zero, List.set_cons_succ]
        refine wpAnyH_take (i := 3) (v := ?_) (by simp only [List.getElem?_toArray, List.getElem?_cons_succ, List.getElem?_cons_zero]; rfl) (by kernel_rfl) (by kernel_rfl) (by kernel_rfl) (by exact fun _ _ _ h => h) (Or.inl ⟨by rfl, ?_⟩) (by assumption) ?_
        rotate_left
        · intro w' hSw; obtain ⟨e1, e2, e3, e4, _⟩ := hSw
          go_simp; try with_reducible rfl
        try simp only [Act.put, List.setIfInBounds_toArray, List.set_cons_zero, List.set_cons_succ]
        refine wpAnyH_take (i := 4) (v := ?_) (by simp only [List.getElem?_toArray, List.getElem?_cons_succ, List.getElem?_cons_zero]; rfl) (by kernel_rfl) (by kernel_rfl) (by kernel_rfl) (by exact fun _ _ _ h => h) (Or.inl ⟨by rfl, ?_⟩) (by assumption) ?_
        rotate_left
        · intro w' hSw; obtain ⟨e1, e2, e3, e4, _⟩ := hSw
          go_simp; try with_reducible rfl
        try simp only [Act.put, List.setIfInBounds_toArray, List.set_cons_zero, List.set_cons_succ]
        refine wpAnyH_take (i := 5) (v := ?_) (by simp only [List.getElem?_toArray, List.getElem?_cons_succ, List.getElem?_cons_zero]; rfl) (by kernel_rfl) (by kernel_rfl) (by kernel_rfl) (by exact fun _ _ _ h => h) (Or.inl ⟨by rfl, ?_⟩) (by assumption) ?_
        rotate_left
        · intro w' hSw; obtain ⟨e1, e2, e3, e4, _⟩ := hSw
          go_simp; try with_reducible rfl
        try simp only [Act.put, List.setIfInBounds_toArray, List.set_cons_zero, List.set_cons_succ]
        refine wpAnyH_take (i := 6) (v := ?_) (by simp only [List.getElem?_toArray, List.getElem?_cons_succ, List.getElem?_cons_zero]; rfl) (by kernel_rfl) (by kernel_rfl) (by kernel_rfl) (by exact fun _ _ _ h => h) (Or.inl ⟨by rfl, ?_⟩) (by assumption) ?_
        rotate_left
        · intro w' hSw; obtain ⟨e1, e2, e3, e4, _⟩ := hSw
          go_simp; try with_reducible rfl
        try simp only [Act.put, List.setIfInBounds_toArray, List.set_cons_zero, List.set_cons_succ]
        refine wpAnyH_take (i := 7) (v := ?_) (by simp only [List.getElem?_toArray, List.getElem?_cons_succ, List.getElem?_cons_zero]; rfl) (by kernel_rfl) (by kernel_rfl) (by kernel_rfl) (by exact fun _ _ _ h => h) (Or.inl ⟨by rfl, ?_⟩) (by assumption) ?_
        rotate_left
        · intro w' hSw; obtain ⟨e1, e2, e3, e4, _⟩ := hSw
          go_simp; try with_reducible rfl
        try simp only [Act.put, List.setIfInBounds_toArray, List.set_cons_zero, List.set_cons_succ]
        refine wpAnyH_take (i := 8) (v := ?_) (by simp only [List.getElem?_toArray, List.getElem?_cons_succ, List.getElem?_cons_zero]; rfl) (by kernel_rfl) (by kernel_rfl) (by kernel_rfl) (by exact fun _ _ _ h => h) (Or.inl ⟨by rfl, ?_⟩) (by assumption) ?_
        rotate_left
        · intro w' hSw; obtain ⟨e1, e2, e3, e4, _⟩ := hSw
          go_simp; try with_reducible rfl
        try simp only [Act.put, List.setIfInBounds_toArray, List.set_cons_zero, List.set_cons_succ]
        refine wpAnyH_take (i := 9) (v := ?_) (by simp only [List.getElem?_toArray, List.getElem?_cons_succ, List.getElem?_cons_zero]; rfl) (by kernel_rfl) (by kernel_rfl) (by kernel_rfl) (by exact fun _ _ _ h => h) (Or.inl ⟨by rfl, ?_⟩) (by assumption) ?_
        rotate_left
        · intro w' hSw; obtain ⟨e1, e2, e3, e4, _⟩ := hSw
          go_simp; try with_reducible rfl
        try simp only [Act.put, List.setIfInBounds_toArray, List.set_cons_zero, List.set_cons_succ]
        refine wpAnyH_take (i := 10) (v := ?_) (by simp only [List.getElem?_toArray, List.getElem?_cons_succ, List.getElem?_cons_zero]; rfl) (by kernel_rfl) (by kernel_rfl) (by kernel_rfl) (by exact fun _ _ _ h => h) (Or.inl ⟨by rfl, ?_⟩) (by assumption) ?_
        rotate_left
        · intro w' hSw; obtain ⟨e1, e2, e3, e4, _⟩ := hSw
          go_simp; try with_reducible rfl
        try simp only [Act.put, List.setIfInBounds_toArray, List.set_cons_zero, List.set_cons_succ]
        refine wpAnyH_take (i := 11) (v := ?_) (by simp only [List.getElem?_toArray, List.getElem?_cons_succ, List.getElem?_cons_zero]; rfl) (by kernel_rfl) (by kernel_rfl) (by kernel_rfl) (by exact fun _ _ _ h => h) (Or.inl ⟨by rfl, ?_⟩) (by assumption) ?_
        rotate_left
        · intro w' hSw; obtain ⟨e1, e2, e3, e4, _⟩ := hSw
          go_simp; try with_reducible rfl
        try simp only [Act.put, List.setIfInBounds_toArray, List.set_cons_zero, List.set_cons_succ]
        refine wpAnyH_ready (rs := [12]) (by kernel_rfl) (by simp) ?_
        refine AllReadyH.cons (by simp only [List.getElem?_toArray, List.getElem?_cons_succ, List.getElem?_cons_zero]; rfl) (fun K hK => ?_) AllReadyH.nil
        go_simp
        go_at_call 191
        refine (HTx.out _).mono ?_
        rintro e w5 ⟨rfl, hb5⟩
        go_wp2_with fail
        refine hK.out _ _ ?_ (fun hH5 => ?_)
        · exact ⟨bkeep hb5 hHeld.1, bkeep hb5 hHeld.2.1, bkeep hb5 hHeld.2.2.1, bkeep hb5 hHeld.2.2.2.1, hHeld.2.2.2.2.trans (hb5.mono hHeld.2.2.2.2.size)⟩
        clear hK K
        try simp only [Act.put, List.setIfInBounds_toArray, List.set_cons_zero, List.set_cons_succ]
        refine wpAnyH_ready (rs := [13]) (by kernel_rfl) (by simp) ?_
        refine AllReadyH.cons (by simp only [List.getElem?_toArray, List.getElem?_cons_succ, List.getElem?_cons_zero]; rfl) (fun K hK => ?_) AllReadyH.nil
        go_simp
        refine hK.out _ _ ?_ (fun hH6 => ?_)
        · exact ⟨acell hH5.1 _, acell hH5.2.1 _, acell hH5.2.2.1 _, acell hH5.2.2.2.1 _, hH5.2.2.2.2.alloc hH5.2.2.2.2.size _⟩
        clear hK K
        try simp only [Act.put, List.setIfInBounds_toArray, List.set_cons_zero, List.set_cons_succ]
        have hz5 : wr.heap.size ≤ w5.heap.size := hb5.size
        have hOw5 : w5.ownsRow (w1.heap.size + 2) 9 1 (.slice oa (1 + 2 * k) oc) (1 + 2 * k) (strs (tripW t.net.stops l st k)) := own_later (w := wr.drew) HOwn.out hb5
        obtain ⟨g6, k6, w6, hrun6, hown6, hgr6, hat6, hlt6⟩ := run_append_strs (w5.alloc (.cells #[.string nm, .string tm] 9 (0, 0))) (w1.heap.size + 2) (1 + 2 * k) (.slice oa (1 + 2 * k) oc) (tripW t.net.stops l st k) [nm, tm] (hOw5.alloc _) w5.heap.size 2 2 rfl (by omega) (fun j u hu => by
          have hj : j < 2 := by have := (List.getElem?_eq_some_iff.1 hu).1; simpa [strs] using this
          obtain rfl | rfl : j = 0 ∨ j = 1 := by omega
          · simp [strs] at hu; subst hu; go_simp
          · simp [strs] at hu; subst hu; go_simp) (by omega) (by simp; omega)
        have hne6 : ∀ q, q < w2.heap.size → q ≠ w1.heap.size + 2 → some q ≠ (Value.slice oa (1 + 2 * k) oc).ownBlock := fun q hq h3 e => by rcases HBlk.out q e.symm with h | h <;> omega
        have hz6 := hgr6.size
        refine wpAnyH_ready (rs := [14]) (by kernel_rfl) (by simp) ?_
        refine AllReadyH.cons (by simp only [List.getElem?_toArray, List.getElem?_cons_succ, List.getElem?_cons_zero]; rfl) (fun K hK => ?_) AllReadyH.nil
        refine step_append_run rfl (.tmp 47) (.tmp 60) 26 rfl rfl rfl hrun6 ?_
        refine hK.out _ _ ?_ (fun hH7 => ?_)
        · exact ⟨hgr6.cell hH6.1 (hne6 _ (by dsimp only; omega) (by dsimp only; omega)), hgr6.cell hH6.2.1 (hne6 _ (by dsimp only; omega) (by dsimp only; omega)), hgr6.cell hH6.2.2.1 (hne6 _ (by dsimp only; omega) (by dsimp only; omega)), hgr6.cell hH6.2.2.2.1 (hne6 _ (by dsimp only; omega) (by dsimp only; omega)), hH6.2.2.2.2.grown hgr6 (by simp; omega) (fun g hg => by rcases HBlk.out g hg with h | h <;> omega)⟩
        clear hK K
        try simp only [Act.put, List.setIfInBounds_toArray, List.set_cons_zero, List.set_cons_succ]
        refine wpAnyH_take (i := 15) (v := ?_) (by simp only [List.getElem?_toArray, List.getElem?_cons_succ, List.getElem?_cons_zero]; rfl) (by kernel_rfl) (by kernel_rfl) (by kernel_rfl) (by exact fun _ _ _ h => h) (Or.inl ⟨by rfl, ?_⟩) (by assumption) ?_
        rotate_left
        · intro w' hSw; go_simp; try with_reducible rfl
        try simp only [Act.put, List.setIfInBounds_toArray, List.set_cons_zero, List.set_cons_succ]
        refine wpAnyH_done (by kernel_rfl) ?_ _
        have hbl6 : ∀ g, (Value.slice (some ⟨g6, 0, none⟩) (1 + 2 * k + 2) k6).ownBlock = some g → g = w1.heap.size + 2 ∨ w2.heap.size ≤ g := fun g hg => by
          simp [Value.ownBlock] at hg
          subst hg
          rcases hat6 with h | h
          · exact HBlk.out _ h
          · right; simp at h; omega
        have hkp6 : ∀ g, g < w2.heap.size → g ≠ w1.heap.size + 2 → w6.heap[g]? = w2.heap[g]? := fun g h1 h2 => by
          rw [hgr6.block g (by simp; omega) (hne6 g h1 h2), ((Below.refl _ _).alloc (Nat.le_refl _) (.cells #[.string nm, .string tm] 9 (0, 0))).block (w := w5) g (by omega), hb5.block g (by show g < wr.heap.size; omega)]
          exact HKp.out g h1 h2
        have HRel := Lib.hid hbl6
        have HRel2 := Lib.hid hkp6
        have HRel3 : Hid (w6.ownsRow (w1.heap.size + 2) 9 1 (.slice (some ⟨g6, 0, none⟩) (1 + 2 * (k + 1)) k6) (1 + 2 * (k + 1)) (strs (tripW t.net.stops l st (k + 1)))) := by
          show World.ownsRow _ _ _ _ _ _ _
          rw [HSucc.out]; exact hown6
        have HRel4 := Lib.hid hH7.2.2.2.2
        have hz7 : w2.heap.size ≤ w6.heap.size := by simp at hz6; omega
        clear hbl6 hkp6 hgr6 hown6 hH5 hH6 hH7 hHeld hb5 hOw5 hrun6 hat6 hne6 HKp HBlk HOwn hbel z0 z1 Y0 X0
        go_wp2_with fail
        go_roundw
        case rel => exact ⟨k + 1, by omega, by go_num, ⟨_, _, rfl, HRel3, HRel⟩, HRel2, hz7, HRel4⟩
        case measure => simp [RowKit.intOf]; omega
      · have hlt1 : ¬ (k : Int) < (l.runs.length : Int) + 1 := by omega
        obtain rfl : k = l.stops.length := by omega
        have HJ := Lib.hid (joinSp_any wr (.slice oa (1 + 2 * l.stops.length) oc) (tripW t.net.stops l st l.stops.length) (rowAt_own HOwn.out) (tripW_ne _ _ _ _) (by rw [tripW_len]; omega) (by rw [tripW_join]; have := HLe.out l.stops.length; omega))
        rw [tripW_join] at HJ
        clear z0 z1
        go_wp2_with fail
        go_at_call 102
        refine HJ.out.mono ?_
        rintro e w7 ⟨rfl, hb7⟩
        have HB7 := Lib.hid (HB.out.trans (hb7.mono HB.out.size))
        clear hb7
        go_wp2_with fail
        go_ret2
        exact ⟨rfl, HB7.out⟩
  · rw [show numF t id = (0, false) from if_neg hok] at HN
    rw [show ttxF t id = (⟨#[]⟩, false) from if_neg hok]
    obtain ⟨a, c, a', c', b, d, rfl, -, -⟩ := tt_open hr
    clear hok hr hf hs
    go_enter Try.func94, Try.ntmps94
    go_wp2_with fail
    go_at_call 179
    refine (HN.out _ ((Below.refl _ _).alloc (Nat.le_refl _) _)).mono ?_
    rintro e w1 ⟨rfl, hb1⟩
    have HB1 : Hid (Below w.heap.size w w1) := ((Below.refl _ _).alloc (Nat.le_refl _) _).trans (hb1.mono (by simp))
    clear hb1
    go_wp2_with fail
    go_ret2
    exact ⟨rfl, HB1.out⟩

theorem bothTripText (t : TTD) (hf : TTFits t) (hs : TTSmall t) (id : Int) (w1 : (Lit.int .i64 id).wf = true) : ∃ (r : ByteArray) (b : Bool), ∀ (v : Value) (w : World), TTAt w v t →
    Calls Try.prog 93 #[v, .int .i64 id] w (fun e w' => e = .returned (.tuple #[.string r, .bool b]) ∧ Below w.heap.size w w') ∧
    Calls Try.prog 94 #[v, .int .i64 id] w (fun e w' => e = .returned (.tuple #[.string r, .bool b]) ∧ Below w.heap.size w w') :=
  ⟨_, _, fun v w h => ⟨specTripText_any v t id w h hf hs, implTripText_any v t id w h hf hs⟩⟩
end Go.Proofs.Ytffcgblionlhhaa
