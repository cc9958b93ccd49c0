/-
  What spec.LineTable returns.
-/
import Derived.Test.YtffcgblionlhhaaL6Trips
import Derived.Test.YtffcgblionlhhaaTripTextS
import Derived.Test.YtffcgblionlhhaaMb
import Derived.Deep.RegionHeld
import Derived.Deep.AppendLies
namespace Go.Proofs.Ytffcgblionlhhaa
open Go.RowKit
set_option linter.unusedVariables false
set_option linter.unusedSimpArgs false

def TabAns (B : Nat) (r : List ByteArray) (b : Bool) (e : Ending) (w' : World) : Prop := ∃ v', e = .returned (.tuple #[v', .bool b]) ∧ w'.ownsRow B 9 1 v' r.length (strs r)
theorem tabRow_new (w : World) (B : Nat) (hB : B ≤ w.heap.size) : (w.alloc (.cells #[] 9)).ownsRow B 9 1 (.slice (some ⟨w.heap.size, 0, none⟩) 0 0) 0 (strs []) := by
  have h := World.ownsRow_lit (base := B) (e := 9) (size := 1) w #[] 0 hB (by decide) (by simp)
  simpa [strs] using h
theorem keepT4 {W w w' : World} {p0 p1 p2 p3 : Addr} {x0 x1 x2 x3 : Value} (hb : Below w.heap.size w w') (h : w.cell? p0 = some x0 ∧ w.cell? p1 = some x1 ∧ w.cell? p2 = some x2 ∧ w.cell? p3 = some x3 ∧ Below W.heap.size W w) :
    w'.cell? p0 = some x0 ∧ w'.cell? p1 = some x1 ∧ w'.cell? p2 = some x2 ∧ w'.cell? p3 = some x3 ∧ Below W.heap.size W w' :=
  ⟨bkeep hb h.1, bkeep hb h.2.1, bkeep hb h.2.2.1, bkeep hb h.2.2.2.1, h.2.2.2.2.trans (hb.mono h.2.2.2.2.size)⟩
theorem belT4 {W w : World} {p0 p1 p2 p3 : Addr} {x0 x1 x2 x3 : Value} (h : w.cell? p0 = some x0 ∧ w.cell? p1 = some x1 ∧ w.cell? p2 = some x2 ∧ w.cell? p3 = some x3 ∧ Below W.heap.size W w) : Below W.heap.size W w := h.2.2.2.2

/-- the time of the trip at a place of the order, at a stop: the plain words -/
theorem lt_time {t : TTD} (hg : TTGood t) {K : Nat} (hK : K < t.net.lines.length) {i : Nat} (hi : i < (trS t K t.trips.length).length) (hi2 : i < (stS t K t.trips.length).length) :
    ∃ m : Nat, (trS t K t.trips.length)[i] = (m : Int) ∧ ∃ hm : m < t.trips.length, (t.trips[m]).line = K ∧ (t.trips[m]).start = (stS t K t.trips.length)[i] ∧ 0 ≤ (t.trips[m]).start ∧ (t.trips[m]).start ≤ 1799 ∧ ∀ p, ∃ n : Nat, n ≤ 1799 ∧ (t.trips[m]).start + (t.net.lines[K].runs.take p).sum = (n : Int) := by
  obtain ⟨m, h1, -, hm, h2⟩ := trS_mem t K t.trips.length (Nat.le_refl _) _ (List.getElem_mem hi)
  have h3 := trS_get t K t.trips.length (Nat.le_refl _) i hi hi2
  rw [h1, stAt_at hm] at h3
  have hst := (hg.step m hm).2.2.1.2.1
  have hen := (hg.step m hm).2.2.1.2.2.2
  obtain ⟨k, hk, hkl, harr⟩ := hg.line m hm
  have hkK : k = K := by rw [h2] at hk; omega
  subst hkK
  rw [harr] at hen
  obtain ⟨hl1, hl2, hl3⟩ := line_facts hg.1 k hkl
  refine ⟨m, h1, hm, h2, h3, hst.1, hst.2, fun p => ?_⟩
  obtain ⟨n, hn, hn1⟩ := time_mid hst.1 hl3 hen p
  exact ⟨n, hn1, hn⟩
/-- .. and what l5At gives -/
theorem lt_at {v : Value} {t : TTD} {w : World} (hr : TTAt w v t) (hg : TTGood t) {K : Nat} (hK : K < t.net.lines.length) {i : Nat} (hi : i < (trS t K t.trips.length).length) (hi2 : i < (stS t K t.trips.length).length) (p : Nat) (hp : p ≤ t.net.lines[K].runs.length) :
    ∃ m n : Nat, (trS t K t.trips.length)[i] = (m : Int) ∧ n ≤ 1799 ∧ tmB t.net.lines[K] ((stS t K t.trips.length)[i]) p = timeC n ∧
      ∀ W : World, Below w.heap.size w W → Calls Try.prog 169 #[v, .int .i64 (m : Int), .int .i64 (p : Int)] W fun e w' => e = .returned (.int .i64 (n : Int)) ∧ Below W.heap.size W w' := by
  obtain ⟨m, h1, hm, h2, h3, h4, h5, h6⟩ := lt_time hg hK hi hi2
  obtain ⟨n, hn, hn2⟩ := h6 p
  obtain ⟨hl1, hl2, hl3⟩ := line_facts hg.1 K hK
  refine ⟨m, n, h1, hn, by unfold tmB; rw [← h3, hn2, Int.toNat_natCast], fun W hW => ?_⟩
  have := l5At_any v t m w hr hm K h2 hK hl2 hl3 h4 h5 p hp W hW
  rw [runSum_zero, hn2] at this
  exact this

set_option maxRecDepth 100000 in
set_option maxHeartbeats 8000000 in
theorem specLineTable_any (v : Value) (t : TTD) (line : Int) (w : World) (hr : TTAt w v t) (hf : TTFits t) (hs : TTSmall t) :
    Calls Try.prog 88 #[v, .int .i64 line] w fun e w' => TabAns w.heap.size (ltF t line).1 (ltF t line).2 e w' ∧ Below w.heap.size w w' := by
  have HG := Lib.hid (fun W (hW : Below w.heap.size w W) => l5Good_any v t W (hr.below rfl hW) hf)
  have HTr := Lib.hid (fun W (hW : Below w.heap.size w W) => l6Trips_any v t line W (hr.below rfl hW) hs)
  have HTT := Lib.hid hr
  have hnl := hs.1.2.1
  obtain ⟨i0, hi0, hz0, hz1, hz2⟩ := info_parts infoString
  obtain ⟨a, c, a', c', b, d, rfl, hn, ht⟩ := tt_open hr
  have HRow2 := Lib.hid (tabRow_new (w.alloc (.cells #[.slice a t.net.stops.length c, .slice a' t.net.lines.length c', .slice b t.trips.length d] 89 (0, 0))) (w.heap.size + 1) (by simp))
  simp only [World.size_alloc] at HRow2
  by_cases hg : TTGood t
  · rw [ttB_yes hg] at HG
    by_cases hln : 0 ≤ line ∧ line < (t.net.lines.length : Int)
    · rw [show ltF t line = (tabL t line, true) from if_pos ⟨hg, hln⟩]
      obtain ⟨K, rfl⟩ := Int.eq_ofNat_of_zero_le hln.1
      have hK : K < t.net.lines.length := by omega
      rw [tabL_at hK]
      have hts := hs.2
      unfold TripsSmall at hts
      obtain ⟨hsz, hls⟩ := good_sizes hg.1
      obtain ⟨hnm, hns2, hnr, -, hsin⟩ := hls _ (List.getElem_mem hK)
      have HAt := Lib.hid (fun i hi hi2 p hp => lt_at HTT.out hg hK (i := i) hi hi2 p hp)
      have hLl := stS_len t K t.trips.length (Nat.le_refl _)
      have hRl := trS_len t K t.trips.length (Nat.le_refl _)
      obtain ⟨lb, lo, s0, s1, r0, r1, rfl, hlb, l0, l1, l2, hrs, -⟩ := net_line hn K hK
      obtain ⟨_, l', he, hss, -⟩ := hn
      simp at he
      obtain ⟨rfl, rfl⟩ := he
      obtain ⟨_, _, he, hac, ham, HNm⟩ := strs_open hss
      simp at he
      obtain ⟨rfl, rfl⟩ := he
      obtain ⟨_, _, he, hqc, hqm, HQ⟩ := ints_open hrs
      simp at he
      obtain ⟨rfl, rfl⟩ := he
      have HSi := Lib.hid (fun k hk => stop_in hsin (k := k) hk)
      have HIn := Lib.hid (fun W => l1In_yes (K : Int) 0 ((t.net.lines.length : Int) - 1) W ⟨hln.1, by omega⟩)
      have hlw : IntKind.i64.wrap ((t.net.lines.length : Int) - 1) = (t.net.lines.length : Int) - 1 := IntWalk.i64_in _ (by omega)
      have HLe := Lib.hid (ltRow_len t.net.stops t.net.lines[K] (stS t K t.trips.length) hsz (by omega))
      have hK1 : (K : Int) < (t.net.lines.length : Int) := by omega
      have HLr : Hid (t.net.lines[K].runs.length + 1 = t.net.lines[K].stops.length) := hnr
      have hsl := hns2.2
      clear hln hr hf hs ht hss hrs hsz hls hnm hns2 hnr hsin hg HTT
      generalize stS t K t.trips.length = L at *
      generalize trS t K t.trips.length = R at *
      generalize t.net.lines[K] = l at *
      go_enter Try.func88, Try.ntmps88
      go_wp2_with fail
      go_at_call 155
      refine (HG.out _ (((Below.refl _ _).alloc (Nat.le_refl _) _).alloc (by simp) _)).mono ?_
      rintro e w1 ⟨rfl, hb1⟩
      have HB1 : Hid (Below w.heap.size w w1 ∧ w.heap.size + 1 < w1.heap.size) := ⟨(((Below.refl _ _).alloc (Nat.le_refl _) _).alloc (by simp) _).trans (hb1.mono (by simp; omega)), by have := hb1.size; simp at this; omega⟩
      have p0 : w1.cell? ⟨w.heap.size, 0, none⟩ = some (.slice a t.net.stops.length c) := bkeep hb1 (by go_simp)
      have p1 : w1.cell? ⟨w.heap.size, 1, none⟩ = some (.slice (some ⟨lb, lo, none⟩) t.net.lines.length c') := bkeep hb1 (by go_simp)
      have p2 : w1.cell? ⟨w.heap.size, 2, none⟩ = some (.slice b t.trips.length d) := bkeep hb1 (by go_simp)
      have HO1 := Lib.hid (own_later HRow2.out hb1)
      clear hb1 HRow2
      go_wp2_with fail
      go_at_call 110
      refine (HIn.out _).mono ?_
      rintro e w1 ⟨rfl, rfl⟩
      go_wp2_with fail
      go_at_call 187
      refine (HTr.out _ HB1.out.1).mono ?_
      rintro e w2 ⟨⟨sv, rfl, hsv⟩, hb2⟩
      have HB2 : Hid (Below w.heap.size w w2 ∧ w.heap.size + 1 < w1.heap.size ∧ w1.heap.size ≤ w2.heap.size) := ⟨HB1.out.1.trans (hb2.mono HB1.out.1.size), HB1.out.2, hb2.size⟩
      have HO2 := Lib.hid (own_later HO1.out hb2)
      have q0 := bkeep hb2 p0
      have q1 := bkeep hb2 p1
      have q2 := bkeep hb2 p2
      have m0 := bkeep HB2.out.1 l0
      have m1 := bkeep HB2.out.1 l1
      have m2 := bkeep HB2.out.1 l2
      obtain ⟨ta, tc, rfl⟩ := own_shape hsv
      have hrow := rowAt_own hsv
      obtain ⟨_, _, he, htc, htm, HTc⟩ := ints_open hrow
      simp only [Value.slice.injEq, true_and] at he
      obtain ⟨rfl, rfl⟩ := he
      have HTb := Lib.hid (fun g hg => hsv.lt g hg)
      have hlw2 : lb < w2.heap.size := by have := HB2.out.1.size; omega
      have hww2 : w.heap.size < w2.heap.size := by have := HB2.out; omega
      clear hb2 p0 p1 p2 HB1 HO1 hsv hrow l0 l1 l2 HG HIn HTr
      go_wp2_with fail
      go_loopw [6, 9] (fun o q wr => ∃ k : Nat, k ≤ l.stops.length ∧ q = .int .i64 k ∧ (∃ oa oc, o = .slice oa k oc ∧ Hid (wr.ownsRow (w.heap.size + 1) 9 1 (.slice oa k oc) k (strs (ltT t.net.stops l L k))) ∧ Hid (∀ g, (Value.slice oa k oc).ownBlock = some g → g = w.heap.size + 1 ∨ w2.heap.size < g)) ∧
          Hid (∀ g, g < w2.heap.size + 1 → g ≠ w.heap.size + 1 → wr.heap[g]? = (w2.alloc (.cells #[.string l.name, .slice s0 l.stops.length s1, .slice r0 l.runs.length r1] 45 (0, 0))).heap[g]?) ∧ w2.heap.size + 1 ≤ wr.heap.size ∧ Hid (Below w.heap.size w wr))
        (fun _ q _ => l.stops.length - (RowKit.intOf q).toNat)
      case atStart => exact ⟨0, Nat.zero_le _, rfl, ⟨_, _, rfl, HO2.out.alloc _, fun g hg => by simp [Value.ownBlock] at hg; omega⟩, fun _ _ _ => rfl, by simp, HB2.out.1.alloc HB2.out.1.size _⟩
      case round =>
        obtain ⟨k, hk, rfl, ⟨oa, oc, rfl, HOwn, HBlk⟩, HKp, hzr, HB⟩ := hrel
        have hkp := fun (q o : Nat) (h1 : q < w2.heap.size + 1) (h2 : q ≠ w.heap.size + 1) => World.cell?_of_block (a := ⟨q, o, none⟩) (HKp.out q h1 h2)
        have hw11 := HB2.out.2.1
        have hw12 := HB2.out.2.2
        have Z0 := (hkp w.heap.size 0 (by omega) (by omega)).trans (acell q0 (.cells #[.string l.name, .slice s0 l.stops.length s1, .slice r0 l.runs.length r1] 45 (0, 0)))
        have Z1 := (hkp w.heap.size 1 (by omega) (by omega)).trans (acell q1 (.cells #[.string l.name, .slice s0 l.stops.length s1, .slice r0 l.runs.length r1] 45 (0, 0)))
        have Z2 := (hkp w.heap.size 2 (by omega) (by omega)).trans (acell q2 (.cells #[.string l.name, .slice s0 l.stops.length s1, .slice r0 l.runs.length r1] 45 (0, 0)))
        have Z8 : wr.cell? ⟨w2.heap.size, 1, none⟩ = some (.slice s0 l.stops.length s1) := (hkp w2.heap.size 1 (by omega) (by omega)).trans (by go_simp)
        by_cases hlt : k < l.stops.length
        · obtain ⟨sb, so, rfl, hsb, y0⟩ := HQ.out k hlt
          obtain ⟨m, hm, hmn⟩ := HSi.out k hlt
          obtain ⟨nb, no, rfl, hnb, x0⟩ := HNm.out m hmn
          rw [hm] at y0
          have Y0 := bkeep HB.out y0
          have X0 := bkeep HB.out x0
          have e1 : nmB t.net.stops (l.stops.getD k 0) = t.net.stops[m] := by rw [getD_in _ trivial hlt, hm, nmB_at _ _ hmn]
          have HNm0 : Hid (Value.string t.net.stops[m] = .string ⟨(ltRow t.net.stops l L k 0).toArray⟩) := by
            show _ = _
            rw [ltRow_zero, e1]
          have hk1 : (k : Int) < (l.stops.length : Int) := by omega
          have hm1 : (m : Int) < (t.net.stops.length : Int) := by omega
          have HTc2 := Lib.hid (fun i (hi : i < R.length) => HTc.out i hi)
          have HCell : Hid (∀ i (hi : i < R.length), ∃ tb tq, ta = some ⟨tb, tq, none⟩ ∧ wr.cell? ⟨tb, tq + i, none⟩ = some (.int .i64 R[i])) := fun i hi => by
            obtain ⟨tb, tq, he, htb, t0⟩ := HTc.out i hi
            have h1 := (HTb.out tb (by rw [he]; rfl)).1
            exact ⟨tb, tq, he, (hkp tb (tq + i) (by omega) (by omega)).trans (acell t0 (.cells #[.string l.name, .slice (some ⟨sb, so, none⟩) l.stops.length s1, .slice r0 l.runs.length r1] 45 (0, 0)))⟩
          generalize t.net.stops[m] = nm at *
          clear q0 q1 q2 m0 m1 m2 hkp e1 hm x0 y0 HTc2
          go_wp2_with fail
          go_quiet (fail)
          go_wp2_with fail
          obtain ⟨wo, rfl⟩ : ∃ wo : World, wo = wr := ⟨_, rfl⟩
          have HBo : Hid (∀ W, Below wo.heap.size wo W → Below w.heap.size w W) := fun W h => HB.out.trans (h.mono HB.out.size)
          go_loopw [10, 11] (fun s q wi => ∃ i : Nat, i ≤ R.length ∧ q = .int .i64 i ∧ s = .string ⟨(ltRow t.net.stops l L k i).toArray⟩ ∧ Hid (Below wo.heap.size wo wi)) (fun _ q _ => R.length - (RowKit.intOf q).toNat)
          case atStart => exact ⟨0, Nat.zero_le _, rfl, HNm0.out, by first | exact Below.refl _ _ | exact Dr.below ⟨_, rfl⟩⟩
          case round =>
            obtain ⟨i, hi, rfl, rfl, HBi⟩ := hrel
            by_cases hil : i < R.length
            · obtain ⟨tb, tq, rfl, T0'⟩ := HCell.out i hil
              obtain ⟨mm, n, hRi, hn, hT, hAk⟩ := HAt.out i hil (by omega) k (by have := HLr.out; omega)
              have HAk := Lib.hid hAk
              rw [hRi] at T0'
              have T0 := bkeep HBi.out T0'
              have z0 := bkeep HBi.out Z0
              have z1 := bkeep HBi.out Z1
              have z2 := bkeep HBi.out Z2
              have HTx := Lib.hid (fun W => l4Text_any n W hn)
              have hle := HLe.out k (i + 1)
              have hsucc := ltRow_succ t.net.stops l L k i (by omega)
              rw [hT] at hsucc
              generalize timeC n = tm at *
              obtain ⟨B0, hB0⟩ : ∃ B0 : ByteArray, B0 = ⟨(ltRow t.net.stops l L k i).toArray⟩ := ⟨_, rfl⟩
              obtain ⟨B1, hB1⟩ : ∃ B1 : ByteArray, B1 = ⟨(ltRow t.net.stops l L k i ++ [32]).toArray⟩ := ⟨_, rfl⟩
              obtain ⟨B2, hB2⟩ : ∃ B2 : ByteArray, B2 = ⟨(ltRow t.net.stops l L k (i + 1)).toArray⟩ := ⟨_, rfl⟩
              have hl4 : (ltRow t.net.stops l L k i).length + 1 + tm.data.toList.length ≤ 9223372036854775807 := by
                rw [hsucc] at hle; simp only [List.length_append, List.length_cons, List.length_nil] at hle; omega
              have hadd1 : ∀ W, (Op.stringOp .add B0 ⟨#[32]⟩).run Try.prog W = .ok (.string B1) W := fun W => by
                rw [hB1]; exact str_add W _ _ _ [32] (by rw [hB0]) rfl (by simp only [List.length_cons, List.length_nil]; omega)
              have hadd2 : ∀ W, (Op.stringOp .add B1 tm).run Try.prog W = .ok (.string B2) W := fun W => by
                rw [hB2, hsucc]; exact str_add W _ _ _ _ (by rw [hB1]) rfl (by simp only [List.length_append, List.length_cons, List.length_nil]; omega)
              have HE2 := Lib.hid hB2
              rw [← hB0]
              have hi1 : (i : Int) < (R.length : Int) := by omega
              have hbel := HBi.out
              clear hB0 hB1 hB2 hl4 hsucc hle hn hT hRi HBi hAk Z0 Z1 Z2 T0'
              go_wp2_with fail
              go_region_held3 (fun w' => w'.cell? ⟨w.heap.size, 0, none⟩ = some (.slice (some ⟨nb, no, none⟩) t.net.stops.length c) ∧ w'.cell? ⟨w.heap.size, 1, none⟩ = some (.slice (some ⟨lb, lo, none⟩) t.net.lines.length c') ∧ w'.cell? ⟨w.heap.size, 2, none⟩ = some (.slice b t.trips.length d) ∧ w'.cell? ⟨tb, tq + i, none⟩ = some (.int .i64 (mm : Int)) ∧ Below wo.heap.size wo w')
                (first | (exact ⟨z0, z1, z2, T0, hbel.drew⟩) | (exact keepT4 hb (by assumption)))
                (first | (go_at_call 169; refine (HAk.out _ (HBo.out _ (belT4 (by assumption)))).mono ?_; rintro e w' ⟨rfl, hb⟩) | (go_at_call 188; refine (HTx.out _).mono ?_; rintro e w' ⟨rfl, hb⟩))
              all_goals
                obtain ⟨-, -, -, -, qb⟩ := (by assumption : _ ∧ _)
                clear z0 z1 z2 T0 hadd1 hadd2
                go_wp2_with fail
                go_roundw
                case rel => exact ⟨i + 1, by omega, by go_num, by rw [HE2.out], qb⟩
                case measure => simp [RowKit.intOf]; omega
            · obtain rfl : i = R.length := by omega
              have hi1 : ¬ (R.length : Int) < (R.length : Int) := by omega
              have HSucc := Lib.hid (ltT_succ t.net.stops l L k)
              have hX : (⟨(ltRow t.net.stops l L k R.length).toArray⟩ : ByteArray) = ltB t.net.stops l L k := by unfold ltB; rw [hRl]
              rw [hX]
              have HOi := Lib.hid (own_later HOwn.out HBi.out)
              have hzi := HBi.out.size
              clear hX
              generalize ltB t.net.stops l L k = nb2 at *
              clear Z0 Z1 Z2 Z8 Y0 X0
              obtain ⟨wj, rfl⟩ : ∃ wj : World, wj = wr := ⟨_, rfl⟩
              go_wp2_with (at_builtin; refine wpList_append_lies _ rfl _ _ 26 rfl (w.heap.size + 1) 9 i0 (.string ⟨#[]⟩) 1 16 Try.underlying26 hi0 hz0 hz1 hz2 rfl (by decide) _ _ _ rfl (HOi.out.alloc _) ⟨wj.heap.size, 0, none⟩ 1 1 [.string nb2] rfl rfl ?c1 ?c2 (by omega) ?c3 ?c4 ?c5 (wj.heap.size + 1) ?c6 ?_)
              case c2 => rfl
              case c3 => unfold maxLen; omega
              case c4 => omega
              case c5 => omega
              intro g3 c3 w3 hown3 hg3 hat3 hlt3
              have hg3' : (wj.alloc (.cells #[.string nb2] 9)).grownBy w3 (Value.slice oa k oc).ownBlock := hg3
              have hz3 := hg3'.size
              simp at hz3
              have hbj : Below wo.heap.size wo (wj.alloc (.cells #[.string nb2] 9)) := HBi.out.alloc hzi _
              have hne3 : ∀ q, q < w2.heap.size + 1 → q ≠ w.heap.size + 1 → some q ≠ (Value.slice oa k oc).ownBlock := fun q hq h3 e => by rcases HBlk.out q e.symm with h | h <;> omega
              have HRel1 : Hid (w3.ownsRow (w.heap.size + 1) 9 1 (.slice (some ⟨g3, 0, none⟩) (k + 1) c3) (k + 1) (strs (ltT t.net.stops l L (k + 1)))) := by
                show World.ownsRow _ _ _ _ _ _ _
                rw [HSucc.out]; simpa [strs] using hown3
              have HRel2 : Hid (∀ g, (Value.slice (some ⟨g3, 0, none⟩) (k + 1) c3).ownBlock = some g → g = w.heap.size + 1 ∨ w2.heap.size < g) := fun g hg => by
                simp [Value.ownBlock] at hg
                subst hg
                rcases hat3 with h | h
                · exact HBlk.out _ h
                · right; omega
              have HRel3 : Hid (∀ g, g < w2.heap.size + 1 → g ≠ w.heap.size + 1 → w3.heap[g]? = (w2.alloc (.cells #[.string l.name, .slice (some ⟨sb, so, none⟩) l.stops.length s1, .slice r0 l.runs.length r1] 45 (0, 0))).heap[g]?) := fun g h1 h2 => by
                rw [hg3'.block g (by simp; omega) (hne3 g h1 h2), hbj.block g (by omega)]
                exact HKp.out g h1 h2
              have HRel4 : Hid (Below w.heap.size w w3) := (HB.out.trans (hbj.mono HB.out.size)).grown hg3' (by have := HB.out.size; simp; omega) (fun g hg => by have := (HOi.out.lt g hg).1; omega)
              have hz4 : w2.heap.size + 1 ≤ w3.heap.size := by omega
              clear hown3 hg3 hg3' hat3 hlt3 hbj hne3 HKp HBlk HOi HBi
              go_wp2_with fail
              exact ⟨⟨k + 1, by omega, by go_num, ⟨_, _, rfl, HRel1, HRel2⟩, HRel3, hz4, HRel4⟩, by simp [RowKit.intOf]; omega⟩
        · obtain rfl : k = l.stops.length := by omega
          have hk1 : ¬ (l.stops.length : Int) < (l.stops.length : Int) := by omega
          have hX := HOwn.out
          have hle : w.heap.size ≤ w.heap.size + 1 := by omega
          have HX := Lib.hid (own_base hX hle)
          clear hX q0 q1 q2 m0 m1 m2 Z0 Z1 Z2 hkp
          go_wp2_with fail
          go_ret2
          exact ⟨⟨.slice oa l.stops.length oc, rfl, by rw [ltT_len]; exact HX.out⟩, HB.out⟩
    · rw [show ltF t line = ([], false) from if_neg fun h => hln h.2]
      have HIn := Lib.hid (fun W => l1In_no line 0 ((t.net.lines.length : Int) - 1) W (fun h => hln ⟨h.1, by omega⟩))
      have hlw : IntKind.i64.wrap ((t.net.lines.length : Int) - 1) = (t.net.lines.length : Int) - 1 := IntWalk.i64_in _ (by omega)
      clear hln hr hf hs hn ht HTr HTT
      go_enter Try.func88, Try.ntmps88
      go_wp2_with fail
      go_at_call 155
      refine (HG.out _ (((Below.refl _ _).alloc (Nat.le_refl _) _).alloc (by simp) _)).mono ?_
      rintro e w1 ⟨rfl, hb1⟩
      have HB1 : Hid (Below w.heap.size w w1 ∧ w.heap.size < w1.heap.size) := ⟨(((Below.refl _ _).alloc (Nat.le_refl _) _).alloc (by simp) _).trans (hb1.mono (by simp; omega)), by have := hb1.size; simp at this; omega⟩
      have p0 : w1.cell? ⟨w.heap.size, 0, none⟩ = some (.slice a t.net.stops.length c) := bkeep hb1 (by go_simp)
      have p1 : w1.cell? ⟨w.heap.size, 1, none⟩ = some (.slice a' t.net.lines.length c') := bkeep hb1 (by go_simp)
      have p2 : w1.cell? ⟨w.heap.size, 2, none⟩ = some (.slice b t.trips.length d) := bkeep hb1 (by go_simp)
      have HO1 := Lib.hid (own_later HRow2.out hb1)
      clear hb1 HRow2
      go_wp2_with (go_at_call 110; refine (HIn.out _).mono ?_; rintro e w2 ⟨rfl, rfl⟩)
      go_ret2
      exact ⟨⟨_, rfl, own_base HO1.out (show w.heap.size ≤ w.heap.size + 1 by omega)⟩, HB1.out.1⟩
  · rw [ttB_no hg] at HG
    rw [show ltF t line = ([], false) from if_neg fun h => hg h.1]
    clear hg hr hf hs hn ht HTr HTT
    go_enter Try.func88, Try.ntmps88
    go_wp2_with fail
    go_at_call 155
    refine (HG.out _ (((Below.refl _ _).alloc (Nat.le_refl _) _).alloc (by simp) _)).mono ?_
    rintro e w1 ⟨rfl, hb1⟩
    have HB1 : Hid (Below w.heap.size w w1 ∧ w.heap.size < w1.heap.size) := ⟨(((Below.refl _ _).alloc (Nat.le_refl _) _).alloc (by simp) _).trans (hb1.mono (by simp; omega)), by have := hb1.size; simp at this; omega⟩
    have p0 : w1.cell? ⟨w.heap.size, 0, none⟩ = some (.slice a t.net.stops.length c) := bkeep hb1 (by go_simp)
    have p1 : w1.cell? ⟨w.heap.size, 1, none⟩ = some (.slice a' t.net.lines.length c') := bkeep hb1 (by go_simp)
    have p2 : w1.cell? ⟨w.heap.size, 2, none⟩ = some (.slice b t.trips.length d) := bkeep hb1 (by go_simp)
    have HO1 := Lib.hid (own_later HRow2.out hb1)
    clear hb1 HRow2
    go_wp2_with fail
    go_ret2
    exact ⟨⟨_, rfl, own_base HO1.out (show w.heap.size ≤ w.heap.size + 1 by omega)⟩, HB1.out.1⟩
end Go.Proofs.Ytffcgblionlhhaa
