/-
  What impl.LineTable returns.
-/
import Derived.Test.YtffcgblionlhhaaLineTableS
import Derived.Test.YtffcgblionlhhaaTripText
import Derived.Test.YtffcgblionlhhaaStartsOf
import Derived.Test.YtffcgblionlhhaaMb
import Derived.Test.YtffcgblionlhhaaBuild
namespace Go.Proofs.Ytffcgblionlhhaa
open Go.RowKit
set_option linter.unusedVariables false
set_option linter.unusedSimpArgs false

theorem rowAt_first {w : World} {a : Option Addr} {xs : List Int} {c k : Nat} (h : RowAt w (.slice a xs.length c) (ints xs)) (hk : k ≤ xs.length) : RowAt w (.slice a k c) (ints (xs.take k)) := by
  obtain ⟨a', c', hv, hc, hm, hcell⟩ := h
  simp at hv
  obtain ⟨rfl, _, rfl⟩ := hv
  rw [ints_len] at hc
  refine ⟨a, c, by rw [ints_len]; simp; omega, by rw [ints_len]; simp; omega, hm, fun j u hu => ?_⟩
  have e : ints (xs.take k) = (ints xs).take k := by simp [ints, List.map_take]
  rw [e, List.getElem?_take] at hu
  split at hu
  · exact hcell j u hu
  · cases hu
theorem Bd.new' (w : World) : Bd w.heap.size w.heap.size [] (w.alloc (.cells #[.pointer none, .slice none 0 0] 197 (0, 0))) := Bd.new w

set_option maxRecDepth 100000 in
set_option maxHeartbeats 8000000 in
theorem implLineTable_any (v : Value) (t : TTD) (line : Int) (w : World) (hr : TTAt w v t) (hf : TTFits t) (hs : TTSmall t) :
    Calls Try.prog 89 #[v, .int .i64 line] w fun e w' => TabAns w.heap.size (ltF t line).1 (ltF t line).2 e w' ∧ Below w.heap.size w w' := by
  have HG := Lib.hid (fun W (hW : Below w.heap.size w W) => implTT_any v t W (hr.below rfl hW) hf)
  have HSt := Lib.hid (fun W (hW : Below w.heap.size w W) => startsOf_any v t line W (hr.below rfl hW) hs)
  have hnl := hs.1.2.1
  obtain ⟨i0, hi0, hz0, hz1, hz2⟩ := info_parts infoString
  obtain ⟨a, c, a', c', b, d, rfl, hn, ht⟩ := tt_open hr
  have HIs := Lib.hid (fun W (hW : Below w.heap.size w W) => isLineOf_any _ t.net line W (hn.below rfl hW) hf.1)
  have HRow2 := Lib.hid (tabRow_new (w.alloc (.cells #[.slice a t.net.stops.length c, .slice a' t.net.lines.length c', .slice b t.trips.length d] 89 (0, 0))) (w.heap.size + 1) (by simp))
  simp only [World.size_alloc] at HRow2
  by_cases hg : TTGood t
  · rw [ttB_yes hg] at HG
    have HGo := Lib.hid hg
    by_cases hln : 0 ≤ line ∧ line < (t.net.lines.length : Int)
    · rw [show ltF t line = (tabL t line, true) from if_pos ⟨hg, hln⟩]
      obtain ⟨K, rfl⟩ := Int.eq_ofNat_of_zero_le hln.1
      have hK : K < t.net.lines.length := by omega
      rw [tabL_at hK]
      have hts := hs.2
      unfold TripsSmall at hts
      obtain ⟨hsz, hls⟩ := good_sizes hg.1
      obtain ⟨hnm, hns2, hnr, hrb, hsin⟩ := hls _ (List.getElem_mem hK)
      have hLl := stS_len t K t.trips.length (Nat.le_refl _)
      have hRl := trS_len t K t.trips.length (Nat.le_refl _)
      have HTi : Hid (∀ i (hi : i < (stS t K t.trips.length).length), (0 ≤ (stS t K t.trips.length)[i] ∧ (stS t K t.trips.length)[i] ≤ 1799) ∧ ∀ p, ∃ n : Nat, n ≤ 1799 ∧ (stS t K t.trips.length)[i] + (t.net.lines[K].runs.take p).sum = (n : Int)) := fun i hi => by
        obtain ⟨m, -, hm, -, h3, h4, h5, h6⟩ := lt_time HGo.out hK (i := i) (by omega) hi
        rw [h3] at h4 h5 h6
        exact ⟨⟨h4, h5⟩, h6⟩
      obtain ⟨lb, lo, s0, s1, r0, r1, rfl, hlb, l0, l1, l2, hrs, hrr⟩ := net_line hn K hK
      obtain ⟨_, l', he, hss, -⟩ := hn
      simp at he
      obtain ⟨rfl, rfl⟩ := he
      obtain ⟨_, _, he, hac, ham, HNm⟩ := strs_open hss
      simp at he
      obtain ⟨rfl, rfl⟩ := he
      obtain ⟨_, _, he, hqc, hqm, HQ⟩ := ints_open hrs
      simp at he
      obtain ⟨rfl, rfl⟩ := he
      obtain ⟨_, _, he, hrc, hrm, HR⟩ := ints_open hrr
      simp at he
      obtain ⟨rfl, rfl⟩ := he
      have HRr := Lib.hid hrr
      have HRb := Lib.hid hrb
      have HSi := Lib.hid (fun k hk => stop_in hsin (k := k) hk)
      have HLe := Lib.hid (ltRow_len t.net.stops t.net.lines[K] (stS t K t.trips.length) hsz (by omega))
      have HSz := Lib.hid hsz
      have hK1 : (K : Int) < (t.net.lines.length : Int) := by omega
      have HLr : Hid (t.net.lines[K].runs.length + 1 = t.net.lines[K].stops.length) := hnr
      have hsl := hns2.2
      have HLn := Lib.hid hln
      obtain ⟨rb, ro, rfl, hrbl, -⟩ := HR.out 0 (by have := hns2.1; omega)
      clear hln hr hf hs ht hss hrs hrr hsz hls hnm hns2 hnr hsin hrb hg HR hRl
      generalize stS t K t.trips.length = L at *
      generalize t.net.lines[K] = l at *
      go_enter Try.func89, Try.ntmps89
      go_wp2_with fail
      go_at_call 77
      refine (HG.out _ (((Below.refl _ _).alloc (Nat.le_refl _) _).alloc (by simp) _)).mono ?_
      rintro e w1 ⟨rfl, hb1⟩
      have HB1 : Hid (Below w.heap.size w w1 ∧ w.heap.size + 1 < w1.heap.size) := ⟨(((Below.refl _ _).alloc (Nat.le_refl _) _).alloc (by simp) _).trans (hb1.mono (by simp; omega)), by have := hb1.size; simp at this; omega⟩
      have p0 : w1.cell? ⟨w.heap.size, 0, none⟩ = some (.slice a t.net.stops.length c) := bkeep hb1 (by go_simp)
      have p1 : w1.cell? ⟨w.heap.size, 1, none⟩ = some (.slice (some ⟨lb, lo, none⟩) t.net.lines.length c') := bkeep hb1 (by go_simp)
      have p2 : w1.cell? ⟨w.heap.size, 2, none⟩ = some (.slice b t.trips.length d) := bkeep hb1 (by go_simp)
      have HO1 := Lib.hid (own_later HRow2.out hb1)
      clear hb1 HRow2
      go_wp2_with fail
      go_at_call 105
      refine (HIs.out _ HB1.out.1).mono ?_
      rintro e w2 ⟨he, hb2⟩
      rcases he with ⟨_, rfl⟩ | ⟨hno, rfl⟩
      rotate_left
      · exact absurd ⟨HGo.out.1, HLn.out⟩ hno
      have HB2 : Hid (Below w.heap.size w w2 ∧ w.heap.size + 1 < w2.heap.size) := ⟨HB1.out.1.trans (hb2.mono HB1.out.1.size), by have := HB1.out.2; have := hb2.size; omega⟩
      have HO2 := Lib.hid (own_later HO1.out hb2)
      have q0 := bkeep hb2 p0
      have q1 := bkeep hb2 p1
      have q2 := bkeep hb2 p2
      have m0 := bkeep HB2.out.1 l0
      have m1 := bkeep HB2.out.1 l1
      have m2 := bkeep HB2.out.1 l2
      have hlw2 : lb < w2.heap.size := by have := HB2.out.1.size; omega
      have hww2 : w.heap.size < w2.heap.size := by have := HB2.out; omega
      clear hb2 p0 p1 p2 HB1 HO1 l0 l1 l2 HG HIs
      go_wp2_with fail
      go_at_call 189
      refine (HSt.out _ (HB2.out.1.alloc HB2.out.1.size _)).mono ?_
      rintro e w3 ⟨⟨sv, rfl, hsv⟩, hb3⟩
      have HB3 : Hid (Below w.heap.size w w3 ∧ w.heap.size + 1 < w2.heap.size ∧ w2.heap.size < w3.heap.size) := ⟨(HB2.out.1.alloc HB2.out.1.size _).trans (hb3.mono (by have := HB2.out.1.size; simp; omega)), HB2.out.2, by have := hb3.size; simp at this; omega⟩
      have z0 : w3.cell? ⟨w.heap.size, 0, none⟩ = some (.slice a t.net.stops.length c) := bkeep hb3 (acell q0 _)
      have z8 : w3.cell? ⟨w2.heap.size, 1, none⟩ = some (.slice s0 l.stops.length s1) := bkeep hb3 (by go_simp)
      have z9 : w3.cell? ⟨w2.heap.size, 2, none⟩ = some (.slice (some ⟨rb, ro, none⟩) l.runs.length r1) := bkeep hb3 (by go_simp)
      have HO3 := Lib.hid (own_later (HO2.out.alloc _) hb3)
      obtain ⟨ta, tc, rfl⟩ := own_shape hsv
      have hrow := rowAt_own hsv
      obtain ⟨_, _, he, htc, htm, HTc⟩ := ints_open hrow
      simp only [Value.slice.injEq, true_and] at he
      obtain ⟨rfl, rfl⟩ := he
      have HTb : Hid (∀ g, (Value.slice ta L.length tc).ownBlock = some g → w2.heap.size + 1 ≤ g) := fun g hg => by have := (hsv.lt g hg).1; simpa using this
      clear hb3 hsv hrow q0 q1 q2 m0 m1 m2 HSt HB2 HO2
      go_wp2_with fail
      go_loopw [6, 39] (fun o q wr => ∃ k : Nat, k ≤ l.stops.length ∧ q = .int .i64 k ∧ (∃ oa oc, o = .slice oa k oc ∧ Hid (wr.ownsRow (w.heap.size + 1) 9 1 (.slice oa k oc) k (strs (ltT t.net.stops l L k))) ∧ Hid (∀ g, (Value.slice oa k oc).ownBlock = some g → g = w.heap.size + 1 ∨ w3.heap.size ≤ g)) ∧
          Hid (∀ g, g < w3.heap.size → g ≠ w.heap.size + 1 → wr.heap[g]? = w3.heap[g]?) ∧ w3.heap.size ≤ wr.heap.size ∧ Hid (Below w.heap.size w wr))
        (fun _ q _ => l.stops.length - (RowKit.intOf q).toNat)
      case atStart => exact ⟨0, Nat.zero_le _, rfl, ⟨_, _, rfl, HO3.out, fun g hg => by simp [Value.ownBlock] at hg; omega⟩, fun _ _ _ => rfl, Nat.le_refl _, HB3.out.1⟩
      case round =>
        obtain ⟨k, hk, rfl, ⟨oa, oc, rfl, HOwn, HBlk⟩, HKp, hzr, HB⟩ := hrel
        have hkp := fun (q o : Nat) (h1 : q < w3.heap.size) (h2 : q ≠ w.heap.size + 1) => World.cell?_of_block (a := ⟨q, o, none⟩) (HKp.out q h1 h2)
        have hw11 := HB3.out.2.1
        have hw12 := HB3.out.2.2
        have Z0 := (hkp w.heap.size 0 (by omega) (by omega)).trans z0
        have Z8 := (hkp w2.heap.size 1 (by omega) (by omega)).trans z8
        have Z9 := (hkp w2.heap.size 2 (by omega) (by omega)).trans z9
        by_cases hlt : k < l.stops.length
        · obtain ⟨sb, so, rfl, hsb, y0⟩ := HQ.out k hlt
          obtain ⟨m, hm, hmn⟩ := HSi.out k hlt
          obtain ⟨nb, no, rfl, hnb, x0⟩ := HNm.out m hmn
          rw [hm] at y0
          have Y0 := bkeep HB.out y0
          have X0 := bkeep HB.out x0
          have e1 : nmB t.net.stops (l.stops.getD k 0) = t.net.stops[m] := by rw [getD_in _ trivial hlt, hm, nmB_at _ _ hmn]
          have HNm0 : Hid (t.net.stops[m].data.toList = ltRow t.net.stops l L k 0) := by
            show _ = _
            rw [ltRow_zero, e1]
          have hs8 : t.net.stops[m].size ≤ 8 := HSz.out _ (List.getElem_mem hmn)
          have hk1 : (k : Int) < (l.stops.length : Int) := by omega
          have hm1 : (m : Int) < (t.net.stops.length : Int) := by omega
          have HCell : Hid (∀ i (hi : i < L.length), ∃ tb tq, ta = some ⟨tb, tq, none⟩ ∧ tb < wr.heap.size ∧ wr.cell? ⟨tb, tq + i, none⟩ = some (.int .i64 L[i])) := fun i hi => by
            obtain ⟨tb, tq, he, htb, t0⟩ := HTc.out i hi
            have h1 := HTb.out tb (by rw [he]; rfl)
            exact ⟨tb, tq, he, by omega, (hkp tb (tq + i) (by omega) (by omega)).trans t0⟩
          have HSum := Lib.hid (fun W (hW : Below w.heap.size w W) => sumOf_any _ _ W (rowAt_first (HRr.out.below rfl hW) (k := k) (by have := HLr.out; omega)) (by have := HLr.out; simp; omega) (fun r hr => HRb.out r (List.mem_of_mem_take hr)))
          have hsm := (sum_bound (l.runs.take k) (fun r hr => HRb.out r (List.mem_of_mem_take hr)))
          have hsm2 : (l.runs.take k).length ≤ 6 := by simp; omega
          have hkr : (k : Int) ≤ (r1 : Int) := by have := HLr.out; omega
          have hk0 : (0 : Int) ≤ (k : Int) := by omega
          obtain ⟨wo, rfl⟩ : ∃ wo : World, wo = wr := ⟨_, rfl⟩
          have HBd0 := Lib.hid (writeStr_any wo.heap.size wo.heap.size [] t.net.stops[m] _ (Bd.new' wo) (by simp; omega) (by simp))
          have hnbo : nb < wo.heap.size := by have := HB.out.size; omega
          have hsbo : sb < wo.heap.size := by have := HB.out.size; omega
          have hwwo : w.heap.size < wo.heap.size := by omega
          have hw2o : w2.heap.size < wo.heap.size := by omega
          generalize t.net.stops[m] = nm at *
          clear z0 z8 z9 hkp e1 hm x0 y0
          go_wp2_with fail
          go_at_call 190
          refine HBd0.out.mono ?_
          rintro e w4 ⟨rfl, hbd, hb4, -⟩
          rw [List.nil_append, HNm0.out] at hbd
          have HB4 : Hid (Bd wo.heap.size wo.heap.size (ltRow t.net.stops l L k 0) w4 ∧ Below wo.heap.size wo w4 ∧ wo.heap.size < w4.heap.size) := ⟨hbd, ((Below.refl _ _).alloc (Nat.le_refl _) _).trans hb4, by have := hb4.size; simp at this; omega⟩
          have HTik : Hid (∀ i (hi : i < L.length), (0 ≤ L[i] ∧ L[i] ≤ 1799) ∧ ∃ n : Nat, n ≤ 1799 ∧ L[i] + (l.runs.take k).sum = (n : Int) ∧ tmB l L[i] k = timeC n) := fun i hi => by
            obtain ⟨h1, h2⟩ := HTi.out i hi
            obtain ⟨n, h3, h4⟩ := h2 k
            exact ⟨h1, n, h3, h4, by unfold tmB; rw [h4, Int.toNat_natCast]⟩
          have Y8 := bkeep HB4.out.2.1 Z8
          have Y9 := bkeep HB4.out.2.1 Z9
          have HSum4 := Lib.hid (HSum.out w4 (HB.out.trans (HB4.out.2.1.mono HB.out.size)))
          clear hbd hb4 HBd0 HNm0 HSum Z0 Z8 Z9 Y0 X0
          generalize (l.runs.take k).sum = M at *
          go_wp2_with fail
          go_at_call 117
          refine HSum4.out.mono ?_
          rintro e w5 ⟨rfl, rfl⟩
          clear HSum4 Y8 Y9
          go_wp2_with fail
          go_loopw [58] (fun q wi => ∃ i : Nat, i ≤ L.length ∧ q = .int .i64 i ∧ Hid (Bd wo.heap.size wo.heap.size (ltRow t.net.stops l L k i) wi ∧ Below wo.heap.size wo wi ∧ wo.heap.size < wi.heap.size)) (fun q _ => L.length - (RowKit.intOf q).toNat)
          case atStart => exact ⟨0, Nat.zero_le _, rfl, HB4.out⟩
          case round =>
            clear HB4
            obtain ⟨i, hi, rfl, HBi⟩ := hrel
            by_cases hil : i < L.length
            · obtain ⟨tb, tq, rfl, htb, T0'⟩ := HCell.out i hil
              have T0 := bkeep HBi.out.2.1 T0'
              obtain ⟨⟨hy0, hy1⟩, n, hn, hyn, hT⟩ := HTik.out i hil
              have hsucc := ltRow_succ t.net.stops l L k i hil
              rw [hT] at hsucc
              have HSucc := Lib.hid hsucc
              have hle := HLe.out k i
              have hle2 := HLe.out k (i + 1)
              rw [hsucc] at hle2
              have hi1 : (i : Int) < (L.length : Int) := by omega
              generalize L[i] = y at *
              have hwm : IntKind.i64.wrap (y + M) = (n : Int) := by rw [IntWalk.i64_in _ (by omega)]; exact hyn
              have HTx := Lib.hid (fun W => timeText_any n W hn)
              have hts5 : (timeC n).size = 5 := rfl
              generalize timeC n = tm at *
              have HW1 := Lib.hid (writeStr_any wo.heap.size wo.heap.size _ ⟨#[32]⟩ _ HBi.out.1 (by have : (⟨#[32]⟩ : ByteArray).size = 1 := rfl; omega) HBi.out.2.1.size)
              clear hsucc T0' hT
              obtain ⟨wq, rfl⟩ : ∃ wq : World, wq = wr := ⟨_, rfl⟩
              go_wp2_with fail
              go_at_call 190
              refine HW1.out.mono ?_
              rintro e w5 ⟨rfl, hbd5, hb5, -⟩
              have HB5 : Hid (Bd wo.heap.size wo.heap.size (ltRow t.net.stops l L k i ++ [32]) w5 ∧ Below wo.heap.size wo w5 ∧ wo.heap.size < w5.heap.size) := ⟨hbd5, HBi.out.2.1.trans hb5, by have := hb5.size; have := HBi.out.2.2; omega⟩
              clear hbd5 hb5 HW1 T0
              go_wp2_with fail
              go_at_call 191
              refine (HTx.out _).mono ?_
              rintro e w6 ⟨rfl, hb6⟩
              have HB6 : Hid (Bd wo.heap.size wo.heap.size (ltRow t.net.stops l L k i ++ [32]) w6 ∧ Below wo.heap.size wo w6 ∧ wo.heap.size < w6.heap.size) := ⟨HB5.out.1.later hb6, HB5.out.2.1.trans (hb6.mono HB5.out.2.1.size), by have := hb6.size; have := HB5.out.2.2; omega⟩
              have HW2 := Lib.hid (writeStr_any wo.heap.size wo.heap.size _ tm _ HB6.out.1 (by simp only [List.length_append, List.length_cons, List.length_nil]; omega) HB6.out.2.1.size)
              clear hb6 HB5
              go_wp2_with fail
              go_at_call 190
              refine HW2.out.mono ?_
              rintro e w7 ⟨rfl, hbd7, hb7, -⟩
              rw [← HSucc.out] at hbd7
              have HB7 : Hid (Bd wo.heap.size wo.heap.size (ltRow t.net.stops l L k (i + 1)) w7 ∧ Below wo.heap.size wo w7 ∧ wo.heap.size < w7.heap.size) := ⟨hbd7, HB6.out.2.1.trans hb7, by have := hb7.size; have := HB6.out.2.2; omega⟩
              clear hbd7 hb7 HW2 HB6
              go_wp2_with fail
              go_roundw
              case rel => exact ⟨i + 1, by omega, by go_num, HB7⟩
              case measure => simp [RowKit.intOf]; omega
            · obtain rfl : i = L.length := by omega
              have hi1 : ¬ (L.length : Int) < (L.length : Int) := by omega
              have HSucc := Lib.hid (ltT_succ t.net.stops l L k)
              obtain ⟨wq, rfl⟩ : ∃ wq : World, wq = wr := ⟨_, rfl⟩
              have HStr := Lib.hid (buildStr_any wo.heap.size wo.heap.size _ _ HBi.out.1 HBi.out.2.1.size)
              have hX : (⟨(ltRow t.net.stops l L k L.length).toArray⟩ : ByteArray) = ltB t.net.stops l L k := rfl
              rw [hX] at HStr
              clear hX
              generalize ltB t.net.stops l L k = nb2 at *
              go_wp2_with fail
              go_at_call 192
              refine HStr.out.mono ?_
              rintro e w5 ⟨rfl, hb5, -⟩
              have HBj : Hid (Below wo.heap.size wo w5) := HBi.out.2.1.trans hb5
              have HOi := Lib.hid (own_later HOwn.out HBj.out)
              have hzi := HBj.out.size
              clear hb5 HStr
              go_wp2_with (at_builtin; refine wpList_append_lies _ rfl _ _ 26 rfl (w.heap.size + 1) 9 i0 (.string ⟨#[]⟩) 1 16 Try.underlying26 hi0 hz0 hz1 hz2 rfl (by decide) _ _ _ rfl (HOi.out.alloc _) ⟨w5.heap.size, 0, none⟩ 1 1 [.string nb2] rfl rfl ?c1 ?c2 (by omega) ?c3 ?c4 ?c5 (w5.heap.size + 1) ?c6 ?_)
              case c1 => exact one_newN _ _ _ rfl
              case c2 => intro u hu; simp at hu; subst hu; rfl
              case c3 => unfold maxLen; omega
              case c4 => omega
              case c5 => simp; omega
              case c6 => simp
              intro g3 c3 w6 hown3 hg3 hat3 hlt3
              have hg3' : (w5.alloc (.cells #[.string nb2] 9)).grownBy w6 (Value.slice oa k oc).ownBlock := hg3
              have hz3 := hg3'.size
              simp at hz3
              have hbj : Below wo.heap.size wo (w5.alloc (.cells #[.string nb2] 9)) := HBj.out.alloc hzi _
              have hne3 : ∀ q, q < w3.heap.size → q ≠ w.heap.size + 1 → some q ≠ (Value.slice oa k oc).ownBlock := fun q hq h3 e => by rcases HBlk.out q e.symm with h | h <;> omega
              have HRel1 : Hid (w6.ownsRow (w.heap.size + 1) 9 1 (.slice (some ⟨g3, 0, none⟩) (k + 1) c3) (k + 1) (strs (ltT t.net.stops l L (k + 1)))) := by
                show World.ownsRow _ _ _ _ _ _ _
                rw [HSucc.out]; simpa [strs] using hown3
              have HRel2 : Hid (∀ g, (Value.slice (some ⟨g3, 0, none⟩) (k + 1) c3).ownBlock = some g → g = w.heap.size + 1 ∨ w3.heap.size ≤ g) := fun g hg => by
                simp [Value.ownBlock] at hg
                subst hg
                rcases hat3 with h | h
                · exact HBlk.out _ h
                · right; omega
              have HRel3 : Hid (∀ g, g < w3.heap.size → g ≠ w.heap.size + 1 → w6.heap[g]? = w3.heap[g]?) := fun g h1 h2 => by
                rw [hg3'.block g (by simp; omega) (hne3 g h1 h2), hbj.block g (by omega)]
                exact HKp.out g h1 h2
              have HRel4 : Hid (Below w.heap.size w w6) := (HB.out.trans (hbj.mono HB.out.size)).grown hg3' (by have := HB.out.size; simp; omega) (fun g hg => by have := (HOi.out.lt g hg).1; omega)
              have hz4 : w3.heap.size ≤ w6.heap.size := by omega
              clear hown3 hg3 hg3' hat3 hlt3 hbj hne3 HKp HBlk HOi HBi HBj
              go_wp2_with fail
              exact ⟨⟨k + 1, by omega, by go_num, ⟨_, _, rfl, HRel1, HRel2⟩, HRel3, hz4, HRel4⟩, by simp [RowKit.intOf]; omega⟩
        · obtain rfl : k = l.stops.length := by omega
          have hk1 : ¬ (l.stops.length : Int) < (l.stops.length : Int) := by omega
          have hX := HOwn.out
          have hle : w.heap.size ≤ w.heap.size + 1 := by omega
          have HX := Lib.hid (own_base hX hle)
          clear hX z0 z8 z9 Z0 Z8 Z9 hkp
          go_wp2_with fail
          go_ret2
          exact ⟨⟨.slice oa l.stops.length oc, rfl, by rw [ltT_len]; exact HX.out⟩, HB.out⟩
    · rw [show ltF t line = ([], false) from if_neg fun h => hln h.2]
      have HLn := Lib.hid hln
      clear hln hr hf hs hn ht HSt hg
      go_enter Try.func89, Try.ntmps89
      go_wp2_with fail
      go_at_call 77
      refine (HG.out _ (((Below.refl _ _).alloc (Nat.le_refl _) _).alloc (by simp) _)).mono ?_
      rintro e w1 ⟨rfl, hb1⟩
      have HB1 : Hid (Below w.heap.size w w1 ∧ w.heap.size < w1.heap.size) := ⟨(((Below.refl _ _).alloc (Nat.le_refl _) _).alloc (by simp) _).trans (hb1.mono (by simp; omega)), by have := hb1.size; simp at this; omega⟩
      have p0 : w1.cell? ⟨w.heap.size, 0, none⟩ = some (.slice a t.net.stops.length c) := bkeep hb1 (by go_simp)
      have p1 : w1.cell? ⟨w.heap.size, 1, none⟩ = some (.slice a' t.net.lines.length c') := bkeep hb1 (by go_simp)
      have p2 : w1.cell? ⟨w.heap.size, 2, none⟩ = some (.slice b t.trips.length d) := bkeep hb1 (by go_simp)
      have HO1 := Lib.hid (own_later HRow2.out hb1)
      clear hb1 HRow2
      go_wp2_with fail
      go_at_call 105
      refine (HIs.out _ HB1.out.1).mono ?_
      rintro e w2 ⟨he, hb2⟩
      rcases he with ⟨hyes, rfl⟩ | ⟨_, rfl⟩
      · exact absurd hyes.2 HLn.out
      have HB2 : Hid (Below w.heap.size w w2) := HB1.out.1.trans (hb2.mono HB1.out.1.size)
      have HO2 := Lib.hid (own_later HO1.out hb2)
      clear hb2 p0 p1 p2
      go_wp2_with fail
      go_ret2
      exact ⟨⟨_, rfl, own_base HO2.out (show w.heap.size ≤ w.heap.size + 1 by omega)⟩, HB2.out⟩
  · rw [ttB_no hg] at HG
    rw [show ltF t line = ([], false) from if_neg fun h => hg h.1]
    clear hg hr hf hs hn ht HSt HIs
    go_enter Try.func89, Try.ntmps89
    go_wp2_with fail
    go_at_call 77
    refine (HG.out _ (((Below.refl _ _).alloc (Nat.le_refl _) _).alloc (by simp) _)).mono ?_
    rintro e w1 ⟨rfl, hb1⟩
    have HB1 : Hid (Below w.heap.size w w1 ∧ w.heap.size < w1.heap.size) := ⟨(((Below.refl _ _).alloc (Nat.le_refl _) _).alloc (by simp) _).trans (hb1.mono (by simp; omega)), by have := hb1.size; simp at this; omega⟩
    have HO1 := Lib.hid (own_later HRow2.out hb1)
    clear hb1 HRow2
    go_wp2_with fail
    go_ret2
    exact ⟨⟨_, rfl, own_base HO1.out (show w.heap.size ≤ w.heap.size + 1 by omega)⟩, HB1.out.1⟩

theorem tab_in {B : Nat} {r : List ByteArray} {b : Bool} {e : Ending} {w w' : World} (h : TabAns B r b e w' ∧ Below B w w') : ∃ v', e = .returned (.tuple #[v', .bool b]) ∧ StrsIn B w'.heap.size w' v' r ∧ Below B w w' := by
  obtain ⟨⟨v', he, ho⟩, hb⟩ := h
  exact ⟨v', he, StrsIn.mk ho, hb⟩
theorem ltF_small (t : TTD) (line : Int) (hs : TTSmall t) : StrsSmall (ltF t line).1 := by
  unfold ltF
  split
  · rename_i h
    obtain ⟨hg, hln⟩ := h
    obtain ⟨K, rfl⟩ := Int.eq_ofNat_of_zero_le hln.1
    have hK : K < t.net.lines.length := by omega
    simp only
    rw [tabL_at hK]
    obtain ⟨-, hls⟩ := good_sizes hg.1
    obtain ⟨-, h2, -⟩ := hls _ (List.getElem_mem hK)
    simp only [StrsSmall, ltT_len]; omega
  · simp [StrsSmall]
theorem bothLineTable (t : TTD) (hf : TTFits t) (hs : TTSmall t) (m : Int) (w1 : (Lit.int .i64 m).wf = true) : ∃ (r : List ByteArray) (b : Bool), StrsSmall r ∧ ∀ v w, TTAt w v t →
    Calls Try.prog 88 #[v, .int .i64 m] w (fun e w' => ∃ v', e = .returned (.tuple #[v', .bool b]) ∧ StrsIn w.heap.size w'.heap.size w' v' r ∧ Below w.heap.size w w') ∧
    Calls Try.prog 89 #[v, .int .i64 m] w (fun e w' => ∃ v', e = .returned (.tuple #[v', .bool b]) ∧ StrsIn w.heap.size w'.heap.size w' v' r ∧ Below w.heap.size w w') :=
  ⟨_, _, ltF_small t m hs, fun v w h => ⟨(specLineTable_any v t m w h hf hs).mono fun _ _ => tab_in, (implLineTable_any v t m w h hf hs).mono fun _ _ => tab_in⟩⟩
end Go.Proofs.Ytffcgblionlhhaa
