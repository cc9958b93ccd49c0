/-
  CONTRACT of spec.l6Network: the text of a network.
-/
import Derived.Test.YtffcgblionlhhaaDoorMb
import Derived.Test.YtffcgblionlhhaaDoorNum
import Derived.Test.YtffcgblionlhhaaDoorTxP
namespace Go.Proofs.YtffcgblionlhhaaDoor
open Go.RowKit
set_option linter.unusedVariables false
set_option linter.unusedSimpArgs false

theorem stopsTx_take (ss : List ByteArray) (k : Nat) (h : k < ss.length) : stopsTx (ss.take (k + 1)) = stopsTx (ss.take k) ++ [115, 116, 111, 112, 32] ++ ss[k].data.toList ++ [10] := by
  rw [List.take_succ_eq_append_getElem h, stopsTx_snoc]; simp [stopTx]
theorem linesTx_take (ss : List ByteArray) (ls : List LineD) (k : Nat) (h : k < ls.length) : linesTx ss (ls.take (k + 1)) = linesTx ss (ls.take k) ++ lineTx ss ls[k] := by
  rw [List.take_succ_eq_append_getElem h, linesTx_snoc]
/-- the text of the first k lines behind the stops, and of p stops of the next one -/
def partTx (n : NetD) (l : LineD) (k p : Nat) : List UInt8 := stopsTx n.stops ++ linesTx n.stops (n.lines.take k) ++ headTx l ++ wayTx n.stops l p
theorem partTx_len {n : NetD} (h : NetGood n) (k : Nat) (hk : k < n.lines.length) (p : Nat) (hp : p ≤ 6) : (partTx n n.lines[k] k p).length ≤ 1400 := by
  have h1 := stopsTx_len h n.stops.length
  rw [List.take_length] at h1
  have h2 := linesTx_len h k
  obtain ⟨hs, hl⟩ := good_sizes h
  obtain ⟨a, b, c, d, e⟩ := hl _ (List.getElem_mem hk)
  have h3 := wayTx_len n.stops n.lines[k] hs d p
  have h4 := length_list n.lines[k].name
  simp only [partTx, headTx, List.length_append, List.length_cons, List.length_nil]
  omega
theorem stop_inL {l : LineD} {n k : Nat} (h : ∀ s ∈ l.stops, 0 ≤ s ∧ s < (n : Int)) (hk : k < l.stops.length) : ∃ m : Nat, l.stops[k] = (m : Int) ∧ m < n := by
  obtain ⟨h1, h2⟩ := h _ (List.getElem_mem hk)
  obtain ⟨m, hm⟩ := Int.eq_ofNat_of_zero_le h1
  exact ⟨m, hm, by omega⟩
theorem num_len (r : Int) (h : 1 ≤ r ∧ r ≤ 60) : (Lib.itoa r).length ≤ 20 := itoa_le r (by omega) (by omega)

set_option maxRecDepth 100000 in
set_option maxHeartbeats 8000000 in
theorem l6Network_any (v : Value) (n : NetD) (w : World) (hr : NetAt w v n) (hg : NetGood n) :
    Calls Tryd.prog 84 #[v] w fun e w' => e = .returned (.string ⟨(netTx n).toArray⟩) ∧ Below w.heap.size w w' := by
  obtain ⟨hsz, hls⟩ := good_sizes hg
  have hcnt := hg.1
  have HLe := Lib.hid (linesTx_len hg)
  have HSe := Lib.hid (stopsTx_len hg)
  have HPe := Lib.hid (fun k (hk : k < n.lines.length) p hp => partTx_len hg k hk p hp)
  have HSz := Lib.hid hsz
  have HLs := Lib.hid hls
  obtain ⟨a, c, a', c', rfl, -, -⟩ := net_open hr
  have HLn := Lib.hid (fun k hk => net_line hr k hk)
  obtain ⟨_, l', he, hss, -⟩ := hr
  simp at he
  obtain ⟨rfl, rfl⟩ := he
  obtain ⟨_, _, he, hac, ham, HN⟩ := strs_open hss
  simp at he
  obtain ⟨rfl, rfl⟩ := he
  have hn8 : n.stops.length ≤ 8 := hcnt.2.1
  have hl5 : n.lines.length ≤ 5 := hcnt.2.2.2
  clear hss hg hsz hls hcnt
  go_enter Tryd.func84, Tryd.ntmps84
  go_wp2_with fail
  go_loop [3, 4] (fun s q => ∃ k : Nat, k ≤ n.stops.length ∧ q = .int .i64 k ∧ s = .string ⟨(stopsTx (n.stops.take k)).toArray⟩) (fun _ q => n.stops.length - (RowKit.intOf q).toNat)
  case atStart => exact ⟨0, Nat.zero_le _, rfl, rfl⟩
  case round =>
    obtain ⟨k, hk, rfl, rfl⟩ := hrel
    by_cases hlt : k < n.stops.length
    · obtain ⟨nb, no, rfl, hnb, x0⟩ := HN.out k hlt
      have hle := HSe.out k
      have hsucc := stopsTx_take n.stops k hlt
      have hz := HSz.out _ (List.getElem_mem hlt)
      have hzl := length_list n.stops[k]
      generalize n.stops[k] = nm at *
      generalize stopsTx (n.stops.take k) = T at *
      obtain ⟨B0, hB0⟩ : ∃ B0 : ByteArray, B0 = ⟨T.toArray⟩ := ⟨_, rfl⟩
      obtain ⟨B1, hB1⟩ : ∃ B1 : ByteArray, B1 = ⟨(T ++ [115, 116, 111, 112, 32]).toArray⟩ := ⟨_, rfl⟩
      obtain ⟨B2, hB2⟩ : ∃ B2 : ByteArray, B2 = ⟨(T ++ [115, 116, 111, 112, 32] ++ nm.data.toList).toArray⟩ := ⟨_, rfl⟩
      obtain ⟨B3, hB3⟩ : ∃ B3 : ByteArray, B3 = ⟨(stopsTx (n.stops.take (k + 1))).toArray⟩ := ⟨_, rfl⟩
      have hadd1 : ∀ W, (Op.stringOp .add B0 ⟨#[115, 116, 111, 112, 32]⟩).run Tryd.prog W = .ok (.string B1) W := fun W => by
        rw [hB1]; exact str_add W _ _ _ [115, 116, 111, 112, 32] (by rw [hB0]) rfl (by simp only [List.length_cons, List.length_nil]; omega)
      have hadd2 : ∀ W, (Op.stringOp .add B1 nm).run Tryd.prog W = .ok (.string B2) W := fun W => by
        rw [hB2]; exact str_add W _ _ _ _ (by rw [hB1]) rfl (by simp only [List.length_append, List.length_cons, List.length_nil]; omega)
      have hadd3 : ∀ W, (Op.stringOp .add B2 ⟨#[10]⟩).run Tryd.prog W = .ok (.string B3) W := fun W => by
        rw [hB3, hsucc]; exact str_add W _ _ _ [10] (by rw [hB2]) rfl (by simp only [List.length_append, List.length_cons, List.length_nil]; omega)
      have HE := Lib.hid hB3
      rw [← hB0]
      have hk1 : (k : Int) < (n.stops.length : Int) := by omega
      have hnb1 : nb < w.heap.size + 1 := by omega
      clear hB0 hB1 hB2 hB3 hsucc hle hz hzl
      go_wp2_with fail
      go_round
      case rel => exact ⟨k + 1, by omega, by go_num, by rw [HE.out]⟩
      case measure => simp [RowKit.intOf]; omega
    · obtain rfl : k = n.stops.length := by omega
      have hlt1 : ¬ (n.stops.length : Int) < (n.stops.length : Int) := by omega
      have HT0 : Hid (stopsTx n.stops ++ linesTx n.stops (n.lines.take 0) = stopsTx n.stops) := by show _ = _; simp [linesTx]
      have HBel0 : Hid (Below w.heap.size w (w.alloc (.cells #[.slice a n.stops.length c, .slice a' n.lines.length c'] 46 (0, 0)))) := (Below.refl _ _).alloc (Nat.le_refl _) _
      go_wp2_with fail
      go_loopw [3, 5] (fun s q wr => ∃ k : Nat, k ≤ n.lines.length ∧ q = .int .i64 k ∧ s = .string ⟨(stopsTx n.stops ++ linesTx n.stops (n.lines.take k)).toArray⟩ ∧
          wr.cell? ⟨w.heap.size, 0, none⟩ = some (.slice a n.stops.length c) ∧ wr.cell? ⟨w.heap.size, 1, none⟩ = some (.slice a' n.lines.length c') ∧ Hid (Below w.heap.size w wr) ∧ w.heap.size < wr.heap.size)
        (fun _ q _ => n.lines.length - (RowKit.intOf q).toNat)
      case atStart => exact ⟨0, Nat.zero_le _, rfl, by first | rw [HT0.out] | (rw [List.take_length, HT0.out]), by go_simp, by go_simp, HBel0, by simp⟩
      case round =>
        clear HBel0 HT0
        obtain ⟨k, hk, rfl, rfl, z0, z1, HB, hzr⟩ := hrel
        by_cases hlt : k < n.lines.length
        · obtain ⟨lb, lo, s0, s1, r0, r1, rfl, hlb, x0, x1, x2, hrs, hrr⟩ := HLn.out k hlt
          have X0 := bkeep HB.out x0
          have X1 := bkeep HB.out x1
          have X2 := bkeep HB.out x2
          obtain ⟨_, _, he, hqc, hqm, HQ⟩ := ints_open hrs
          simp at he
          obtain ⟨rfl, rfl⟩ := he
          obtain ⟨_, _, he, hrc, hrm, HR⟩ := ints_open hrr
          simp at he
          obtain ⟨rfl, rfl⟩ := he
          obtain ⟨hnm, hsl, hrl, hrb, hsin⟩ := HLs.out _ (List.getElem_mem hlt)
          have HIn := Lib.hid (fun p (hp : p < n.lines[k].stops.length) => stop_inL hsin hp)
          have HRb := Lib.hid hrb
          have HPk := Lib.hid (fun p hp => HPe.out k hlt p hp)
          have HLt := Lib.hid (linesTx_take n.stops n.lines k hlt)
          have hle := HPe.out k hlt 0 (by omega)
          have hll := HLe.out k
          have hsl1 := HSe.out n.stops.length
          rw [List.take_length] at hsl1
          have hnl := length_list n.lines[k].name
          obtain ⟨B0, hB0⟩ : ∃ B0 : ByteArray, B0 = ⟨(stopsTx n.stops ++ linesTx n.stops (n.lines.take k)).toArray⟩ := ⟨_, rfl⟩
          obtain ⟨B1, hB1⟩ : ∃ B1 : ByteArray, B1 = ⟨(stopsTx n.stops ++ linesTx n.stops (n.lines.take k) ++ [108, 105, 110, 101, 32]).toArray⟩ := ⟨_, rfl⟩
          obtain ⟨B2, hB2⟩ : ∃ B2 : ByteArray, B2 = ⟨(partTx n n.lines[k] k 0).toArray⟩ := ⟨_, rfl⟩
          have hadd1 : ∀ W, (Op.stringOp .add B0 ⟨#[108, 105, 110, 101, 32]⟩).run Tryd.prog W = .ok (.string B1) W := fun W => by
            rw [hB1]; exact str_add W _ _ _ [108, 105, 110, 101, 32] (by rw [hB0]) rfl (by simp only [List.length_append, List.length_cons, List.length_nil]; omega)
          have hadd2 : ∀ W, (Op.stringOp .add B1 n.lines[k].name).run Tryd.prog W = .ok (.string B2) W := fun W => by
            rw [hB2, show partTx n n.lines[k] k 0 = (stopsTx n.stops ++ linesTx n.stops (n.lines.take k) ++ [108, 105, 110, 101, 32]) ++ n.lines[k].name.data.toList by simp [partTx, headTx, wayTx_zero]]
            exact str_add W _ _ _ _ (by rw [hB1]) rfl (by simp only [List.length_append, List.length_cons, List.length_nil]; omega)
          have HE := Lib.hid hB2
          rw [← hB0]
          have hk1 : (k : Int) < (n.lines.length : Int) := by omega
          have hlbr : lb < wr.heap.size := by omega
          clear hB0 hB1 hB2 hle hll hsl1 hnl hnm hrb hsin hrs hrr x0 x1 x2
          generalize hL : n.lines[k] = l at *
          clear hL
          go_wp2_with fail
          obtain ⟨wo, hwo⟩ : ∃ wo : World, wo = wr.alloc (.cells #[.string l.name, .slice s0 l.stops.length s1, .slice r0 l.runs.length r1] 130 (0, 0)) := ⟨_, rfl⟩
          have HBo : Hid (Below w.heap.size w wo) := by show Below _ _ _; rw [hwo]; exact HB.out.alloc (by omega) _
          have y0 : wo.cell? ⟨w.heap.size, 0, none⟩ = some (.slice a n.stops.length c) := by rw [hwo]; exact acell z0 _
          have y1 : wo.cell? ⟨w.heap.size, 1, none⟩ = some (.slice (some ⟨lb, lo, none⟩) n.lines.length c') := by rw [hwo]; exact acell z1 _
          have l0 : wo.cell? ⟨wr.heap.size, 0, none⟩ = some (.string l.name) := by rw [hwo]; go_simp
          have l1 : wo.cell? ⟨wr.heap.size, 1, none⟩ = some (.slice s0 l.stops.length s1) := by rw [hwo]; go_simp
          have l2 : wo.cell? ⟨wr.heap.size, 2, none⟩ = some (.slice r0 l.runs.length r1) := by rw [hwo]; go_simp
          have hzo : wr.heap.size < wo.heap.size := by rw [hwo]; simp
          rw [← hwo]
          clear hwo z0 z1 X0 X1 X2 HB hadd1 hadd2
          rw [HE.out]
          go_loopw [3, 7] (fun s q wi => ∃ p : Nat, p ≤ l.stops.length ∧ q = .int .i64 p ∧ s = .string ⟨(partTx n l k p).toArray⟩ ∧ Hid (Dr wo wi))
            (fun _ q _ => l.stops.length - (RowKit.intOf q).toNat)
          case atStart => exact ⟨0, Nat.zero_le _, rfl, rfl, Dr.refl _⟩
          case round =>
            obtain ⟨p, hp, rfl, rfl, HDr⟩ := hrel
            obtain ⟨nq, rfl⟩ := HDr.out
            by_cases hpl : p < l.stops.length
            · obtain ⟨sb, so, rfl, hsb, v0⟩ := HQ.out p hpl
              obtain ⟨m, hm, hmn⟩ := HIn.out p hpl
              obtain ⟨nb, no, rfl, hnb, u0⟩ := HN.out m hmn
              rw [hm] at v0
              have V0 := bkeep HBo.out v0
              have U0 := bkeep HBo.out u0
              have hz := HSz.out _ (List.getElem_mem hmn)
              have hzl := length_list n.stops[m]
              have hle := HPk.out p (by omega)
              have e1 : nmL n.stops (l.stops.getD p 0) = n.stops[m].data.toList := by unfold nmL; rw [getD_in _ trivial hpl, hm, Int.toNat_natCast, getD_in _ trivial hmn]
              have hp1 : (p : Int) < (l.stops.length : Int) := by omega
              have hm1 : (m : Int) < (n.stops.length : Int) := by omega
              have hsb1 : sb < wo.heap.size := Nat.lt_of_lt_of_le hsb HBo.out.size
              by_cases hpr : p < l.runs.length
              · obtain ⟨rb, ro, rfl, hrb, t0⟩ := HR.out p hpr
                have T0 := bkeep HBo.out t0
                have hrr := HRb.out _ (List.getElem_mem hpr)
                have hnl := num_len _ hrr
                have HNu := Lib.hid (fun W => l1Num_any l.runs[p] W (by omega) (by omega))
                have hsucc : partTx n l k (p + 1) = partTx n l k p ++ [32] ++ n.stops[m].data.toList ++ [32] ++ Lib.itoa l.runs[p] := by
                  unfold partTx; rw [wayTx_mid _ _ _ hpr, e1, getD_in _ trivial hpr]; simp
                generalize n.stops[m] = nm at *
                generalize l.runs[p] = rn at *
                generalize Lib.itoa rn = rt at *
                generalize partTx n l k p = T at *
                obtain ⟨B0, hB0⟩ : ∃ B0 : ByteArray, B0 = ⟨T.toArray⟩ := ⟨_, rfl⟩
                obtain ⟨B1, hB1⟩ : ∃ B1 : ByteArray, B1 = ⟨(T ++ [32]).toArray⟩ := ⟨_, rfl⟩
                obtain ⟨B2, hB2⟩ : ∃ B2 : ByteArray, B2 = ⟨(T ++ [32] ++ nm.data.toList).toArray⟩ := ⟨_, rfl⟩
                obtain ⟨B3, hB3⟩ : ∃ B3 : ByteArray, B3 = ⟨(T ++ [32] ++ nm.data.toList ++ [32]).toArray⟩ := ⟨_, rfl⟩
                obtain ⟨B4, hB4⟩ : ∃ B4 : ByteArray, B4 = ⟨(partTx n l k (p + 1)).toArray⟩ := ⟨_, rfl⟩
                obtain ⟨R, hR⟩ : ∃ R : ByteArray, R = ⟨rt.toArray⟩ := ⟨_, rfl⟩
                rw [← hR] at HNu
                have hadd1 : ∀ W, (Op.stringOp .add B0 ⟨#[32]⟩).run Tryd.prog W = .ok (.string B1) W := fun W => by
                  rw [hB1]; exact str_add W _ _ _ [32] (by rw [hB0]) rfl (by simp only [List.length_cons, List.length_nil]; omega)
                have hadd2 : ∀ W, (Op.stringOp .add B1 nm).run Tryd.prog W = .ok (.string B2) W := fun W => by
                  rw [hB2]; exact str_add W _ _ _ _ (by rw [hB1]) rfl (by simp only [List.length_append, List.length_cons, List.length_nil]; omega)
                have hadd3 : ∀ W, (Op.stringOp .add B2 ⟨#[32]⟩).run Tryd.prog W = .ok (.string B3) W := fun W => by
                  rw [hB3]; exact str_add W _ _ _ [32] (by rw [hB2]) rfl (by simp only [List.length_append, List.length_cons, List.length_nil]; omega)
                have hadd4 : ∀ W, (Op.stringOp .add B3 R).run Tryd.prog W = .ok (.string B4) W := fun W => by
                  rw [hB4, hsucc]; exact str_add W _ _ _ _ (by rw [hB3]) (by rw [hR]) (by simp only [List.length_append, List.length_cons, List.length_nil]; omega)
                have HE4 := Lib.hid hB4
                rw [← hB0]
                have hpr1 : (p : Int) < (l.runs.length : Int) := by omega
                clear hB0 hB1 hB2 hB3 hB4 hR hsucc hle hz hzl hnl e1 hm v0 u0 t0 hrr
                go_wp2_with fail
                go_quiet (fail)
                go_wp2_with (go_at_call 97; refine (HNu.out _).mono ?_; rintro e w' ⟨rfl, nm2, rfl⟩)
                go_roundw
                case rel => exact ⟨p + 1, by omega, by go_num, by rw [HE4.out], ⟨_, rfl⟩⟩
                case measure => simp [RowKit.intOf]; omega
              · have hsucc : partTx n l k (p + 1) = partTx n l k p ++ [32] ++ n.stops[m].data.toList := by
                  unfold partTx; rw [wayTx_last _ _ _ hpr, e1]; simp
                generalize n.stops[m] = nm at *
                generalize partTx n l k p = T at *
                obtain ⟨B0, hB0⟩ : ∃ B0 : ByteArray, B0 = ⟨T.toArray⟩ := ⟨_, rfl⟩
                obtain ⟨B1, hB1⟩ : ∃ B1 : ByteArray, B1 = ⟨(T ++ [32]).toArray⟩ := ⟨_, rfl⟩
                obtain ⟨B2, hB2⟩ : ∃ B2 : ByteArray, B2 = ⟨(partTx n l k (p + 1)).toArray⟩ := ⟨_, rfl⟩
                have hadd1 : ∀ W, (Op.stringOp .add B0 ⟨#[32]⟩).run Tryd.prog W = .ok (.string B1) W := fun W => by
                  rw [hB1]; exact str_add W _ _ _ [32] (by rw [hB0]) rfl (by simp only [List.length_cons, List.length_nil]; omega)
                have hadd2 : ∀ W, (Op.stringOp .add B1 nm).run Tryd.prog W = .ok (.string B2) W := fun W => by
                  rw [hB2, hsucc]; exact str_add W _ _ _ _ (by rw [hB1]) rfl (by simp only [List.length_append, List.length_cons, List.length_nil]; omega)
                have HE4 := Lib.hid hB2
                rw [← hB0]
                have hpr1 : ¬ (p : Int) < (l.runs.length : Int) := by omega
                clear hB0 hB1 hB2 hsucc hle hz hzl e1 hm v0 u0
                go_wp2_with fail
                go_quiet (fail)
                go_wp2_with fail
                go_roundw
                case rel => exact ⟨p + 1, by omega, by go_num, by rw [HE4.out], ⟨_, rfl⟩⟩
                case measure => simp [RowKit.intOf]; omega
            · obtain rfl : p = l.stops.length := by omega
              have hlt1 : ¬ (l.stops.length : Int) < (l.stops.length : Int) := by omega
              have hle := HPk.out l.stops.length (by omega)
              obtain ⟨B0, hB0⟩ : ∃ B0 : ByteArray, B0 = ⟨(partTx n l k l.stops.length).toArray⟩ := ⟨_, rfl⟩
              obtain ⟨B1, hB1⟩ : ∃ B1 : ByteArray, B1 = ⟨(stopsTx n.stops ++ linesTx n.stops (n.lines.take (k + 1))).toArray⟩ := ⟨_, rfl⟩
              have hadd1 : ∀ W, (Op.stringOp .add B0 ⟨#[10]⟩).run Tryd.prog W = .ok (.string B1) W := fun W => by
                rw [hB1, HLt.out, show stopsTx n.stops ++ (linesTx n.stops (n.lines.take k) ++ lineTx n.stops l) = partTx n l k l.stops.length ++ [10] by simp [partTx, lineTx]]
                exact str_add W _ _ _ [10] (by rw [hB0]) rfl (by simp only [List.length_cons, List.length_nil]; omega)
              have HE1 := Lib.hid hB1
              rw [← hB0]
              clear hB0 hB1 hle
              have HBn : Hid (Below w.heap.size w (wo.drewN nq)) := HBo.out.trans ((Dr.below ⟨nq, rfl⟩).mono HBo.out.size)
              have hzn : w.heap.size < (wo.drewN nq).heap.size := by show w.heap.size < wo.heap.size; omega
              go_wp2_with fail
              exact ⟨⟨k + 1, by omega, by go_num, by rw [HE1.out], y0, y1, HBn, hzn⟩, by simp [RowKit.intOf]; omega⟩
        · obtain rfl : k = n.lines.length := by omega
          have hlt1 : ¬ (n.lines.length : Int) < (n.lines.length : Int) := by omega
          have HT : Hid (stopsTx n.stops ++ linesTx n.stops (n.lines.take n.lines.length) = netTx n) := by show _ = _; rw [List.take_length]; rfl
          rw [HT.out]
          go_wp2_with fail
          go_ret
          exact ⟨rfl, HB.out⟩
end Go.Proofs.YtffcgblionlhhaaDoor
