/-
  CONTRACT of spec.l6Timetable: the text of a timetable.
-/
import Derived.Test.YtffcgblionlhhaaDoorMb
import Derived.Test.YtffcgblionlhhaaDoorL6Net
import Derived.Test.YtffcgblionlhhaaDoorTimeText
import Derived.Test.YtffcgblionlhhaaDoorTTTxP
namespace Go.Proofs.YtffcgblionlhhaaDoor
open Go.RowKit
set_option linter.unusedVariables false
set_option linter.unusedSimpArgs false

theorem keepV5 {W w w' : World} {p0 p1 p2 p3 p4 : Addr} {x0 x1 x2 x3 x4 : Value} (hb : Below w.heap.size w w') (h : w.cell? p0 = some x0 ∧ w.cell? p1 = some x1 ∧ w.cell? p2 = some x2 ∧ w.cell? p3 = some x3 ∧ w.cell? p4 = some x4 ∧ Below W.heap.size W w) :
    w'.cell? p0 = some x0 ∧ w'.cell? p1 = some x1 ∧ w'.cell? p2 = some x2 ∧ w'.cell? p3 = some x3 ∧ w'.cell? p4 = some x4 ∧ Below W.heap.size W w' :=
  ⟨bkeep hb h.1, bkeep hb h.2.1, bkeep hb h.2.2.1, bkeep hb h.2.2.2.1, bkeep hb h.2.2.2.2.1, h.2.2.2.2.2.trans (hb.mono h.2.2.2.2.2.size)⟩
theorem belV5 {W w : World} {p0 p1 p2 p3 p4 : Addr} {x0 x1 x2 x3 x4 : Value} (h : w.cell? p0 = some x0 ∧ w.cell? p1 = some x1 ∧ w.cell? p2 = some x2 ∧ w.cell? p3 = some x3 ∧ w.cell? p4 = some x4 ∧ Below W.heap.size W w) : Below W.heap.size W w := h.2.2.2.2.2
theorem l1NumB_any (n : Int) (w : World) (h0 : 0 ≤ n) (h1 : n ≤ 999) : Calls Tryd.prog 97 #[.int .i64 n] w fun e w' => e = .returned (.string ⟨(Lib.itoa n).toArray⟩) ∧ Below w.heap.size w w' :=
  (l1Num_any n w (by omega) (by omega)).mono fun _ _ ⟨h, m, hw⟩ => ⟨h, by rw [hw]; exact Dr.below ⟨m, rfl⟩⟩

set_option maxRecDepth 100000 in
set_option maxHeartbeats 8000000 in
theorem l6Timetable_any (v : Value) (t : TTD) (w : World) (hr : TTAt w v t) (hg : TTGood t) :
    Calls Tryd.prog 92 #[v] w fun e w' => e = .returned (.string ⟨(ttTx t).toArray⟩) ∧ Below w.heap.size w w' := by
  have HNe := Lib.hid (netTx_len hg.1)
  have HTe := Lib.hid (tripsTx_len hg)
  have HGo := Lib.hid hg
  have HTT := Lib.hid hr
  obtain ⟨a, c, a', c', b, d, rfl, hn, ht⟩ := tt_open hr
  have HN := Lib.hid (fun W (hW : Below w.heap.size w W) => l6Network_any _ t.net W (hn.below rfl hW) hg.1)
  have HT := Lib.hid ht
  have hts : t.trips.length ≤ 12 := hg.2.1
  clear hr hn ht hg
  go_enter Tryd.func92, Tryd.ntmps92
  go_wp2_with fail
  go_at_call 84
  refine (HN.out _ ((Below.refl _ _).alloc (Nat.le_refl _) _)).mono ?_
  rintro e w1 ⟨rfl, hb1⟩
  have HB1 : Hid (Below w.heap.size w w1) := ((Below.refl _ _).alloc (Nat.le_refl _) _).trans (hb1.mono (by simp))
  have p0 : w1.cell? ⟨w.heap.size, 0, none⟩ = some (.slice a t.net.stops.length c) := bkeep hb1 (by go_simp)
  have p1 : w1.cell? ⟨w.heap.size, 1, none⟩ = some (.slice a' t.net.lines.length c') := bkeep hb1 (by go_simp)
  have p2 : w1.cell? ⟨w.heap.size, 2, none⟩ = some (.slice b t.trips.length d) := bkeep hb1 (by go_simp)
  have HT0 : Hid (netTx t.net ++ tripsTx t.net (t.trips.take 0) = netTx t.net) := by show _ = _; simp [tripsTx]
  clear hb1 HN
  go_wp2_with fail
  go_loopw [3, 4] (fun s q wr => ∃ k : Nat, k ≤ t.trips.length ∧ q = .int .i64 k ∧ s = .string ⟨(netTx t.net ++ tripsTx t.net (t.trips.take k)).toArray⟩ ∧
      wr.cell? ⟨w.heap.size, 0, none⟩ = some (.slice a t.net.stops.length c) ∧ wr.cell? ⟨w.heap.size, 1, none⟩ = some (.slice a' t.net.lines.length c') ∧ wr.cell? ⟨w.heap.size, 2, none⟩ = some (.slice b t.trips.length d) ∧ Hid (Below w.heap.size w wr))
    (fun _ q _ => t.trips.length - (RowKit.intOf q).toNat)
  case atStart => exact ⟨0, Nat.zero_le _, rfl, by rw [HT0.out], p0, p1, p2, HB1⟩
  case round =>
    clear p0 p1 p2 HB1 HT0
    obtain ⟨k, hk, rfl, rfl, p0, p1, p2, HB⟩ := hrel
    by_cases hlt : k < t.trips.length
    · obtain ⟨g, go, rfl, hgb, y0, y1, y2⟩ := trip_at HT.out k hlt
      have Y0 := bkeep HB.out y0
      have Y2 := bkeep HB.out y2
      obtain ⟨j, hj, hjl, -⟩ := HGo.out.line k hlt
      have hid := HGo.out.step k hlt
      have hst := hid.2.2.1.2.1
      obtain ⟨s0, s1, r0, r1, -, hL⟩ := l5Line_any _ t k w HTT.out hlt j hj hjl
      have HL := Lib.hid hL
      have hnm := lnNm_at hj hjl
      obtain ⟨m, hm⟩ := Int.eq_ofNat_of_zero_le hst.1
      have hm1 : m ≤ 1799 := by have := hst.2; omega
      have HNu := Lib.hid (fun W => l1NumB_any t.trips[k].id W (by have := hid.1; omega) hid.2.1)
      have HTx := Lib.hid (fun W => l4Text_any m W hm1)
      have hsucc := tripsTx_take t.net t.trips k hlt
      have hle := HTe.out (k + 1)
      have hne := HNe.out
      have hln : tripLn t.net t.trips[k] = [116, 114, 105, 112, 32] ++ Lib.itoa t.trips[k].id ++ [32] ++ t.net.lines[j].name.data.toList ++ [32] ++ (timeC m).data.toList ++ [10] := by
        unfold tripLn; rw [hnm, hm, Int.toNat_natCast]
      rw [hln] at hsucc
      rw [hm] at Y2
      generalize t.net.lines[j] = l at *
      generalize t.trips[k].id = xi at *
      have hfd : ∀ w : World, (Instr.field 130 (.agg #[.string l.name, .slice s0 l.stops.length s1, .slice r0 l.runs.length r1]) 0).run Tryd.prog w = .ok (.string l.name) w := fun _ => by kernel_rfl
      generalize l.name = nm at *
      generalize timeC m = tm at *
      generalize Lib.itoa xi = it at *
      obtain ⟨T, hT⟩ : ∃ T, T = netTx t.net ++ tripsTx t.net (t.trips.take k) := ⟨_, rfl⟩
      obtain ⟨I, hI⟩ : ∃ I : ByteArray, I = ⟨it.toArray⟩ := ⟨_, rfl⟩
      rw [← hI] at HNu
      have hlT : T.length + 5 + it.length + 1 + nm.data.toList.length + 1 + tm.data.toList.length + 1 ≤ 2000 := by
        rw [hsucc] at hle; rw [hT]; simp only [List.length_append, List.length_cons, List.length_nil] at hle ⊢; omega
      obtain ⟨B0, hB0⟩ : ∃ B0 : ByteArray, B0 = ⟨T.toArray⟩ := ⟨_, rfl⟩
      obtain ⟨B1, hB1⟩ : ∃ B1 : ByteArray, B1 = ⟨(T ++ [116, 114, 105, 112, 32]).toArray⟩ := ⟨_, rfl⟩
      obtain ⟨B2, hB2⟩ : ∃ B2 : ByteArray, B2 = ⟨(T ++ [116, 114, 105, 112, 32] ++ it).toArray⟩ := ⟨_, rfl⟩
      obtain ⟨B3, hB3⟩ : ∃ B3 : ByteArray, B3 = ⟨(T ++ [116, 114, 105, 112, 32] ++ it ++ [32]).toArray⟩ := ⟨_, rfl⟩
      obtain ⟨B4, hB4⟩ : ∃ B4 : ByteArray, B4 = ⟨(T ++ [116, 114, 105, 112, 32] ++ it ++ [32] ++ nm.data.toList).toArray⟩ := ⟨_, rfl⟩
      obtain ⟨B5, hB5⟩ : ∃ B5 : ByteArray, B5 = ⟨(T ++ [116, 114, 105, 112, 32] ++ it ++ [32] ++ nm.data.toList ++ [32]).toArray⟩ := ⟨_, rfl⟩
      obtain ⟨B6, hB6⟩ : ∃ B6 : ByteArray, B6 = ⟨(T ++ [116, 114, 105, 112, 32] ++ it ++ [32] ++ nm.data.toList ++ [32] ++ tm.data.toList).toArray⟩ := ⟨_, rfl⟩
      obtain ⟨B7, hB7⟩ : ∃ B7 : ByteArray, B7 = ⟨(netTx t.net ++ tripsTx t.net (t.trips.take (k + 1))).toArray⟩ := ⟨_, rfl⟩
      have hadd1 : ∀ W, (Op.stringOp .add B0 ⟨#[116, 114, 105, 112, 32]⟩).run Tryd.prog W = .ok (.string B1) W := fun W => by
        rw [hB1]; exact str_add W _ _ _ [116, 114, 105, 112, 32] (by rw [hB0]) rfl (by simp only [List.length_append, List.length_cons, List.length_nil]; omega)
      have hadd2 : ∀ W, (Op.stringOp .add B1 I).run Tryd.prog W = .ok (.string B2) W := fun W => by
        rw [hB2]; exact str_add W _ _ _ _ (by rw [hB1]) (by rw [hI]) (by simp only [List.length_append, List.length_cons, List.length_nil]; omega)
      have hadd3 : ∀ W, (Op.stringOp .add B2 ⟨#[32]⟩).run Tryd.prog W = .ok (.string B3) W := fun W => by
        rw [hB3]; exact str_add W _ _ _ [32] (by rw [hB2]) rfl (by simp only [List.length_append, List.length_cons, List.length_nil]; omega)
      have hadd4 : ∀ W, (Op.stringOp .add B3 nm).run Tryd.prog W = .ok (.string B4) W := fun W => by
        rw [hB4]; exact str_add W _ _ _ _ (by rw [hB3]) rfl (by simp only [List.length_append, List.length_cons, List.length_nil]; omega)
      have hadd5 : ∀ W, (Op.stringOp .add B4 ⟨#[32]⟩).run Tryd.prog W = .ok (.string B5) W := fun W => by
        rw [hB5]; exact str_add W _ _ _ [32] (by rw [hB4]) rfl (by simp only [List.length_append, List.length_cons, List.length_nil]; omega)
      have hadd6 : ∀ W, (Op.stringOp .add B5 tm).run Tryd.prog W = .ok (.string B6) W := fun W => by
        rw [hB6]; exact str_add W _ _ _ _ (by rw [hB5]) rfl (by simp only [List.length_append, List.length_cons, List.length_nil]; omega)
      have hadd7 : ∀ W, (Op.stringOp .add B6 ⟨#[10]⟩).run Tryd.prog W = .ok (.string B7) W := fun W => by
        rw [hB7, hsucc, ← List.append_assoc, ← hT, show T ++ ([116, 114, 105, 112, 32] ++ it ++ [32] ++ nm.data.toList ++ [32] ++ tm.data.toList ++ [10]) = T ++ [116, 114, 105, 112, 32] ++ it ++ [32] ++ nm.data.toList ++ [32] ++ tm.data.toList ++ [10] by simp]
        exact str_add W _ _ _ [10] (by rw [hB6]) rfl (by simp only [List.length_append, List.length_cons, List.length_nil]; omega)
      have HE := Lib.hid hB7
      rw [← hT, ← hB0]
      have hk1 : (k : Int) < (t.trips.length : Int) := by omega
      have hbel := HB.out
      have hgr : g < wr.heap.size := Nat.lt_of_lt_of_le hgb HB.out.size
      clear hT hI hlT hB0 hB1 hB2 hB3 hB4 hB5 hB6 hB7 hsucc hle hne hln hm hst hid hj hnm hL y0 y1 y2 HB
      go_wp2_with fail
      go_region_held3 (fun w' => w'.cell? ⟨w.heap.size, 0, none⟩ = some (.slice a t.net.stops.length c) ∧ w'.cell? ⟨w.heap.size, 1, none⟩ = some (.slice a' t.net.lines.length c') ∧ w'.cell? ⟨w.heap.size, 2, none⟩ = some (.slice (some ⟨g, go, none⟩) t.trips.length d) ∧ w'.cell? ⟨g, go + k * 3, none⟩ = some (.int .i64 xi) ∧ w'.cell? ⟨g, go + k * 3 + 2, none⟩ = some (.int .i64 (m : Int)) ∧ Below w.heap.size w w')
        (first | (exact ⟨p0, p1, p2, Y0, Y2, hbel.drew⟩) | (exact keepV5 hb (by assumption)))
        (first | (go_at_call 97; refine (HNu.out _).mono ?_; rintro e w' ⟨rfl, hb⟩) | (go_at_call 138; refine (HL.out _ (belV5 (by assumption))).mono ?_; rintro e w' ⟨rfl, hb⟩) | (go_at_call 139; refine (HTx.out _).mono ?_; rintro e w' ⟨rfl, hb⟩))
      all_goals
        obtain ⟨g0, g1, g2, -, -, qb⟩ := (by assumption : _ ∧ _)
        clear p0 p1 p2 Y0 Y2 hadd1 hadd2 hadd3 hadd4 hadd5 hadd6 hadd7 hfd
        go_wp2_with fail
        go_roundw
        case rel => exact ⟨k + 1, by omega, by go_num, by rw [HE.out], g0, g1, g2, qb⟩
        case measure => simp [RowKit.intOf]; omega
    · have hlt1 : ¬ (k : Int) < (t.trips.length : Int) := by omega
      obtain rfl : k = t.trips.length := by omega
      have HT1 : Hid (netTx t.net ++ tripsTx t.net (t.trips.take t.trips.length) = ttTx t) := by show _ = _; rw [List.take_length]; rfl
      rw [HT1.out]
      go_wp2_with fail
      go_ret
      exact ⟨rfl, HB.out⟩
end Go.Proofs.YtffcgblionlhhaaDoor
