/-
  CONTRACT of spec.l3Text: the text of a calendar.
-/
import Derived.Test.YtffcgblionlhhaaDoorCalGood
import Derived.Test.YtffcgblionlhhaaDoorCalTxP
import Derived.Test.YtffcgblionlhhaaDoorNum
import Derived.Test.YtffcgblionlhhaaDoorCalDay
import Derived.Laws.IdiomStrings
namespace Go.Proofs.YtffcgblionlhhaaDoor
open Go.RowKit
set_option linter.unusedVariables false
set_option linter.unusedSimpArgs false

theorem seven_at : ∀ i : Fin 7, (ByteArray.extract { data := #[109, 116, 119, 116, 102, 115, 115] } i.val (i.val + 1)).data.toList = [ltrs.getD i.val 0] := by decide +kernel
theorem seven_slice (r : Nat) (h : r < 7) : ∀ W, (Instr.slice 9 (.string { data := #[109, 116, 119, 116, 102, 115, 115] }) (some (.int .i64 (r : Int))) (some (.int .i64 ((r : Int) + 1))) none).run Tryd.prog W = .ok (.string ⟨#[ltrs.getD r 0]⟩) W := fun W => by
  rw [run_slice_string (h := Tryd.underlying9) (h0 := by omega) (h1 := by omega) (h2 := by show (r : Int) + 1 ≤ 7; omega)]
  have := seven_at ⟨r, h⟩
  congr 2
  exact congrArg ByteArray.mk (Array.toList_inj.1 (by simpa using this))
theorem wd_bit (wd : Int) (k : Nat) (g0 : 0 ≤ wd) (g1 : wd ≤ 127) : (bits .and .i64 (wd / 2 ^ k) 1 == 1) = wdBit wd k := by
  obtain ⟨a, b⟩ := shr_bd wd k g0 g1
  rw [and_one _ a b, wdBit, Bool.eq_iff_iff]; simp
theorem wd_bit0 (wd : Int) (k : Nat) (g0 : 0 ≤ wd) (g1 : wd ≤ 127) : (bits .and .i64 (wd / 2 ^ k) 1 == 0) = !(wdBit wd k) := by
  obtain ⟨a, b⟩ := shr_bd wd k g0 g1
  rw [and_one _ a b, wdBit, Bool.eq_iff_iff]; simp; omega
theorem l1NumD_any (n : Int) (w : World) (h0 : 0 ≤ n) (h1 : n ≤ 3650) : Calls Tryd.prog 97 #[.int .i64 n] w fun e w' => e = .returned (.string ⟨(Lib.itoa n).toArray⟩) ∧ Below w.heap.size w w' :=
  (l1Num_any n w (by omega) (by omega)).mono fun _ _ ⟨h, m, hw⟩ => ⟨h, by rw [hw]; exact Dr.below ⟨m, rfl⟩⟩
theorem keepU5 {W w w' : World} {p0 p1 p2 p3 p4 : Addr} {x0 x1 x2 x3 x4 : Value} (hb : Below w.heap.size w w') (h : w.cell? p0 = some x0 ∧ w.cell? p1 = some x1 ∧ w.cell? p2 = some x2 ∧ w.cell? p3 = some x3 ∧ w.cell? p4 = some x4 ∧ Below W.heap.size W w) :
    w'.cell? p0 = some x0 ∧ w'.cell? p1 = some x1 ∧ w'.cell? p2 = some x2 ∧ w'.cell? p3 = some x3 ∧ w'.cell? p4 = some x4 ∧ Below W.heap.size W w' :=
  ⟨bkeep hb h.1, bkeep hb h.2.1, bkeep hb h.2.2.1, bkeep hb h.2.2.2.1, bkeep hb h.2.2.2.2.1, h.2.2.2.2.2.trans (hb.mono h.2.2.2.2.2.size)⟩
theorem belU5 {W w : World} {p0 p1 p2 p3 p4 : Addr} {x0 x1 x2 x3 x4 : Value} (h : w.cell? p0 = some x0 ∧ w.cell? p1 = some x1 ∧ w.cell? p2 = some x2 ∧ w.cell? p3 = some x3 ∧ w.cell? p4 = some x4 ∧ Below W.heap.size W w) : Below W.heap.size W w := h.2.2.2.2.2

set_option maxRecDepth 100000 in
set_option maxHeartbeats 8000000 in
theorem l3Text_any (v : Value) (c : CalD) (w : World) (hr : CalAt w v c) (hg : CalGood c) :
    Calls Tryd.prog 41 #[v] w fun e w' => e = .returned (.string ⟨(calTx c).toArray⟩) ∧ Below w.heap.size w w' := by
  have hh := hdTx_len hg
  obtain ⟨hda, hdr⟩ := days_in hg
  have HLw := Lib.hid (fun k => calW_len hg k)
  have HLa := Lib.hid (fun k => calA_len hg k)
  have HLr := Lib.hid (fun k => calR_len hg k)
  obtain ⟨⟨n1, n2, n3, n4, n5⟩, la, lr, -, -, -, -⟩ := hg
  have HDa := Lib.hid hda
  have HDr := Lib.hid hdr
  obtain ⟨av, rv, rfl, ha, hrm⟩ := hr
  obtain ⟨a, ca, rfl, hca, hcb, HC⟩ := ints_open ha
  obtain ⟨b, cb, rfl, hcc, hcd, HC'⟩ := ints_open hrm
  have HNf := Lib.hid (fun W => l1NumD_any c.frm W n1 (by omega))
  have HNt := Lib.hid (fun W => l1NumD_any c.too W (by omega) n3)
  have HBit := Lib.hid (fun k => wd_bit c.wd k n4 n5)
  have hhd : hdTx c = Lib.itoa c.frm ++ [45] ++ Lib.itoa c.too ++ [32] := rfl
  obtain ⟨F, hF⟩ : ∃ F : ByteArray, F = ⟨(Lib.itoa c.frm).toArray⟩ := ⟨_, rfl⟩
  obtain ⟨T, hT⟩ : ∃ T : ByteArray, T = ⟨(Lib.itoa c.too).toArray⟩ := ⟨_, rfl⟩
  rw [← hF] at HNf
  rw [← hT] at HNt
  obtain ⟨B1, hB1⟩ : ∃ B1 : ByteArray, B1 = ⟨(Lib.itoa c.frm ++ [45]).toArray⟩ := ⟨_, rfl⟩
  obtain ⟨B2, hB2⟩ : ∃ B2 : ByteArray, B2 = ⟨(Lib.itoa c.frm ++ [45] ++ Lib.itoa c.too).toArray⟩ := ⟨_, rfl⟩
  obtain ⟨B3, hB3⟩ : ∃ B3 : ByteArray, B3 = ⟨(calW c 0).toArray⟩ := ⟨_, rfl⟩
  have hlen : (Lib.itoa c.frm).length + 1 + (Lib.itoa c.too).length + 1 ≤ 42 := by rw [hhd] at hh; simp only [List.length_append, List.length_cons, List.length_nil] at hh; omega
  have hadd1 : ∀ W, (Op.stringOp .add F ⟨#[45]⟩).run Tryd.prog W = .ok (.string B1) W := fun W => by
    rw [hB1]; exact str_add W _ _ _ [45] (by rw [hF]) rfl (by simp only [List.length_append, List.length_cons, List.length_nil]; omega)
  have hadd2 : ∀ W, (Op.stringOp .add B1 T).run Tryd.prog W = .ok (.string B2) W := fun W => by
    rw [hB2]; exact str_add W _ _ _ _ (by rw [hB1]) (by rw [hT]) (by simp only [List.length_append, List.length_cons, List.length_nil]; omega)
  have hadd3 : ∀ W, (Op.stringOp .add B2 ⟨#[32]⟩).run Tryd.prog W = .ok (.string B3) W := fun W => by
    rw [hB3, calW_zero, hhd]; exact str_add W _ _ _ [32] (by rw [hB2]) rfl (by simp only [List.length_append, List.length_cons, List.length_nil]; omega)
  have HE3 := Lib.hid hB3
  have p0 : (w.alloc (.cells #[.int .i64 c.frm, .int .i64 c.too, .int .i64 c.wd, .slice a c.added.length ca, .slice b c.removed.length cb] 28 (0, 0))).cell? ⟨w.heap.size, 0, none⟩ = some (.int .i64 c.frm) := by go_simp
  have p1 : (w.alloc (.cells #[.int .i64 c.frm, .int .i64 c.too, .int .i64 c.wd, .slice a c.added.length ca, .slice b c.removed.length cb] 28 (0, 0))).cell? ⟨w.heap.size, 1, none⟩ = some (.int .i64 c.too) := by go_simp
  have p2 : (w.alloc (.cells #[.int .i64 c.frm, .int .i64 c.too, .int .i64 c.wd, .slice a c.added.length ca, .slice b c.removed.length cb] 28 (0, 0))).cell? ⟨w.heap.size, 2, none⟩ = some (.int .i64 c.wd) := by go_simp
  have p3 : (w.alloc (.cells #[.int .i64 c.frm, .int .i64 c.too, .int .i64 c.wd, .slice a c.added.length ca, .slice b c.removed.length cb] 28 (0, 0))).cell? ⟨w.heap.size, 3, none⟩ = some (.slice a c.added.length ca) := by go_simp
  have p4 : (w.alloc (.cells #[.int .i64 c.frm, .int .i64 c.too, .int .i64 c.wd, .slice a c.added.length ca, .slice b c.removed.length cb] 28 (0, 0))).cell? ⟨w.heap.size, 4, none⟩ = some (.slice b c.removed.length cb) := by go_simp
  have hbel : Below w.heap.size w (w.alloc (.cells #[.int .i64 c.frm, .int .i64 c.too, .int .i64 c.wd, .slice a c.added.length ca, .slice b c.removed.length cb] 28 (0, 0))) := (Below.refl _ _).alloc (Nat.le_refl _) _
  clear hF hT hB1 hB2 hB3 hhd hlen ha hrm hda hdr
  go_enter Tryd.func41, Tryd.ntmps41
  go_wp2_with fail
  go_region_held3 (fun w' => w'.cell? ⟨w.heap.size, 0, none⟩ = some (.int .i64 c.frm) ∧ w'.cell? ⟨w.heap.size, 1, none⟩ = some (.int .i64 c.too) ∧ w'.cell? ⟨w.heap.size, 2, none⟩ = some (.int .i64 c.wd) ∧ w'.cell? ⟨w.heap.size, 3, none⟩ = some (.slice a c.added.length ca) ∧ w'.cell? ⟨w.heap.size, 4, none⟩ = some (.slice b c.removed.length cb) ∧ Below w.heap.size w w')
    (first | (exact ⟨p0, p1, p2, p3, p4, hbel.drew⟩) | (exact keepU5 hb (by assumption)))
    (first | (go_at_call_of 97 c.frm; refine (HNf.out _).mono ?_; rintro e w' ⟨rfl, hb⟩) | (go_at_call_of 97 c.too; refine (HNt.out _).mono ?_; rintro e w' ⟨rfl, hb⟩))
  all_goals
    obtain ⟨q0, q1, q2, q3, q4, qb⟩ := (by assumption : _ ∧ _)
    obtain ⟨w1, hw1⟩ : ∃ q : World, q = w' := ⟨_, rfl⟩
    subst hw1
    have HB1 := Lib.hid qb
    clear p0 p1 p2 p3 p4 hbel hadd1 hadd2 hadd3 qb HNf HNt
    go_wp2_with fail
    go_loop [3, 4] (fun s q => ∃ k : Nat, k ≤ 7 ∧ q = .int .i64 k ∧ s = .string ⟨(calW c k).toArray⟩) (fun _ q => 7 - (RowKit.intOf q).toNat)
    case atStart => exact ⟨0, by omega, rfl, by rw [HE3.out]⟩
    case round =>
      obtain ⟨k, hk, rfl, rfl⟩ := hrel
      by_cases hlt : k < 7
      · have hwl := HLw.out k
        have hsucc := calW_succ c k
        have hbit := HBit.out k
        have hsl := seven_slice k hlt
        obtain ⟨B4, hB4⟩ : ∃ B4 : ByteArray, B4 = ⟨(calW c k).toArray⟩ := ⟨_, rfl⟩
        obtain ⟨B5, hB5⟩ : ∃ B5 : ByteArray, B5 = ⟨(calW c (k + 1)).toArray⟩ := ⟨_, rfl⟩
        have hk1 : (k : Int) < 7 := by omega
        have HE5 := Lib.hid hB5
        rw [← hB4]
        cases hbv : wdBit c.wd k with
        | true =>
          rw [hbv] at hbit
          have hadd : ∀ W, (Op.stringOp .add B4 ⟨#[ltrs.getD k 0]⟩).run Tryd.prog W = .ok (.string B5) W := fun W => by
            rw [hB5, hsucc, show wdC c.wd k = ltrs.getD k 0 by unfold wdC; rw [hbv]; rfl]
            exact str_add W _ _ _ [ltrs.getD k 0] (by rw [hB4]) rfl (by simp only [List.length_append, List.length_cons, List.length_nil]; omega)
          generalize ltrs.getD k 0 = lt at *
          clear hB4 hB5 hsucc hwl hbv
          go_wp2_with fail
          go_round
          case rel => exact ⟨k + 1, by omega, by go_num, by rw [HE5.out]⟩
          case measure => simp [RowKit.intOf]; omega
        | false =>
          rw [hbv] at hbit
          have hadd : ∀ W, (Op.stringOp .add B4 ⟨#[46]⟩).run Tryd.prog W = .ok (.string B5) W := fun W => by
            rw [hB5, hsucc, show wdC c.wd k = 46 by unfold wdC; rw [hbv]; rfl]
            exact str_add W _ _ _ [46] (by rw [hB4]) rfl (by simp only [List.length_append, List.length_cons, List.length_nil]; omega)
          clear hB4 hB5 hsucc hwl hbv hsl
          go_wp2_with fail
          go_round
          case rel => exact ⟨k + 1, by omega, by go_num, by rw [HE5.out]⟩
          case measure => simp [RowKit.intOf]; omega
      · obtain rfl : k = 7 := by omega
        have HT0 := Lib.hid (calA_zero c)
        have HEa := Lib.hid (calR_zero c)
        have HEr := Lib.hid (calR_all c)
        go_wp2_with fail
        go_loopw [3, 5] (fun s q wr => ∃ k : Nat, k ≤ c.added.length ∧ q = .int .i64 k ∧ s = .string ⟨(calA c k).toArray⟩ ∧ Hid (Dr w1 wr)) (fun _ q _ => c.added.length - (RowKit.intOf q).toNat)
        case atStart => exact ⟨0, Nat.zero_le _, rfl, by rw [HT0.out], Dr.refl _⟩
        case round =>
          obtain ⟨k, hk, rfl, rfl, HDr1⟩ := hrel
          obtain ⟨nq, rfl⟩ := HDr1.out
          by_cases hlt : k < c.added.length
          · obtain ⟨xb, xo, rfl, hxb, x0⟩ := HC.out k hlt
            have X0 := bkeep HB1.out x0
            have hd := HDa.out _ (List.getElem_mem hlt)
            have hsucc := calA_succ c k hlt
            have hle := HLa.out (k + 1)
            have HNu := Lib.hid (fun W => l1Num_any c.added[k] W (by omega) (by omega))
            have hxr : xb < w1.heap.size := Nat.lt_of_lt_of_le hxb HB1.out.size
            generalize c.added[k] = dn at *
            obtain ⟨N, hN⟩ : ∃ N : ByteArray, N = ⟨(Lib.itoa dn).toArray⟩ := ⟨_, rfl⟩
            rw [← hN] at HNu
            obtain ⟨B4, hB4⟩ : ∃ B4 : ByteArray, B4 = ⟨(calA c k).toArray⟩ := ⟨_, rfl⟩
            obtain ⟨B5, hB5⟩ : ∃ B5 : ByteArray, B5 = ⟨(calA c k ++ [32, 43]).toArray⟩ := ⟨_, rfl⟩
            obtain ⟨B6, hB6⟩ : ∃ B6 : ByteArray, B6 = ⟨(calA c (k + 1)).toArray⟩ := ⟨_, rfl⟩
            have hl2 : (calA c k).length + 2 + (Lib.itoa dn).length ≤ 230 := by rw [hsucc] at hle; simp only [List.length_append, List.length_cons, List.length_nil] at hle; omega
            have hadd1 : ∀ W, (Op.stringOp .add B4 ⟨#[32, 43]⟩).run Tryd.prog W = .ok (.string B5) W := fun W => by
              rw [hB5]; exact str_add W _ _ _ [32, 43] (by rw [hB4]) rfl (by simp only [List.length_append, List.length_cons, List.length_nil]; omega)
            have hadd2 : ∀ W, (Op.stringOp .add B5 N).run Tryd.prog W = .ok (.string B6) W := fun W => by
              rw [hB6, hsucc]
              exact str_add W _ _ _ _ (by rw [hB5]) (by rw [hN]) (by simp only [List.length_append, List.length_cons, List.length_nil]; omega)
            have HE6 := Lib.hid hB6
            rw [← hB4]
            have hk1 : (k : Int) < (c.added.length : Int) := by omega
            clear hN hB4 hB5 hB6 hsucc hle hl2 hd x0
            go_wp2_with (go_at_call 97; refine (HNu.out _).mono ?_; rintro e w' ⟨rfl, nm2, rfl⟩)
            go_roundw
            case rel => exact ⟨k + 1, by omega, by go_num, by rw [HE6.out], ⟨_, rfl⟩⟩
            case measure => simp [RowKit.intOf]; omega
          · obtain rfl : k = c.added.length := by omega
            have hlt1 : ¬ (c.added.length : Int) < (c.added.length : Int) := by omega
            go_wp2_with fail
            go_loopw [3, 6] (fun s q wr => ∃ k : Nat, k ≤ c.removed.length ∧ q = .int .i64 k ∧ s = .string ⟨(calR c k).toArray⟩ ∧ Hid (Dr w1 wr)) (fun _ q _ => c.removed.length - (RowKit.intOf q).toNat)
            case atStart => exact ⟨0, Nat.zero_le _, rfl, by rw [HEa.out], ⟨_, rfl⟩⟩
            case round =>
              obtain ⟨k, hk, rfl, rfl, HDr1⟩ := hrel
              obtain ⟨nq, rfl⟩ := HDr1.out
              by_cases hlt : k < c.removed.length
              · obtain ⟨xb, xo, rfl, hxb, x0⟩ := HC'.out k hlt
                have X0 := bkeep HB1.out x0
                have hd := HDr.out _ (List.getElem_mem hlt)
                have hsucc := calR_succ c k hlt
                have hle := HLr.out (k + 1)
                have HNu := Lib.hid (fun W => l1Num_any c.removed[k] W (by omega) (by omega))
                have hxr : xb < w1.heap.size := Nat.lt_of_lt_of_le hxb HB1.out.size
                generalize c.removed[k] = dn at *
                obtain ⟨N, hN⟩ : ∃ N : ByteArray, N = ⟨(Lib.itoa dn).toArray⟩ := ⟨_, rfl⟩
                rw [← hN] at HNu
                obtain ⟨B4, hB4⟩ : ∃ B4 : ByteArray, B4 = ⟨(calR c k).toArray⟩ := ⟨_, rfl⟩
                obtain ⟨B5, hB5⟩ : ∃ B5 : ByteArray, B5 = ⟨(calR c k ++ [32, 45]).toArray⟩ := ⟨_, rfl⟩
                obtain ⟨B6, hB6⟩ : ∃ B6 : ByteArray, B6 = ⟨(calR c (k + 1)).toArray⟩ := ⟨_, rfl⟩
                have hl2 : (calR c k).length + 2 + (Lib.itoa dn).length ≤ 410 := by rw [hsucc] at hle; simp only [List.length_append, List.length_cons, List.length_nil] at hle; omega
                have hadd1 : ∀ W, (Op.stringOp .add B4 ⟨#[32, 45]⟩).run Tryd.prog W = .ok (.string B5) W := fun W => by
                  rw [hB5]; exact str_add W _ _ _ [32, 45] (by rw [hB4]) rfl (by simp only [List.length_append, List.length_cons, List.length_nil]; omega)
                have hadd2 : ∀ W, (Op.stringOp .add B5 N).run Tryd.prog W = .ok (.string B6) W := fun W => by
                  rw [hB6, hsucc]
                  exact str_add W _ _ _ _ (by rw [hB5]) (by rw [hN]) (by simp only [List.length_append, List.length_cons, List.length_nil]; omega)
                have HE6 := Lib.hid hB6
                rw [← hB4]
                have hk1 : (k : Int) < (c.removed.length : Int) := by omega
                clear hN hB4 hB5 hB6 hsucc hle hl2 hd x0
                go_wp2_with (go_at_call 97; refine (HNu.out _).mono ?_; rintro e w' ⟨rfl, nm2, rfl⟩)
                go_roundw
                case rel => exact ⟨k + 1, by omega, by go_num, by rw [HE6.out], ⟨_, rfl⟩⟩
                case measure => simp [RowKit.intOf]; omega
              · obtain rfl : k = c.removed.length := by omega
                have hlt1 : ¬ (c.removed.length : Int) < (c.removed.length : Int) := by omega
                rw [HEr.out]
                go_wp2_with fail
                go_ret
                exact ⟨rfl, HB1.out.trans ((Dr.below ⟨nq, rfl⟩).mono HB1.out.size)⟩
end Go.Proofs.YtffcgblionlhhaaDoor
