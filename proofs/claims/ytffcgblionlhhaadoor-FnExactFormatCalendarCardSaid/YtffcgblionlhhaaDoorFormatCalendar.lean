/-
  What spec.FormatCalendar and impl.FormatCalendar both return.
-/
import Derived.Test.YtffcgblionlhhaaDoorCalValid
import Derived.Test.YtffcgblionlhhaaDoorL3Text
import Derived.Test.YtffcgblionlhhaaDoorBuild
import Derived.Test.YtffcgblionlhhaaDoorFmt
import Derived.Test.YtffcgblionlhhaaDoorPowAt
import Derived.Laws.IdiomStrings
import Derived.Lib.SlBytesConst
import Derived.Deep.DeepCutAuto
namespace Go.Proofs.YtffcgblionlhhaaDoor
open Go.RowKit
set_option linter.unusedVariables false
set_option linter.unusedSimpArgs false

def midL (wd : Int) (k : Nat) : List UInt8 := (List.range 7).map fun p => if p < k then wdC wd p else ltrs.getD p 0
theorem midL_zero (wd : Int) : midL wd 0 = ltrs := by simp [midL]; rfl
theorem midL_all (wd : Int) : midL wd 7 = wdTx wd 7 := by
  unfold midL wdTx
  apply List.map_congr_left
  intro p hp
  rw [if_pos (by simpa using hp)]
theorem midL_succ (wd : Int) (k : Nat) (h : k < 7) : midL wd (k + 1) = (midL wd k).set k (wdC wd k) := by
  apply List.ext_getElem
  · simp [midL]
  · intro i h1 h2
    simp only [midL, List.length_map, List.length_range] at h1
    simp only [midL, List.getElem_map, List.getElem_range, List.getElem_set]
    by_cases e : k = i
    · subst e; simp
    · rw [if_neg e]
      by_cases h3 : i < k
      · rw [if_pos (by omega), if_pos h3]
      · rw [if_neg (by omega), if_neg h3]
theorem midL_len (wd : Int) (k : Nat) : (midL wd k).length = 7 := by simp [midL]
theorem midL_same (wd : Int) (k : Nat) (h : k < 7) (hb : wdBit wd k = true) : midL wd (k + 1) = midL wd k := by
  rw [midL_succ wd k h]
  apply List.ext_getElem
  · simp
  · intro i h1 h2
    rw [List.getElem_set]
    split
    · rename_i e; subst e
      simp only [midL, List.getElem_map, List.getElem_range]
      rw [if_neg (by omega)]
      unfold wdC; rw [hb]; rfl
    · rfl

set_option maxRecDepth 100000 in
set_option maxHeartbeats 4000000 in
theorem weekdaysText_any (wd : Int) (w : World) (h0 : 0 ≤ wd) (h1 : wd ≤ 127) : Calls Tryd.prog 45 #[.int .i64 wd] w fun e w' => e = .returned (.string ⟨(wdTx wd 7).toArray⟩) ∧ Below w.heap.size w w' := by
  have HBit := Lib.hid (fun k => wd_bit0 wd k h0 h1)
  have HBk0 : Hid ((w.alloc (.cells #[.int .u8 109, .int .u8 116, .int .u8 119, .int .u8 116, .int .u8 102, .int .u8 115, .int .u8 115] 5 (7, 8))).heap[w.heap.size]? = some (.cells (Lib.byteCells (midL wd 0)).toArray 5 (7, 8))) := by
    show _ = _
    rw [midL_zero]
    exact heap_alloc_new w _
  have HB0 : Hid (Below w.heap.size w (w.alloc (.cells #[.int .u8 109, .int .u8 116, .int .u8 119, .int .u8 116, .int .u8 102, .int .u8 115, .int .u8 115] 5 (7, 8)))) := (Below.refl _ _).alloc (Nat.le_refl _) _
  have kc := fun (w : World) (C : Array Value) (n c : Nat) => Lib.run_convert_bytes_const (P := Tryd.prog) w 56 5 C n c Tryd.underlying56 Tryd.underlying5
  go_enter Tryd.func45, Tryd.ntmps45
  go_wp2_with fail
  go_loopw [9] (fun q wr => ∃ k : Nat, k ≤ 7 ∧ q = .int .i64 k ∧ Hid (wr.heap[w.heap.size]? = some (.cells (Lib.byteCells (midL wd k)).toArray 5 (7, 8))) ∧ Hid (Below w.heap.size w wr)) (fun q _ => 7 - (RowKit.intOf q).toNat)
  case atStart => exact ⟨0, by omega, rfl, HBk0, HB0⟩
  case round =>
    clear HBk0 HB0 kc
    obtain ⟨k, hk, rfl, HBk, HB⟩ := hrel
    by_cases hlt : k < 7
    · have hbit := HBit.out k
      have hk1 : (k : Int) < 7 := by omega
      have hbl : (Lib.byteCells (midL wd k)).length = 7 := by rw [Lib.byteCells_length, midL_len]
      have hoc : wr.cell? ⟨w.heap.size, k, none⟩ = some ((Lib.byteCells (midL wd k))[k]'(by omega)) := by
        rw [Lib.cell_of_heap HBk.out, List.getElem?_toArray]; exact List.getElem?_eq_getElem _
      have hof : wr.frozen? ⟨w.heap.size, k, none⟩ = false := by simp [World.frozen?, HBk.out]; omega
      cases hbv : wdBit wd k with
      | true =>
        rw [hbv] at hbit
        have HS : Hid (wr.heap[w.heap.size]? = some (.cells (Lib.byteCells (midL wd (k + 1))).toArray 5 (7, 8))) := by
          show _ = _
          rw [midL_same wd k hlt hbv]; exact HBk.out
        simp only [Bool.not_true] at hbit
        clear hbv HBk hoc hof hbl
        go_wp2_with fail
        go_roundw
        case rel => exact ⟨k + 1, by omega, by go_num, HS, HB⟩
        case measure => simp [RowKit.intOf]; omega
      | false =>
        rw [hbv] at hbit
        have HS : Hid ((wr.setCell ⟨w.heap.size, k, none⟩ (.int .u8 46)).heap[w.heap.size]? = some (.cells (Lib.byteCells (midL wd (k + 1))).toArray 5 (7, 8))) := by
          show _ = _
          have e : Lib.byteCells (midL wd (k + 1)) = (Lib.byteCells (midL wd k)).set k (.int .u8 46) := by
            rw [midL_succ wd k hlt, show wdC wd k = 46 by unfold wdC; rw [hbv]; rfl]
            simp [Lib.byteCells, List.map_set]
          rw [e]
          simp [World.setCell, Array.getElem?_modify, HBk.out]
        have HB2 : Hid (Below w.heap.size w (wr.setCell ⟨w.heap.size, k, none⟩ (.int .u8 46))) := own_stored_below HB.out (Nat.le_refl _)
        simp only [Bool.not_false] at hbit
        generalize (Lib.byteCells (midL wd k))[k]'_ = old at *
        clear hbv HBk HB hbl
        go_wp2_with fail
        go_roundw
        case rel => exact ⟨k + 1, by omega, by go_num, HS, HB2⟩
        case measure => simp [RowKit.intOf]; omega
    · obtain rfl : k = 7 := by omega
      have hlt1 : ¬ ((7 : Nat) : Int) < 7 := by omega
      have hl := midL_len wd 7
      have hcv : (convert 56 9 (.slice (some ⟨w.heap.size, 0, none⟩) 7 7)).run Tryd.prog wr = .ok (.string ⟨(midL wd 7).toArray⟩) wr := by
        have := run_convert_bytes_back wr 56 9 5 ⟨w.heap.size, 0, none⟩ 7 (midL wd 7) Tryd.underlying56 Tryd.underlying5 Tryd.underlying9 (fun j hj => by
          rw [addr_add, Nat.zero_add, Lib.cell_of_heap HBk.out, List.getElem?_toArray]
          simp [Lib.byteCells, List.getElem?_eq_getElem hj])
        rw [hl] at this
        exact this
      rw [midL_all] at hcv
      clear HBk hl
      go_wp2_with fail
      go_ret
      exact ⟨rfl, HB.out⟩

set_option maxRecDepth 100000 in
set_option maxHeartbeats 4000000 in
theorem exceptionsText_any (s : UInt8) (v : Value) (xs : List Int) (w : World) (hr : RowAt w v (ints xs)) (hx : ∀ d ∈ xs, 0 ≤ d ∧ d ≤ 3650) (hl : xs.length ≤ 8) (hp : PowAt w) :
    Calls Tryd.prog 46 #[.string ⟨#[s]⟩, v] w fun e w' => e = .returned (.string ⟨(exTx s xs).toArray⟩) ∧ Below w.heap.size w w' := by
  have HX := Lib.hid (exTx_len s xs hx hl)
  have HD := Lib.hid hx
  have HPow := Lib.hid hp
  obtain ⟨a, c, rfl, hc, hm, HC⟩ := ints_open hr
  have HBd0 : Hid (Bd w.heap.size w.heap.size (exTx s (xs.take 0)) (w.alloc (.cells #[.pointer none, .slice none 0 0] 122 (0, 0)))) := Bd.new w
  have HB0 : Hid (Below w.heap.size w (w.alloc (.cells #[.pointer none, .slice none 0 0] 122 (0, 0)))) := (Below.refl _ _).alloc (Nat.le_refl _) _
  have hadd1 : ∀ W, (Op.stringOp .add ⟨#[32]⟩ ⟨#[s]⟩).run Tryd.prog W = .ok (.string ⟨#[32, s]⟩) W := fun W => str_add W _ _ [32] [s] rfl rfl (by simp)
  clear hr hx hp
  go_enter Tryd.func46, Tryd.ntmps46
  go_wp2_with fail
  go_loopw [10] (fun q wr => ∃ k : Nat, k ≤ xs.length ∧ q = .int .i64 k ∧ Hid (Bd w.heap.size w.heap.size (exTx s (xs.take k)) wr) ∧ Hid (Below w.heap.size w wr)) (fun q _ => xs.length - (RowKit.intOf q).toNat)
  case atStart => exact ⟨0, Nat.zero_le _, rfl, HBd0, HB0⟩
  case round =>
    clear HBd0 HB0
    obtain ⟨k, hk, rfl, HBd, HB⟩ := hrel
    by_cases hlt : k < xs.length
    · obtain ⟨xb, xo, rfl, hxb, x0⟩ := HC.out k hlt
      have X0 := bkeep HB.out x0
      have hd := HD.out _ (List.getElem_mem hlt)
      have hsucc := exTx_take s xs k hlt
      have hle := HX.out (k + 1)
      have hxr : xb < wr.heap.size := Nat.lt_of_lt_of_le hxb HB.out.size
      have HIt := Lib.hid (itoa_any xs[k] wr (by omega) (by omega) (HPow.out wr HB.out))
      generalize xs[k] = dn at *
      obtain ⟨N, hN⟩ : ∃ N : ByteArray, N = ⟨(Lib.itoa dn).toArray⟩ := ⟨_, rfl⟩
      rw [← hN] at HIt
      obtain ⟨M, hM⟩ : ∃ M : ByteArray, M = ⟨([32, s] ++ Lib.itoa dn).toArray⟩ := ⟨_, rfl⟩
      have hl2 : (exTx s (xs.take k)).length + 2 + (Lib.itoa dn).length ≤ 176 := by rw [hsucc] at hle; simp only [List.length_append, List.length_cons, List.length_nil] at hle; omega
      have hadd2 : ∀ W, (Op.stringOp .add ⟨#[32, s]⟩ N).run Tryd.prog W = .ok (.string M) W := fun W => by
        rw [hM]; exact str_add W _ _ [32, s] _ rfl (by rw [hN]) (by simp only [List.length_cons, List.length_nil]; omega)
      have hMd : M.data.toList = [32, s] ++ Lib.itoa dn := by rw [hM]
      have hMs : M.size = 2 + (Lib.itoa dn).length := by rw [hM, size_mk]; simp; omega
      have hk1 : (k : Int) < (xs.length : Int) := by omega
      have hwr := HB.out.size
      clear hN hM hle hd x0
      go_wp2_with fail
      go_at_call 44
      refine HIt.out.mono ?_
      rintro e w5 ⟨rfl, hb5⟩
      have HWs := Lib.hid (writeStr_any w.heap.size w.heap.size (exTx s (xs.take k)) M w5 (HBd.out.later hb5) (by omega) (Nat.le_trans hwr hb5.size))
      have HB5 : Hid (Below w.heap.size w w5) := HB.out.trans (hb5.mono hwr)
      clear hb5
      go_wp2_with fail
      go_at_call 101
      refine HWs.out.mono ?_
      rintro e w6 ⟨rfl, h6, hb6, -⟩
      have HBd6 : Hid (Bd w.heap.size w.heap.size (exTx s (xs.take (k + 1))) w6) := by
        show Bd _ _ _ _
        rw [hsucc, List.append_assoc, ← hMd]; exact h6
      have HB6 : Hid (Below w.heap.size w w6) := HB5.out.trans hb6
      clear h6 hb6 HBd HB HB5 hsucc hMd hMs hl2
      go_wp2_with fail
      go_roundw
      case rel => exact ⟨k + 1, by omega, by go_num, HBd6, HB6⟩
      case measure => simp [RowKit.intOf]; omega
    · obtain rfl : k = xs.length := by omega
      have hlt1 : ¬ (xs.length : Int) < (xs.length : Int) := by omega
      have HT : Hid (exTx s (xs.take xs.length) = exTx s xs) := by show _ = _; rw [List.take_length]
      have HS := Lib.hid (buildStr_any w.heap.size w.heap.size _ wr HBd.out HB.out.size)
      rw [HT.out] at HS
      go_wp2_with fail
      go_at_call 89
      refine HS.out.mono ?_
      rintro e w3 ⟨rfl, hb3, -⟩
      have HB3 : Hid (Below w.heap.size w w3) := HB.out.trans hb3
      clear hb3
      go_wp2_with fail
      go_ret
      exact ⟨rfl, HB3.out⟩

def fcF (c : CalD) : ByteArray × Bool := if CalGood c then (⟨(calTx c).toArray⟩, true) else (⟨#[]⟩, false)

set_option maxRecDepth 100000 in
set_option maxHeartbeats 2000000 in
theorem specFormatCalendar_any (v : Value) (c : CalD) (w : World) (hr : CalAt w v c) :
    Calls Tryd.prog 11 #[v] w fun e w' => e = .returned (.tuple #[.string (fcF c).1, .bool (fcF c).2]) ∧ Below w.heap.size w w' := by
  have HG := Lib.hid (fun W (hW : Below w.heap.size w W) => l3Good_any v c W (hr.below rfl hW))
  have HL := Lib.hid (fun W (hW : Below w.heap.size w W) (hg : CalGood c) => l3Text_any v c W (hr.below rfl hW) hg)
  obtain ⟨a, ca, b, cb, rfl⟩ := Calendar_open hr
  clear hr
  by_cases hg : CalGood c
  · rw [calB_yes hg] at HG
    rw [show fcF c = (⟨(calTx c).toArray⟩, true) from if_pos hg]
    have HL2 := Lib.hid (fun W hW => HL.out W hW hg)
    clear HL hg
    go_enter Tryd.func11, Tryd.ntmps11
    go_wp2_with fail
    go_at_call 40
    refine (HG.out _ ((Below.refl _ _).alloc (Nat.le_refl _) _)).mono ?_
    rintro e w1 ⟨rfl, hb1⟩
    have HB1 : Hid (Below w.heap.size w w1) := ((Below.refl _ _).alloc (Nat.le_refl _) _).trans (hb1.mono (by simp))
    have p0 : w1.cell? ⟨w.heap.size, 0, none⟩ = some (.int .i64 c.frm) := bkeep hb1 (by go_simp)
    have p1 : w1.cell? ⟨w.heap.size, 1, none⟩ = some (.int .i64 c.too) := bkeep hb1 (by go_simp)
    have p2 : w1.cell? ⟨w.heap.size, 2, none⟩ = some (.int .i64 c.wd) := bkeep hb1 (by go_simp)
    have p3 : w1.cell? ⟨w.heap.size, 3, none⟩ = some (.slice a c.added.length ca) := bkeep hb1 (by go_simp)
    have p4 : w1.cell? ⟨w.heap.size, 4, none⟩ = some (.slice b c.removed.length cb) := bkeep hb1 (by go_simp)
    clear hb1
    go_wp2_with fail
    go_at_call 41
    refine (HL2.out _ HB1.out).mono ?_
    rintro e w2 ⟨rfl, hb2⟩
    have HB2 : Hid (Below w.heap.size w w2) := HB1.out.trans (hb2.mono HB1.out.size)
    clear hb2
    go_wp2_with fail
    go_ret2
    exact ⟨rfl, HB2.out⟩
  · rw [calB_no hg] at HG
    rw [show fcF c = (⟨#[]⟩, false) from if_neg hg]
    clear HL hg
    go_enter Tryd.func11, Tryd.ntmps11
    go_wp2_with fail
    go_at_call 40
    refine (HG.out _ ((Below.refl _ _).alloc (Nat.le_refl _) _)).mono ?_
    rintro e w1 ⟨rfl, hb1⟩
    have HB1 : Hid (Below w.heap.size w w1) := ((Below.refl _ _).alloc (Nat.le_refl _) _).trans (hb1.mono (by simp))
    clear hb1
    go_wp2_with fail
    go_ret2
    exact ⟨rfl, HB1.out⟩

set_option maxRecDepth 100000 in
set_option maxHeartbeats 8000000 in
theorem implFormatCalendar_any (v : Value) (c : CalD) (w : World) (hr : CalAt w v c) (hp : PowAt w) :
    Calls Tryd.prog 13 #[v] w fun e w' => e = .returned (.tuple #[.string (fcF c).1, .bool (fcF c).2]) ∧ Below w.heap.size w w' := by
  have HG := Lib.hid (fun W (hW : Below w.heap.size w W) => implValidCal_any v c W (hr.below rfl hW))
  obtain ⟨av, rv, hv, ha, hrm⟩ := hr
  obtain ⟨a, ca, rfl, -⟩ := ints_open ha
  obtain ⟨b, cb, rfl, -⟩ := ints_open hrm
  subst hv
  by_cases hg : CalGood c
  · rw [calB_yes hg] at HG
    rw [show fcF c = (⟨(calTx c).toArray⟩, true) from if_pos hg]
    have hh := hdTx_len hg
    obtain ⟨hda, hdr⟩ := days_in hg
    obtain ⟨⟨n1, n2, n3, n4, n5⟩, la, lr, -, -, -, -⟩ := hg
    have hXa := exTx_len 43 c.added hda la c.added.length
    have hXr := exTx_len 45 c.removed hdr lr c.removed.length
    rw [List.take_length] at hXa hXr
    have HIf := Lib.hid (fun W (hW : Below w.heap.size w W) => itoa_any c.frm W (by omega) (by omega) (hp W hW))
    have HIt := Lib.hid (fun W (hW : Below w.heap.size w W) => itoa_any c.too W (by omega) (by omega) (hp W hW))
    have HWd := Lib.hid (fun W => weekdaysText_any c.wd W n4 n5)
    have HEa := Lib.hid (fun W (hW : Below w.heap.size w W) => exceptionsText_any 43 _ c.added W (ha.below rfl hW) hda la (hp.later hW))
    have HEr := Lib.hid (fun W (hW : Below w.heap.size w W) => exceptionsText_any 45 _ c.removed W (hrm.below rfl hW) hdr lr (hp.later hW))
    have hwl := wdTx_len c.wd 7
    have hhd : hdTx c = Lib.itoa c.frm ++ [45] ++ Lib.itoa c.too ++ [32] := rfl
    have hcal : calTx c = hdTx c ++ wdTx c.wd 7 ++ exTx 43 c.added ++ exTx 45 c.removed := rfl
    have hlen : (Lib.itoa c.frm).length + 1 + (Lib.itoa c.too).length + 1 ≤ 42 := by rw [hhd] at hh; simp only [List.length_append, List.length_cons, List.length_nil] at hh; omega
    obtain ⟨F, hF⟩ : ∃ F : ByteArray, F = ⟨(Lib.itoa c.frm).toArray⟩ := ⟨_, rfl⟩
    obtain ⟨T, hT⟩ : ∃ T : ByteArray, T = ⟨(Lib.itoa c.too).toArray⟩ := ⟨_, rfl⟩
    obtain ⟨D, hD⟩ : ∃ D : ByteArray, D = ⟨(wdTx c.wd 7).toArray⟩ := ⟨_, rfl⟩
    obtain ⟨XA, hXA⟩ : ∃ XA : ByteArray, XA = ⟨(exTx 43 c.added).toArray⟩ := ⟨_, rfl⟩
    obtain ⟨XR, hXR⟩ : ∃ XR : ByteArray, XR = ⟨(exTx 45 c.removed).toArray⟩ := ⟨_, rfl⟩
    rw [← hF] at HIf
    rw [← hT] at HIt
    rw [← hD] at HWd
    rw [← hXA] at HEa
    rw [← hXR] at HEr
    obtain ⟨B1, hB1⟩ : ∃ B1 : ByteArray, B1 = ⟨(Lib.itoa c.frm ++ [45]).toArray⟩ := ⟨_, rfl⟩
    obtain ⟨B2, hB2⟩ : ∃ B2 : ByteArray, B2 = ⟨(Lib.itoa c.frm ++ [45] ++ Lib.itoa c.too).toArray⟩ := ⟨_, rfl⟩
    obtain ⟨B3, hB3⟩ : ∃ B3 : ByteArray, B3 = ⟨(hdTx c).toArray⟩ := ⟨_, rfl⟩
    obtain ⟨B4, hB4⟩ : ∃ B4 : ByteArray, B4 = ⟨(hdTx c ++ wdTx c.wd 7).toArray⟩ := ⟨_, rfl⟩
    obtain ⟨B5, hB5⟩ : ∃ B5 : ByteArray, B5 = ⟨(hdTx c ++ wdTx c.wd 7 ++ exTx 43 c.added).toArray⟩ := ⟨_, rfl⟩
    obtain ⟨B6, hB6⟩ : ∃ B6 : ByteArray, B6 = ⟨(calTx c).toArray⟩ := ⟨_, rfl⟩
    have hadd1 : ∀ W, (Op.stringOp .add F ⟨#[45]⟩).run Tryd.prog W = .ok (.string B1) W := fun W => by
      rw [hB1]; exact str_add W _ _ _ [45] (by rw [hF]) rfl (by simp only [List.length_append, List.length_cons, List.length_nil]; omega)
    have hadd2 : ∀ W, (Op.stringOp .add B1 T).run Tryd.prog W = .ok (.string B2) W := fun W => by
      rw [hB2]; exact str_add W _ _ _ _ (by rw [hB1]) (by rw [hT]) (by simp only [List.length_append, List.length_cons, List.length_nil]; omega)
    have hadd3 : ∀ W, (Op.stringOp .add B2 ⟨#[32]⟩).run Tryd.prog W = .ok (.string B3) W := fun W => by
      rw [hB3, hhd]; exact str_add W _ _ _ [32] (by rw [hB2]) rfl (by simp only [List.length_append, List.length_cons, List.length_nil]; omega)
    have hadd4 : ∀ W, (Op.stringOp .add B3 D).run Tryd.prog W = .ok (.string B4) W := fun W => by
      rw [hB4]; exact str_add W _ _ _ _ (by rw [hB3]) (by rw [hD]) (by omega)
    have hadd5 : ∀ W, (Op.stringOp .add B4 XA).run Tryd.prog W = .ok (.string B5) W := fun W => by
      rw [hB5]; exact str_add W _ _ _ _ (by rw [hB4]) (by rw [hXA]) (by simp only [List.length_append]; omega)
    have hadd6 : ∀ W, (Op.stringOp .add B5 XR).run Tryd.prog W = .ok (.string B6) W := fun W => by
      rw [hB6, hcal]; exact str_add W _ _ _ _ (by rw [hB5]) (by rw [hXR]) (by simp only [List.length_append]; omega)
    have HE6 := Lib.hid hB6
    rw [← hB6]
    clear hF hT hD hXA hXR hB1 hB2 hB3 hB4 hB5 hB6 hh hda hdr hXa hXr hwl hhd hcal hlen ha hrm hp
    go_enter Tryd.func13, Tryd.ntmps13
    go_wp2_with fail
    go_at_call 43
    refine (HG.out _ ((Below.refl _ _).alloc (Nat.le_refl _) _)).mono ?_
    rintro e w1 ⟨rfl, hb1⟩
    have hbel : Below w.heap.size w w1 := ((Below.refl _ _).alloc (Nat.le_refl _) _).trans (hb1.mono (by simp))
    have p0 : w1.cell? ⟨w.heap.size, 0, none⟩ = some (.int .i64 c.frm) := bkeep hb1 (by go_simp)
    have p1 : w1.cell? ⟨w.heap.size, 1, none⟩ = some (.int .i64 c.too) := bkeep hb1 (by go_simp)
    have p2 : w1.cell? ⟨w.heap.size, 2, none⟩ = some (.int .i64 c.wd) := bkeep hb1 (by go_simp)
    have p3 : w1.cell? ⟨w.heap.size, 3, none⟩ = some (.slice a c.added.length ca) := bkeep hb1 (by go_simp)
    have p4 : w1.cell? ⟨w.heap.size, 4, none⟩ = some (.slice b c.removed.length cb) := bkeep hb1 (by go_simp)
    clear hb1
    go_wp2_with fail
    go_upto_region 4 with fail
    go_cut [4] (fun t wx => t = .string B4 ∧ wx.cell? ⟨w.heap.size, 0, none⟩ = some (.int .i64 c.frm) ∧ wx.cell? ⟨w.heap.size, 1, none⟩ = some (.int .i64 c.too) ∧ wx.cell? ⟨w.heap.size, 2, none⟩ = some (.int .i64 c.wd) ∧ wx.cell? ⟨w.heap.size, 3, none⟩ = some (.slice a c.added.length ca) ∧ wx.cell? ⟨w.heap.size, 4, none⟩ = some (.slice b c.removed.length cb) ∧ Below w.heap.size w wx)
    case first =>
      go_region_held3 (fun w' => w'.cell? ⟨w.heap.size, 0, none⟩ = some (.int .i64 c.frm) ∧ w'.cell? ⟨w.heap.size, 1, none⟩ = some (.int .i64 c.too) ∧ w'.cell? ⟨w.heap.size, 2, none⟩ = some (.int .i64 c.wd) ∧ w'.cell? ⟨w.heap.size, 3, none⟩ = some (.slice a c.added.length ca) ∧ w'.cell? ⟨w.heap.size, 4, none⟩ = some (.slice b c.removed.length cb) ∧ Below w.heap.size w w')
        (first | (exact ⟨p0, p1, p2, p3, p4, hbel.drew⟩) | (exact keepU5 hb (by assumption)))
        (first | (go_at_call_of 44 c.frm; refine (HIf.out _ (belU5 (by assumption))).mono ?_; rintro e w' ⟨rfl, hb⟩) | (go_at_call_of 44 c.too; refine (HIt.out _ (belU5 (by assumption))).mono ?_; rintro e w' ⟨rfl, hb⟩) | (go_at_call 45; refine (HWd.out _).mono ?_; rintro e w' ⟨rfl, hb⟩))
      all_goals go_wp2_with fail
      all_goals go_meet
      all_goals exact ⟨rfl, by assumption⟩
    case rest =>
    obtain ⟨rfl, q0, q1, q2, q3, q4, hbel2⟩ := hcut
    go_wp2_with fail
    go_region_held3 (fun w' => w'.cell? ⟨w.heap.size, 0, none⟩ = some (.int .i64 c.frm) ∧ w'.cell? ⟨w.heap.size, 1, none⟩ = some (.int .i64 c.too) ∧ w'.cell? ⟨w.heap.size, 2, none⟩ = some (.int .i64 c.wd) ∧ w'.cell? ⟨w.heap.size, 3, none⟩ = some (.slice a c.added.length ca) ∧ w'.cell? ⟨w.heap.size, 4, none⟩ = some (.slice b c.removed.length cb) ∧ Below w.heap.size w w')
      (first | (exact ⟨q0, q1, q2, q3, q4, hbel2.drew⟩) | (exact keepU5 hb (by assumption)))
      (first | (go_at_call_of 46 c.added; refine (HEa.out _ (belU5 (by assumption))).mono ?_; rintro e w' ⟨rfl, hb⟩) | (go_at_call_of 46 c.removed; refine (HEr.out _ (belU5 (by assumption))).mono ?_; rintro e w' ⟨rfl, hb⟩))
    all_goals
      obtain ⟨-, -, -, -, -, qb⟩ := (by assumption : _ ∧ _)
      go_wp2_with fail
      go_ret2
      exact ⟨rfl, qb⟩
  · rw [calB_no hg] at HG
    rw [show fcF c = (⟨#[]⟩, false) from if_neg hg]
    clear hg ha hrm hp
    go_enter Tryd.func13, Tryd.ntmps13
    go_wp2_with fail
    go_at_call 43
    refine (HG.out _ ((Below.refl _ _).alloc (Nat.le_refl _) _)).mono ?_
    rintro e w1 ⟨rfl, hb1⟩
    have HB1 : Hid (Below w.heap.size w w1) := ((Below.refl _ _).alloc (Nat.le_refl _) _).trans (hb1.mono (by simp))
    clear hb1
    go_wp2_with fail
    go_ret2
    exact ⟨rfl, HB1.out⟩

theorem bothFormatCalendar (c : CalD) (hf : CalFits c) (hs : CalSmall c) : ∃ (r : ByteArray) (b : Bool), ∀ (v : Value) (w : World), CalAt w v c →
    Calls Tryd.prog 11 #[v] w (fun e w' => e = .returned (.tuple #[.string r, .bool b]) ∧ Below w.heap.size w w') ∧
    (PowAt w → Calls Tryd.prog 13 #[v] w (fun e w' => e = .returned (.tuple #[.string r, .bool b]) ∧ Below w.heap.size w w')) :=
  ⟨_, _, fun v w h => ⟨specFormatCalendar_any v c w h, implFormatCalendar_any v c w h⟩⟩
end Go.Proofs.YtffcgblionlhhaaDoor
