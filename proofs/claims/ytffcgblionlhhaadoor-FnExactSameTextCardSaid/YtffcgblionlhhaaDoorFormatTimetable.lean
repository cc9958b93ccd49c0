/-
  What spec.FormatTimetable and impl.FormatTimetable both return.
-/
import Derived.Test.YtffcgblionlhhaaDoorL5Good
import Derived.Test.YtffcgblionlhhaaDoorL6TT
import Derived.Test.YtffcgblionlhhaaDoorWriteNet
import Derived.Test.YtffcgblionlhhaaDoorFmt
import Derived.Test.YtffcgblionlhhaaDoorTimeImpl
import Derived.Lib.LaidTab
namespace Go.Proofs.YtffcgblionlhhaaDoor
open Go.RowKit
set_option linter.unusedVariables false
set_option linter.unusedSimpArgs false

/-- the table of powers of ten holds its numbers from here on -/
def PowAt (w : World) : Prop := ∀ W, Below w.heap.size w W → Lib.TabIs Tryd.prog W "internal/strconv.uint64pow10" .u64 Lib.pow10Tab
theorem PowAt.later {w w' : World} (h : PowAt w) (hb : Below w.heap.size w w') : PowAt w' := fun W hW => h W (hb.trans (hW.mono hb.size))
theorem timeTextF_any (n : Nat) (w : World) (h : n ≤ 1799) : Calls Tryd.prog 94 #[.int .i64 (n : Int)] w fun e w' => e = .returned (.string (timeC n)) ∧ Below w.heap.size w w' := by
  have H := Lib.hid (implFormatTime_yes n w h)
  generalize timeC n = s at *
  go_enter Tryd.func94, Tryd.ntmps94
  go_wp2_with (go_at_call 141; refine H.out.mono ?_; rintro e w' ⟨rfl, hb⟩)
  go_ret
  exact ⟨rfl, hb⟩
noncomputable def ftF (t : TTD) : ByteArray × Bool := if TTGood t then (⟨(ttTx t).toArray⟩, true) else (⟨#[]⟩, false)

set_option maxRecDepth 100000 in
set_option maxHeartbeats 1000000 in
theorem specFormatTimetable_any (v : Value) (t : TTD) (w : World) (hr : TTAt w v t) (hf : TTFits t) :
    Calls Tryd.prog 35 #[v] w fun e w' => e = .returned (.tuple #[.string (ftF t).1, .bool (ftF t).2]) ∧ Below w.heap.size w w' := by
  have HG := Lib.hid (fun W (hW : Below w.heap.size w W) => l5Good_any v t W (hr.below rfl hW) hf)
  have HL := Lib.hid (fun W (hW : Below w.heap.size w W) (hg : TTGood t) => l6Timetable_any v t W (hr.below rfl hW) hg)
  obtain ⟨a, c, a', c', b, d, rfl, -, -⟩ := tt_open hr
  clear hr hf
  by_cases hg : TTGood t
  · rw [ttB_yes hg] at HG
    rw [show ftF t = (⟨(ttTx t).toArray⟩, true) from if_pos hg]
    have HL2 := Lib.hid (fun W hW => HL.out W hW hg)
    clear HL hg
    go_enter Tryd.func35, Tryd.ntmps35
    go_wp2_with fail
    go_at_call 57
    refine (HG.out _ ((Below.refl _ _).alloc (Nat.le_refl _) _)).mono ?_
    rintro e w1 ⟨rfl, hb1⟩
    have HB1 : Hid (Below w.heap.size w w1) := ((Below.refl _ _).alloc (Nat.le_refl _) _).trans (hb1.mono (by simp))
    have p0 : w1.cell? ⟨w.heap.size, 0, none⟩ = some (.slice a t.net.stops.length c) := bkeep hb1 (by go_simp)
    have p1 : w1.cell? ⟨w.heap.size, 1, none⟩ = some (.slice a' t.net.lines.length c') := bkeep hb1 (by go_simp)
    have p2 : w1.cell? ⟨w.heap.size, 2, none⟩ = some (.slice b t.trips.length d) := bkeep hb1 (by go_simp)
    clear hb1
    go_wp2_with fail
    go_at_call 92
    refine (HL2.out _ HB1.out).mono ?_
    rintro e w2 ⟨rfl, hb2⟩
    have HB2 : Hid (Below w.heap.size w w2) := HB1.out.trans (hb2.mono HB1.out.size)
    clear hb2
    go_wp2_with fail
    go_ret2
    exact ⟨rfl, HB2.out⟩
  · rw [ttB_no hg] at HG
    rw [show ftF t = (⟨#[]⟩, false) from if_neg hg]
    clear HL hg
    go_enter Tryd.func35, Tryd.ntmps35
    go_wp2_with fail
    go_at_call 57
    refine (HG.out _ ((Below.refl _ _).alloc (Nat.le_refl _) _)).mono ?_
    rintro e w1 ⟨rfl, hb1⟩
    have HB1 : Hid (Below w.heap.size w w1) := ((Below.refl _ _).alloc (Nat.le_refl _) _).trans (hb1.mono (by simp))
    clear hb1
    go_wp2_with fail
    go_ret2
    exact ⟨rfl, HB1.out⟩

set_option maxRecDepth 100000 in
set_option maxHeartbeats 8000000 in
theorem implFormatTimetable_any (v : Value) (t : TTD) (w : World) (hr : TTAt w v t) (hf : TTFits t) (hp : PowAt w) :
    Calls Tryd.prog 36 #[v] w fun e w' => e = .returned (.tuple #[.string (ftF t).1, .bool (ftF t).2]) ∧ Below w.heap.size w w' := by
  have HG := Lib.hid (fun W (hW : Below w.heap.size w W) => implTT_any v t W (hr.below rfl hW) hf)
  obtain ⟨a, c, a', c', b, d, rfl, hn, ht⟩ := tt_open hr
  have HWn := Lib.hid (fun B b L0 W (hg : NetGood t.net) (hW : Below w.heap.size w W) hBB h hB hL => writeNetwork_any B b L0 _ t.net w W hn hg hW hBB h hB hL)
  have HLn := Lib.hid (fun k hk => net_line hn k hk)
  have HT := Lib.hid ht
  have HPow := Lib.hid hp
  clear hr hf hn ht hp
  by_cases hg : TTGood t
  · rw [ttB_yes hg] at HG
    rw [show ftF t = (⟨(ttTx t).toArray⟩, true) from if_pos hg]
    have HL2 := Lib.hid (fun B b L0 W hW hBB h hB hL => HWn.out B b L0 W hg.1 hW hBB h hB hL)
    have HNe := Lib.hid (netTx_len hg.1)
    have HTe := Lib.hid (tripsTx_len hg)
    have HGo := Lib.hid hg
    have hts : t.trips.length ≤ 12 := hg.2.1
    clear HWn hg
    go_enter Tryd.func36, Tryd.ntmps36
    go_wp2_with fail
    go_at_call 64
    refine (HG.out _ ((Below.refl _ _).alloc (Nat.le_refl _) _)).mono ?_
    rintro e w1 ⟨rfl, hb1⟩
    have HB1 : Hid (Below w.heap.size w w1) := ((Below.refl _ _).alloc (Nat.le_refl _) _).trans (hb1.mono (by simp))
    have p0 : w1.cell? ⟨w.heap.size, 0, none⟩ = some (.slice a t.net.stops.length c) := bkeep hb1 (by go_simp)
    have p1 : w1.cell? ⟨w.heap.size, 1, none⟩ = some (.slice a' t.net.lines.length c') := bkeep hb1 (by go_simp)
    have p2 : w1.cell? ⟨w.heap.size, 2, none⟩ = some (.slice b t.trips.length d) := bkeep hb1 (by go_simp)
    have hz1 : w.heap.size < w1.heap.size := by have := hb1.size; simp at this; omega
    have HBd1 : Hid (Bd w1.heap.size w1.heap.size [] (w1.alloc (.cells #[.pointer none, .slice none 0 0] 122 (0, 0)))) := Bd.new w1
    have HB1' : Hid (Below w.heap.size w (w1.alloc (.cells #[.pointer none, .slice none 0 0] 122 (0, 0)))) := HB1.out.alloc HB1.out.size _
    have q0 := acell p0 (.cells #[.pointer none, .slice none 0 0] 122 (0, 0))
    have q1 := acell p1 (.cells #[.pointer none, .slice none 0 0] 122 (0, 0))
    have q2 := acell p2 (.cells #[.pointer none, .slice none 0 0] 122 (0, 0))
    clear hb1
    go_wp2_with fail
    go_at_call 88
    refine (HL2.out w1.heap.size w1.heap.size [] _ HB1'.out (by omega) HBd1.out (by simp) (by simp)).mono ?_
    rintro e w2 ⟨rfl, h2, hb2, ho2⟩
    rw [List.nil_append] at h2
    have hz2 := hb2.size
    have hz3 : w1.heap.size ≤ w2.heap.size := by simp at hz2; omega
    have HB2 : Hid (Below w.heap.size w w2) := HB1'.out.trans (hb2.mono (by omega))
    have HBd2 : Hid (Bd w1.heap.size w1.heap.size (netTx t.net ++ tripsTx t.net (t.trips.take 0)) w2) := by show Bd _ _ _ _; simpa [tripsTx] using h2
    have r2 := (hb2.cell (p := ⟨w.heap.size, 2, none⟩) (by dsimp only; omega)).trans q2
    have HR1 : Hid (∀ W, Below w.heap.size w W → True) := fun _ _ => trivial
    have R1 := (hb2.cell (p := ⟨w.heap.size, 1, none⟩) (by dsimp only; omega)).trans q1
    have HBk : Hid (Below w1.heap.size w2 w2) := Below.refl _ _
    clear h2 hb2 ho2 hz2 p0 p1 p2 q0 q1 q2 HR1 HBk HBd1
    go_wp2_with fail
    go_loopw [16] (fun q wr => ∃ k : Nat, k ≤ t.trips.length ∧ q = .int .i64 k ∧ Hid (Bd w1.heap.size w1.heap.size (netTx t.net ++ tripsTx t.net (t.trips.take k)) wr) ∧ Hid (Below w.heap.size w wr ∧ wr.cell? ⟨w.heap.size, 1, none⟩ = some (.slice a' t.net.lines.length c')) ∧ w1.heap.size ≤ wr.heap.size)
      (fun q _ => t.trips.length - (RowKit.intOf q).toNat)
    case atStart => exact ⟨0, Nat.zero_le _, rfl, HBd2, ⟨HB2.out, R1⟩, hz3⟩
    case round =>
      clear HBd2 HB2 R1 r2
      obtain ⟨k, hk, rfl, HBd, HBz, hzr⟩ := hrel
      have HB : Hid (Below w.heap.size w wr) := HBz.out.1
      have z1' := HBz.out.2
      have hbw := HBd.out.lt.1
      by_cases hlt : k < t.trips.length
      · obtain ⟨g, go, rfl, hgb, y0, y1, y2⟩ := trip_at HT.out k hlt
        have Y0 := bkeep HB.out y0
        have Y1 := bkeep HB.out y1
        have Y2 := bkeep HB.out y2
        obtain ⟨j, hj, hjl, -⟩ := HGo.out.line k hlt
        obtain ⟨lb, lo, s0, s1, r0, r1, rfl, hlb, l0, -, -, -, -⟩ := HLn.out j hjl
        have L0 := bkeep HB.out l0
        have hid := HGo.out.step k hlt
        have hst := hid.2.2.1.2.1
        have hnm := lnNm_at hj hjl
        obtain ⟨m, hm⟩ := Int.eq_ofNat_of_zero_le hst.1
        have hm1 : m ≤ 1799 := by have := hst.2; omega
        have HIt := Lib.hid (fun W (hW : Below w.heap.size w W) => itoa_any t.trips[k].id W (by have := hid.1; omega) (by have := hid.2.1; omega) (HPow.out W hW))
        have HTx := Lib.hid (fun W => timeTextF_any m W hm1)
        have hsucc := tripsTx_take t.net t.trips k hlt
        have hle := HTe.out (k + 1)
        have hne := HNe.out
        have hjn := tripWd_join t.net t.trips[k]
        have hwd : tripWd t.net t.trips[k] = [⟨#[116, 114, 105, 112]⟩, ⟨(Lib.itoa t.trips[k].id).toArray⟩, t.net.lines[j].name, timeC m] := by
          unfold tripWd; rw [hnm, hm, Int.toNat_natCast]
        rw [hwd] at hjn
        rw [hm] at Y2
        rw [hj] at Y1
        generalize t.net.lines[j].name = nm at *
        obtain ⟨I, hI⟩ : ∃ I : ByteArray, I = ⟨(Lib.itoa t.trips[k].id).toArray⟩ := ⟨_, rfl⟩
        rw [← hI] at HIt hjn
        generalize t.trips[k].id = xi at *
        generalize timeC m = tm at *
        have hJl : (jnL 32 [⟨#[116, 114, 105, 112]⟩, I, nm, tm]).length ≤ 100000 := by
          have h1 := congrArg List.length hjn
          have h2 := congrArg List.length hsucc
          simp only [List.length_append, List.length_cons, List.length_nil] at h1 h2
          omega
        have hll : (netTx t.net ++ tripsTx t.net (t.trips.take k)).length ≤ 100000 := by
          have h2 := congrArg List.length hsucc
          simp only [List.length_append] at h2 ⊢
          omega
        have HEq : Hid (netTx t.net ++ tripsTx t.net (t.trips.take k) ++ jnL 32 [⟨#[116, 114, 105, 112]⟩, I, nm, tm] ++ [10] = netTx t.net ++ tripsTx t.net (t.trips.take (k + 1))) := by
          show _ = _
          rw [hsucc, ← hjn]; simp
        have hk1 : (k : Int) < (t.trips.length : Int) := by omega
        have hj1 : (j : Int) < (t.net.lines.length : Int) := by omega
        have hgr : g < wr.heap.size := Nat.lt_of_lt_of_le hgb HB.out.size
        clear hsucc hle hne hjn hwd hm hst hid hj hnm y0 y1 y2 l0 hI HBz
        go_wp2_with fail
        obtain ⟨wx, hwx⟩ : ∃ wx : World, wx = wr.alloc (.cells #[.int .i64 xi, .int .i64 (j : Int), .int .i64 (m : Int)] 96 (0, 0)) := ⟨_, rfl⟩
        have x0 : wx.cell? ⟨wr.heap.size, 0, none⟩ = some (.int .i64 xi) := by rw [hwx]; go_simp
        have x1 : wx.cell? ⟨wr.heap.size, 1, none⟩ = some (.int .i64 (j : Int)) := by rw [hwx]; go_simp
        have x2 : wx.cell? ⟨wr.heap.size, 2, none⟩ = some (.int .i64 (m : Int)) := by rw [hwx]; go_simp
        have z1 : wx.cell? ⟨w.heap.size, 1, none⟩ = some (.slice (some ⟨lb, lo, none⟩) t.net.lines.length c') := by rw [hwx]; exact acell z1' _
        have n0 : wx.cell? ⟨lb, lo + j * 3, none⟩ = some (.string nm) := by rw [hwx]; exact acell L0 _
        have hzx : wx.heap.size = wr.heap.size + 1 := by rw [hwx]; simp
        have HXB : Hid (wx.heap[wr.heap.size]? = some (.cells #[.int .i64 xi, .int .i64 (j : Int), .int .i64 (m : Int)] 96 (0, 0))) := by show _ = _; rw [hwx]; exact heap_alloc_new wr _
        have HBx : Hid (Below w.heap.size w wx) := by show Below _ _ _; rw [hwx]; exact HB.out.alloc HB.out.size _
        have HBd' : Hid (Bd w1.heap.size w1.heap.size (netTx t.net ++ tripsTx t.net (t.trips.take k)) wx) := by show Bd _ _ _ _; rw [hwx]; exact HBd.out.alloc _
        rw [← hwx]
        clear hwx HBd Y0 Y1 Y2 L0 z1'
        have hzx1 : wr.heap.size < wx.heap.size := by omega
        clear hzx
        have HBd := HBd'
        clear HBd'
        refine wp_region_held_drew (S := (fun w' => w'.cell? ⟨wr.heap.size, 0, none⟩ = some (.int .i64 xi) ∧ w'.cell? ⟨wr.heap.size, 1, none⟩ = some (.int .i64 (j : Int)) ∧ w'.cell? ⟨wr.heap.size, 2, none⟩ = some (.int .i64 (m : Int)) ∧ w'.cell? ⟨w.heap.size, 1, none⟩ = some (.slice (some ⟨lb, lo, none⟩) t.net.lines.length c') ∧ w'.cell? ⟨lb, lo + j * 3, none⟩ = some (.string nm))) (by kernel_rfl) ?_ (fun hHeld => ?_)
        · exact ⟨x0, x1, x2, z1, n0⟩
        refine wpAnyH_take (i := 0) (v := ?_) (by simp only [List.getElem?_toArray, List.getElem?_cons_zero]; rfl) (by kernel_rfl) (by kernel_rfl) (by kernel_rfl) (by exact fun _ _ _ h => h) (Or.inl ⟨by rfl, ?_⟩) (by assumption) ?_
        rotate_left
        · intro w' hSw; obtain ⟨e0, e1, e2, e3, e4⟩ := hSw
          go_simp; try with_reducible rfl
        try simp only [Act.put, List.setIfInBounds_toArray, List.set_cons_zero, List.set_cons_succ]
        refine wpAnyH_take (i := 1) (v := ?_) (by simp only [List.getElem?_toArray, List.getElem?_cons_succ, List.getElem?_cons_zero]; rfl) (by kernel_rfl) (by kernel_rfl) (by kernel_rfl) (by exact fun _ _ _ h => h) (Or.inl ⟨by rfl, ?_⟩) (by assumption) ?_
        rotate_left
        · intro w' hSw; obtain ⟨e0, e1, e2, e3, e4⟩ := hSw
          go_simp; try with_reducible rfl
        try simp only [Act.put, List.setIfInBounds_toArray, List.set_cons_zero, List.set_cons_succ]
        refine wpAnyH_take (i := 3) (v := ?_) (by simp only [List.getElem?_toArray, List.getElem?_cons_succ, List.getElem?_cons_zero]; rfl) (by kernel_rfl) (by kernel_rfl) (by kernel_rfl) (by exact fun _ _ _ h => h) (Or.inl ⟨by rfl, ?_⟩) (by assumption) ?_
        rotate_left
        · intro w' hSw; obtain ⟨e0, e1, e2, e3, e4⟩ := hSw
          go_simp; try with_reducible rfl
        try simp only [Act.put, List.setIfInBounds_toArray, List.set_cons_zero, List.set_cons_succ]
        refine wpAnyH_take (i := 4) (v := ?_) (by simp only [List.getElem?_toArray, List.getElem?_cons_succ, List.getElem?_cons_zero]; rfl) (by kernel_rfl) (by kernel_rfl) (by kernel_rfl) (by exact fun _ _ _ h => h) (Or.inl ⟨by rfl, ?_⟩) (by assumption) ?_
        rotate_left
        · intro w' hSw; obtain ⟨e0, e1, e2, e3, e4⟩ := hSw
          go_simp; try with_reducible rfl
        try simp only [Act.put, List.setIfInBounds_toArray, List.set_cons_zero, List.set_cons_succ]
        refine wpAnyH_take (i := 5) (v := ?_) (by simp only [List.getElem?_toArray, List.getElem?_cons_succ, List.getElem?_cons_zero]; rfl) (by kernel_rfl) (by kernel_rfl) (by kernel_rfl) (by exact fun _ _ _ h => h) (Or.inl ⟨by rfl, ?_⟩) (by assumption) ?_
        rotate_left
        · intro w' hSw; obtain ⟨e0, e1, e2, e3, e4⟩ := hSw
          go_simp; try with_reducible rfl
        try simp only [Act.put, List.setIfInBounds_toArray, List.set_cons_zero, List.set_cons_succ]
        refine wpAnyH_take (i := 6) (v := ?_) (by simp only [List.getElem?_toArray, List.getElem?_cons_succ, List.getElem?_cons_zero]; rfl) (by kernel_rfl) (by kernel_rfl) (by kernel_rfl) (by exact fun _ _ _ h => h) (Or.inl ⟨by rfl, ?_⟩) (by assumption) ?_
        rotate_left
        · intro w' hSw; obtain ⟨e0, e1, e2, e3, e4⟩ := hSw
          go_simp; try with_reducible rfl
        try simp only [Act.put, List.setIfInBounds_toArray, List.set_cons_zero, List.set_cons_succ]
        refine wpAnyH_take (i := 7) (v := ?_) (by simp only [List.getElem?_toArray, List.getElem?_cons_succ, List.getElem?_cons_zero]; rfl) (by kernel_rfl) (by kernel_rfl) (by kernel_rfl) (by exact fun _ _ _ h => h) (Or.inl ⟨by rfl, ?_⟩) (by assumption) ?_
        rotate_left
        · intro w' hSw; obtain ⟨e0, e1, e2, e3, e4⟩ := hSw
          go_simp; try with_reducible rfl
        try simp only [Act.put, List.setIfInBounds_toArray, List.set_cons_zero, List.set_cons_succ]
        refine wpAnyH_take (i := 8) (v := ?_) (by simp only [List.getElem?_toArray, List.getElem?_cons_succ, List.getElem?_cons_zero]; rfl) (by kernel_rfl) (by kernel_rfl) (by kernel_rfl) (by exact fun _ _ _ h => h) (Or.inl ⟨by rfl, ?_⟩) (by assumption) ?_
        rotate_left
        · intro w' hSw; obtain ⟨e0, e1, e2, e3, e4⟩ := hSw
          go_simp; try with_reducible rfl
        try simp only [Act.put, List.setIfInBounds_toArray, List.set_cons_zero, List.set_cons_succ]
        refine wpAnyH_take (i := 9) (v := ?_) (by simp only [List.getElem?_toArray, List.getElem?_cons_succ, List.getElem?_cons_zero]; rfl) (by kernel_rfl) (by kernel_rfl) (by kernel_rfl) (by exact fun _ _ _ h => h) (Or.inl ⟨by rfl, ?_⟩) (by assumption) ?_
        rotate_left
        · intro w' hSw; obtain ⟨e0, e1, e2, e3, e4⟩ := hSw
          go_simp; try with_reducible rfl
        try simp only [Act.put, List.setIfInBounds_toArray, List.set_cons_zero, List.set_cons_succ]
        refine wpAnyH_take (i := 10) (v := ?_) (by simp only [List.getElem?_toArray, List.getElem?_cons_succ, List.getElem?_cons_zero]; rfl) (by kernel_rfl) (by kernel_rfl) (by kernel_rfl) (by exact fun _ _ _ h => h) (Or.inl ⟨by rfl, ?_⟩) (by assumption) ?_
        rotate_left
        · intro w' hSw; obtain ⟨e0, e1, e2, e3, e4⟩ := hSw
          go_simp; try with_reducible rfl
        try simp only [Act.put, List.setIfInBounds_toArray, List.set_cons_zero, List.set_cons_succ]
        refine wpAnyH_take (i := 11) (v := ?_) (by simp only [List.getElem?_toArray, List.getElem?_cons_succ, List.getElem?_cons_zero]; rfl) (by kernel_rfl) (by kernel_rfl) (by kernel_rfl) (by exact fun _ _ _ h => h) (Or.inl ⟨by rfl, ?_⟩) (by assumption) ?_
        rotate_left
        · intro w' hSw; obtain ⟨e0, e1, e2, e3, e4⟩ := hSw
          go_simp; try with_reducible rfl
        try simp only [Act.put, List.setIfInBounds_toArray, List.set_cons_zero, List.set_cons_succ]
        refine wpAnyH_take (i := 12) (v := ?_) (by simp only [List.getElem?_toArray, List.getElem?_cons_succ, List.getElem?_cons_zero]; rfl) (by kernel_rfl) (by kernel_rfl) (by kernel_rfl) (by exact fun _ _ _ h => h) (Or.inl ⟨by rfl, ?_⟩) (by assumption) ?_
        rotate_left
        · intro w' hSw; obtain ⟨e0, e1, e2, e3, e4⟩ := hSw
          go_simp; try with_reducible rfl
        try simp only [Act.put, List.setIfInBounds_toArray, List.set_cons_zero, List.set_cons_succ]
        refine wpAnyH_ready (rs := [2]) (by kernel_rfl) (by simp) ?_
        refine AllReadyH.cons (by simp only [List.getElem?_toArray, List.getElem?_cons_succ, List.getElem?_cons_zero]; rfl) (fun K hK => ?_) AllReadyH.nil
        go_simp
        go_at_call 44
        refine (HIt.out _ (HBx.out.trans (Dr.below ⟨1, rfl⟩ |>.mono HBx.out.size))).mono ?_
        rintro e w5 ⟨rfl, hb5⟩
        go_wp2_with fail
        refine hK.out _ _ ?_ (fun hH5 => ?_)
        · exact ⟨bkeep hb5 hHeld.1, bkeep hb5 hHeld.2.1, bkeep hb5 hHeld.2.2.1, bkeep hb5 hHeld.2.2.2.1, bkeep hb5 hHeld.2.2.2.2⟩
        clear hK K
        try simp only [Act.put, List.setIfInBounds_toArray, List.set_cons_zero, List.set_cons_succ]
        refine wpAnyH_ready (rs := [13]) (by kernel_rfl) (by simp) ?_
        refine AllReadyH.cons (by simp only [List.getElem?_toArray, List.getElem?_cons_succ, List.getElem?_cons_zero]; rfl) (fun K hK => ?_) AllReadyH.nil
        go_simp
        go_at_call 94
        refine (HTx.out _).mono ?_
        rintro e w6 ⟨rfl, hb6⟩
        go_wp2_with fail
        refine hK.out _ _ ?_ (fun hH6 => ?_)
        · exact ⟨bkeep hb6 hH5.1, bkeep hb6 hH5.2.1, bkeep hb6 hH5.2.2.1, bkeep hb6 hH5.2.2.2.1, bkeep hb6 hH5.2.2.2.2⟩
        clear hK K
        try simp only [Act.put, List.setIfInBounds_toArray, List.set_cons_zero, List.set_cons_succ]
        refine wpAnyH_ready (rs := [14]) (by kernel_rfl) (by simp) ?_
        refine AllReadyH.cons (by simp only [List.getElem?_toArray, List.getElem?_cons_succ, List.getElem?_cons_zero]; rfl) (fun K hK => ?_) AllReadyH.nil
        go_simp
        refine hK.out _ _ ?_ (fun hH7 => ?_)
        · exact ⟨acell hH6.1 _, acell hH6.2.1 _, acell hH6.2.2.1 _, acell hH6.2.2.2.1 _, acell hH6.2.2.2.2 _⟩
        clear hK K
        try simp only [Act.put, List.setIfInBounds_toArray, List.set_cons_zero, List.set_cons_succ]
        have hz5 : wx.heap.size ≤ w5.heap.size := hb5.size
        have hz6 : w5.heap.size ≤ w6.heap.size := hb6.size
        have hW7 : Below wx.heap.size wx (w6.alloc (.cells #[.string ⟨#[116, 114, 105, 112]⟩, .string I, .string nm, .string tm] 9 (0, 0))) := by
          refine Below.alloc ?_ (by omega) _
          exact (((Dr.below ⟨1, rfl⟩ : Below wx.heap.size wx (wx.drewN 1)).trans (hb5.mono (by show wx.heap.size ≤ wx.heap.size; omega))).trans (hb6.mono hz5))
        have HWw := Lib.hid (writeWords_any w1.heap.size w1.heap.size (netTx t.net ++ tripsTx t.net (t.trips.take k)) (.slice (some ⟨w6.heap.size, 0, none⟩) 4 4) [⟨#[116, 114, 105, 112]⟩, I, nm, tm] (w6.alloc (.cells #[.string ⟨#[116, 114, 105, 112]⟩, .string I, .string nm, .string tm] 9 (0, 0))) (HBd.out.later hW7) (by simp; omega) (row_lit w6 [⟨#[116, 114, 105, 112]⟩, I, nm, tm] (by simp)) (by simp) (by simp) hJl hll)
        have hXB : (w6.alloc (.cells #[.string ⟨#[116, 114, 105, 112]⟩, .string I, .string nm, .string tm] 9 (0, 0))).heap[wr.heap.size]? = some (.cells #[.int .i64 xi, .int .i64 (j : Int), .int .i64 (m : Int)] 96 (0, 0)) := (hW7.block _ (by omega)).trans HXB.out
        refine wpAnyH_ready (rs := [15]) (by kernel_rfl) (by simp) ?_
        refine AllReadyH.cons (by simp only [List.getElem?_toArray, List.getElem?_cons_succ, List.getElem?_cons_zero]; rfl) (fun K hK => ?_) AllReadyH.nil
        go_simp
        go_at_call 93
        refine HWw.out.mono ?_
        rintro e w8 ⟨rfl, h8, hb8, ho8⟩
        rw [HEq.out] at h8
        have hX8 : w8.heap[wr.heap.size]? = some (.cells #[.int .i64 xi, .int .i64 (j : Int), .int .i64 (m : Int)] 96 (0, 0)) := by rw [ho8.cell hXB (by omega) (by decide)]; exact hXB
        go_wp2_with fail
        refine hK.out _ _ ?_ (fun hH8 => ?_)
        · exact ⟨by rw [Lib.cell_of_heap hX8]; rfl, by rw [Lib.cell_of_heap hX8]; rfl, by rw [Lib.cell_of_heap hX8]; rfl, (hb8.cell (p := ⟨w.heap.size, 1, none⟩) (by dsimp only; omega)).trans hH7.2.2.2.1, (hb8.cell (p := ⟨lb, lo + j * 3, none⟩) (by dsimp only; omega)).trans hH7.2.2.2.2⟩
        clear hK K
        try simp only [Act.put, List.setIfInBounds_toArray, List.set_cons_zero, List.set_cons_succ]
        refine wpAnyH_done (by kernel_rfl) ?_ _
        have hz8 := hb8.size
        simp at hz8
        have HB8 : Hid (Below w.heap.size w w8 ∧ w8.cell? ⟨w.heap.size, 1, none⟩ = some (.slice (some ⟨lb, lo, none⟩) t.net.lines.length c')) := ⟨HBx.out.trans ((hW7.mono HBx.out.size).trans (hb8.mono (by omega))), hH8.2.2.2.1⟩
        have HBd8 := Lib.hid h8
        have hz9 : w1.heap.size ≤ w8.heap.size := by omega
        clear h8 hb8 ho8 hX8 hXB hW7 HWw hb5 hb6 hHeld hH5 hH6 hH7 hH8 x0 x1 x2 z1 n0 HBd HB HBx HXB
        go_wp2_with fail
        go_roundw
        case rel => exact ⟨k + 1, by omega, by go_num, HBd8, HB8, hz9⟩
        case measure => simp [RowKit.intOf]; omega
      · have hlt1 : ¬ (k : Int) < (t.trips.length : Int) := by omega
        obtain rfl : k = t.trips.length := by omega
        have HT1 : Hid (netTx t.net ++ tripsTx t.net (t.trips.take t.trips.length) = ttTx t) := by show _ = _; rw [List.take_length]; rfl
        rw [HT1.out] at HBd
        have HS := Lib.hid (buildStr_any w1.heap.size w1.heap.size _ wr HBd.out hzr)
        clear z1' HBz
        go_wp2_with fail
        go_at_call 89
        refine HS.out.mono ?_
        rintro e w3 ⟨rfl, hb3, -⟩
        have HB3 : Hid (Below w.heap.size w w3) := HB.out.trans (hb3.mono (by omega))
        clear hb3
        go_wp2_with fail
        go_ret2
        exact ⟨rfl, HB3.out⟩
  · rw [ttB_no hg] at HG
    rw [show ftF t = (⟨#[]⟩, false) from if_neg hg]
    clear HWn hg
    go_enter Tryd.func36, Tryd.ntmps36
    go_wp2_with fail
    go_at_call 64
    refine (HG.out _ ((Below.refl _ _).alloc (Nat.le_refl _) _)).mono ?_
    rintro e w1 ⟨rfl, hb1⟩
    have HB1 : Hid (Below w.heap.size w w1) := ((Below.refl _ _).alloc (Nat.le_refl _) _).trans (hb1.mono (by simp))
    clear hb1
    go_wp2_with fail
    go_ret2
    exact ⟨rfl, HB1.out⟩

theorem bothFormatTimetable (t : TTD) (hf : TTFits t) (hs : TTSmall t) : ∃ (r : ByteArray) (b : Bool), ∀ (v : Value) (w : World), TTAt w v t →
    Calls Tryd.prog 35 #[v] w (fun e w' => e = .returned (.tuple #[.string r, .bool b]) ∧ Below w.heap.size w w') ∧
    (PowAt w → Calls Tryd.prog 36 #[v] w (fun e w' => e = .returned (.tuple #[.string r, .bool b]) ∧ Below w.heap.size w w')) :=
  ⟨_, _, fun v w h => ⟨specFormatTimetable_any v t w h hf, implFormatTimetable_any v t w h hf⟩⟩
end Go.Proofs.YtffcgblionlhhaaDoor
