/-
  CONTRACTS of impl.writeWords and impl.writeNetwork: words and a network written to a builder.
-/
import Derived.Test.YtffcgblionlhhaaDoorMb
import Derived.Test.YtffcgblionlhhaaDoorTxP
import Derived.Test.YtffcgblionlhhaaDoorStrApp
import Derived.Test.YtffcgblionlhhaaDoorBuild
import Derived.Test.YtffcgblionlhhaaDoorL6Net
import Derived.Deep.RegionHeld
import Derived.Outline
namespace Go.Proofs.YtffcgblionlhhaaDoor
open Go.RowKit
set_option linter.unusedVariables false
set_option linter.unusedSimpArgs false

theorem Bd.keep {B b : Nat} {l : List UInt8} {w w' : World} (h : Bd B b l w) (hq : ∀ g, g < w.heap.size → w'.heap[g]? = w.heap[g]?) : Bd B b l w' := by
  rcases h with ⟨h0, v, hk, ho, hn⟩ | ⟨h0, v, hk, ho, hn⟩
  · exact .inl ⟨h0, v, by rw [hq b (Array.getElem?_eq_some_iff.1 hk).1]; exact hk, ownF_block ho (fun g hg => hq g (ho.lt g hg).2), hn⟩
  · exact .inr ⟨h0, v, by rw [hq b (Array.getElem?_eq_some_iff.1 hk).1]; exact hk, ownF_block ho (fun g hg => hq g (ho.lt g hg).2), hn⟩
theorem Oth.of_keep {b : Nat} {w w' : World} (hq : ∀ g, g < w.heap.size → w'.heap[g]? = w.heap[g]?) : Oth b w w' := fun k o hk _ _ => by
  rw [hq k (Array.getElem?_eq_some_iff.1 hk).1]; exact hk
theorem itoaS_any (n : Int) (w : World) (h0 : 0 ≤ n) (h1 : n < 100) : Calls Tryd.prog 44 #[.int .i64 n] w fun e w' => e = .returned (.string ⟨(Lib.itoa n).toArray⟩) ∧ w = w' := by
  obtain ⟨k, rfl⟩ := Int.eq_ofNat_of_zero_le h0
  rw [Lib.itoa_nonneg]
  exact (Tryd.strconv_Itoa_small k (by omega) w).mono fun _ _ ⟨h1, h2⟩ => ⟨h1, h2.symm⟩
theorem Bd.alloc {B b : Nat} {l : List UInt8} {w : World} (h : Bd B b l w) (o : Obj) : Bd B b l (w.alloc o) := h.later ((Below.refl _ _).alloc (Nat.le_refl _) o)

set_option maxRecDepth 100000 in
set_option maxHeartbeats 1000000 in
theorem writeWords_any (B b : Nat) (l : List UInt8) (v : Value) (xs : List ByteArray) (w : World) (h : Bd B b l w) (hB : B ≤ w.heap.size) (hr : RowAt w v (strs xs)) (hne : xs ≠ []) (hn : xs.length ≤ 1048576) (hj : (jnL 32 xs).length ≤ 100000) (hl : l.length ≤ 100000) :
    Calls Tryd.prog 93 #[.pointer (some ⟨b, 0, none⟩), v] w fun e w' => e = .returned (.tuple #[]) ∧ Bd B b (l ++ jnL 32 xs ++ [10]) w' ∧ Below B w w' ∧ Oth b w w' := by
  have HJ := Lib.hid (joinSp_any w v xs hr hne hn (by omega))
  have HBd := Lib.hid h
  have hsz : (⟨(jnL 32 xs).toArray⟩ : ByteArray).size = (jnL 32 xs).length := size_mk _
  clear hr hne hn h
  generalize jnL 32 xs = T at *
  obtain ⟨s, hs⟩ : ∃ s : ByteArray, s = ⟨T.toArray⟩ := ⟨_, rfl⟩
  have hsd : s.data.toList = T := by rw [hs]
  rw [← hs] at HJ hsz
  clear hs
  go_enter Tryd.func93, Tryd.ntmps93
  go_wp2_with fail
  go_at_call 140
  refine HJ.out.mono ?_
  rintro e w1 ⟨rfl, hb1⟩
  have hB1 : B ≤ w1.heap.size := Nat.le_trans hB hb1.size
  have HW1 := Lib.hid (writeStr_any B b l s w1 (HBd.out.later hb1) (by omega) hB1)
  have HA1 : Hid (Below B w w1 ∧ Oth b w w1) := ⟨hb1.mono hB, Oth.of_below hb1⟩
  clear hb1 HBd
  go_wp2_with fail
  go_at_call 101
  refine HW1.out.mono ?_
  rintro e w2 ⟨rfl, h2, hb2, ho2⟩
  rw [hsd] at h2
  have hB2 : B ≤ w2.heap.size := Nat.le_trans hB1 hb2.size
  have HW2 := Lib.hid (writeStr_any B b (l ++ T) ⟨#[10]⟩ w2 h2 (by simp only [List.length_append]; have : (⟨#[10]⟩ : ByteArray).size = 1 := rfl; omega) hB2)
  have HA2 : Hid (Below B w w2 ∧ Oth b w w2) := ⟨HA1.out.1.trans hb2, HA1.out.2.trans ho2⟩
  clear h2 hb2 ho2 HA1
  go_wp2_with fail
  go_at_call 101
  refine HW2.out.mono ?_
  rintro e w3 ⟨rfl, h3, hb3, ho3⟩
  have HA3 : Hid (Bd B b (l ++ T ++ [10]) w3 ∧ Below B w w3 ∧ Oth b w w3) := ⟨h3, HA2.out.1.trans hb3, HA2.out.2.trans ho3⟩
  clear h3 hb3 ho3 HA2
  go_wp2_with fail
  go_end0
  exact ⟨rfl, HA3.out⟩

theorem row_lit (w : World) (vs : List ByteArray) (hv : vs.length ≤ 100) : RowAt (w.alloc (.cells (strs vs).toArray 9 (0, 0))) (.slice (some ⟨w.heap.size, 0, none⟩) vs.length vs.length) (strs vs) := by
  have h := World.ownsRow_lit (base := w.heap.size) (e := 9) (size := 1) w (strs vs).toArray vs.length (Nat.le_refl _) (by unfold maxLen; omega) (by simp [strs])
  simp only [List.toList_toArray] at h
  have := rowAt_own h
  simpa using this

set_option maxRecDepth 100000 in
set_option maxHeartbeats 16000000 in
theorem writeNetwork_any (B b : Nat) (L0 : List UInt8) (v : Value) (n : NetD) (w0 w : World) (hr : NetAt w0 v n) (hg : NetGood n) (hW : Below w0.heap.size w0 w) (hBB : w0.heap.size ≤ B) (h : Bd B b L0 w) (hB : B ≤ w.heap.size) (hL0 : L0.length ≤ 1000) :
    Calls Tryd.prog 88 #[.pointer (some ⟨b, 0, none⟩), v] w fun e w' => e = .returned (.tuple #[]) ∧ Bd B b (L0 ++ netTx n) w' ∧ Below B w w' ∧ Oth b w w' := by
  have hbl := h.lt
  obtain ⟨hsz, hls⟩ := good_sizes hg
  have hcnt := hg.1
  have HLe := Lib.hid (linesTx_len hg)
  have HSe := Lib.hid (stopsTx_len hg)
  have HSz := Lib.hid hsz
  have HLs := Lib.hid hls
  have HW := Lib.hid hW
  have HBd := Lib.hid h
  obtain ⟨a, c, a', c', rfl, -, -⟩ := net_open hr
  have HLn := Lib.hid (fun k hk => net_line hr k hk)
  obtain ⟨_, l', he, hss, -⟩ := hr
  simp at he
  obtain ⟨rfl, rfl⟩ := he
  obtain ⟨_, _, he, hac, ham, HN⟩ := strs_open hss
  simp at he
  obtain ⟨rfl, rfl⟩ := he
  have hn8 : n.stops.length ≤ 8 := hcnt.2.1
  have hl5 : n.lines.length ≤ 5 := hcnt.2.2.2
  have hww := hW.size
  clear hss hg hsz hls hcnt hW h
  go_enter Tryd.func88, Tryd.ntmps88
  go_wp2_with fail
  go_loopw [14] (fun q wr => ∃ k : Nat, k ≤ n.stops.length ∧ q = .int .i64 k ∧ Hid (Bd B b (L0 ++ stopsTx (n.stops.take k)) wr) ∧ Hid (wr.heap[w.heap.size]? = some (.cells #[.slice a n.stops.length c, .slice a' n.lines.length c'] 46 (0, 0))) ∧ Hid (Below B w wr ∧ Oth b w wr) ∧ w.heap.size < wr.heap.size)
    (fun q _ => n.stops.length - (RowKit.intOf q).toNat)
  case atStart =>
    refine ⟨0, Nat.zero_le _, rfl, ?_, heap_alloc_new w _, ⟨(Below.refl _ _).alloc hB _, Oth.of_below ((Below.refl _ _).alloc (Nat.le_refl _) _)⟩, by simp⟩
    show Bd _ _ _ _
    rw [List.take_zero, stopsTx_nil, List.append_nil]; exact HBd.out.alloc _
  case round =>
    obtain ⟨k, hk, rfl, HBk, HBox, HB, hzr⟩ := hrel
    by_cases hlt : k < n.stops.length
    · obtain ⟨nb, no, rfl, hnb, x0⟩ := HN.out k hlt
      have X0 := bkeep HW.out x0
      have X1 := bkeep (HW.out.trans (HB.out.1.mono hBB)) x0
      have hsucc := stopsTx_take n.stops k hlt
      have hle := HSe.out k
      have hle2 := HSe.out (k + 1)
      have hnbr : nb < wr.heap.size := by omega
      have hk1 : (k : Int) < (n.stops.length : Int) := by omega
      have HWw := Lib.hid (writeWords_any B b (L0 ++ stopsTx (n.stops.take k)) (.slice (some ⟨wr.heap.size, 0, none⟩) 2 2) [⟨#[115, 116, 111, 112]⟩, n.stops[k]] (wr.alloc (.cells #[.string ⟨#[115, 116, 111, 112]⟩, .string n.stops[k]] 9 (0, 0))) (HBk.out.alloc _) (by simp; omega) (row_lit wr [⟨#[115, 116, 111, 112]⟩, n.stops[k]] (by simp)) (by simp) (by simp) (by
        rw [jnL_cons, jnL_one]; rw [hsucc] at hle2; simp only [List.length_append, List.length_cons, List.length_nil] at *; omega) (by simp only [List.length_append]; omega))
      have HE : Hid (L0 ++ stopsTx (n.stops.take k) ++ jnL 32 [⟨#[115, 116, 111, 112]⟩, n.stops[k]] ++ [10] = L0 ++ stopsTx (n.stops.take (k + 1))) := by
        show _ = _
        rw [hsucc, jnL_cons, jnL_one]; simp
      clear x0 X0 hsucc hle hle2
      generalize n.stops[k] = nm at *
      go_wp2_with fail
      go_at_call 93
      refine HWw.out.mono ?_
      rintro e w2 ⟨rfl, h2, hb2, ho2⟩
      rw [HE.out] at h2
      have hz2 := hb2.size
      simp at hz2
      have HBk2 := Lib.hid h2
      have HBox2 : Hid (w2.heap[w.heap.size]? = some (.cells #[.slice (some ⟨nb, no, none⟩) n.stops.length c, .slice a' n.lines.length c'] 46 (0, 0))) := by
        show _ = _
        have e1 : (wr.alloc (.cells #[.string ⟨#[115, 116, 111, 112]⟩, .string nm] 9 (0, 0))).heap[w.heap.size]? = some (.cells #[.slice (some ⟨nb, no, none⟩) n.stops.length c, .slice a' n.lines.length c'] 46 (0, 0)) := (((Below.refl wr.heap.size wr).alloc (Nat.le_refl _) _).block _ hzr).trans HBox.out
        rw [ho2.cell e1 (by omega) (by decide)]; exact e1
      have HB2 : Hid (Below B w w2 ∧ Oth b w w2) := ⟨(HB.out.1.alloc (by omega) _).trans hb2, HB.out.2.trans ((Oth.of_below ((Below.refl _ _).alloc (Nat.le_refl _) _)).trans ho2)⟩
      have hz3 : w.heap.size < w2.heap.size := by omega
      clear h2 hb2 ho2 HBk HBox HB X1
      go_wp2_with fail
      go_roundw
      case rel => exact ⟨k + 1, by omega, by go_num, HBk2, HBox2, HB2, hz3⟩
      case measure => simp [RowKit.intOf]; omega
    · obtain rfl : k = n.stops.length := by omega
      have hlt1 : ¬ (n.stops.length : Int) < (n.stops.length : Int) := by omega
      have HT0 : Hid (L0 ++ stopsTx (n.stops.take n.stops.length) = L0 ++ stopsTx n.stops ++ linesTx n.stops (n.lines.take 0)) := by show _ = _; rw [List.take_length]; simp [linesTx]
      have HBk0 := HBk
      rw [HT0.out] at HBk0
      have b0 : wr.cell? ⟨w.heap.size, 0, none⟩ = some (.slice a n.stops.length c) := by rw [Lib.cell_of_heap HBox.out]; rfl
      have b1 : wr.cell? ⟨w.heap.size, 1, none⟩ = some (.slice a' n.lines.length c') := by rw [Lib.cell_of_heap HBox.out]; rfl
      clear HBk HT0
      go_wp2_with fail
      clear b0 b1
      obtain ⟨ws, rfl⟩ : ∃ ws : World, ws = wr := ⟨_, rfl⟩
      go_loopw [26] (fun q wr => ∃ k : Nat, k ≤ n.lines.length ∧ q = .int .i64 k ∧ Hid (Bd B b (L0 ++ stopsTx n.stops ++ linesTx n.stops (n.lines.take k)) wr) ∧ Hid (wr.heap[w.heap.size]? = some (.cells #[.slice a n.stops.length c, .slice a' n.lines.length c'] 46 (0, 0))) ∧ Hid (Below B w wr ∧ Oth b w wr) ∧ w.heap.size < wr.heap.size)
        (fun q _ => n.lines.length - (RowKit.intOf q).toNat)
      case atStart => exact ⟨0, Nat.zero_le _, rfl, HBk0, HBox, HB, hzr⟩
      case round =>
        clear HBk0 HBox HB hzr
        obtain ⟨k, hk, rfl, HBk, HBox, HB, hzr⟩ := hrel
        obtain ⟨wq, rfl⟩ : ∃ wq : World, wq = wr := ⟨_, rfl⟩
        by_cases hlt : k < n.lines.length
        · obtain ⟨lb, lo, s0, s1, r0, r1, rfl, hlb, x0, x1, x2, hrs, hrr⟩ := HLn.out k hlt
          have HBw : Hid (Below w0.heap.size w0 wq) := HW.out.trans (HB.out.1.mono hBB)
          have X0 := bkeep HBw.out x0
          have X1 := bkeep HBw.out x1
          have X2 := bkeep HBw.out x2
          obtain ⟨_, _, he, hqc, hqm, HQ⟩ := ints_open hrs
          simp at he
          obtain ⟨rfl, rfl⟩ := he
          obtain ⟨_, _, he, hrc, hrm, HR⟩ := ints_open hrr
          simp at he
          obtain ⟨rfl, rfl⟩ := he
          obtain ⟨hnm, hsl, hrl, hrb, hsin⟩ := HLs.out _ (List.getElem_mem hlt)
          have HIn := Lib.hid (fun p (hp : p < n.lines[k].stops.length) => stop_inL hsin hp)
          have HRb := Lib.hid hrb
          have HLt := Lib.hid (linesTx_take n.stops n.lines k hlt)
          have HAll := Lib.hid (lnWd_all n.stops n.lines[k] hrl)
          have hle := HLe.out k
          have hle1 := HLe.out (k + 1)
          have hsl1 := HSe.out n.stops.length
          rw [List.take_length] at hsl1
          have b0 : wq.cell? ⟨w.heap.size, 0, none⟩ = some (.slice a n.stops.length c) := by rw [Lib.cell_of_heap HBox.out]; rfl
          have b1 : wq.cell? ⟨w.heap.size, 1, none⟩ = some (.slice (some ⟨lb, lo, none⟩) n.lines.length c') := by rw [Lib.cell_of_heap HBox.out]; rfl
          have hk1 : (k : Int) < (n.lines.length : Int) := by omega
          have hlbr : lb < wq.heap.size := by omega
          obtain ⟨sb, so, rfl, hsb, v0⟩ := HQ.out 0 (by omega)
          obtain ⟨m, hm, hmn⟩ := HIn.out 0 (by omega)
          obtain ⟨nb, no, rfl, hnb, u0⟩ := HN.out m hmn
          have hst0 : n.lines[k].stops.getD 0 0 = (m : Int) := by rw [getD_in _ trivial (by omega), hm]
          rw [hm] at v0
          have V0 := acell (bkeep HBw.out v0) (.cells #[.string n.lines[k].name, .slice (some ⟨sb, so, none⟩) n.lines[k].stops.length s1, .slice r0 n.lines[k].runs.length r1] 130 (0, 0))
          have U0 := acell (bkeep HBw.out u0) (.cells #[.string n.lines[k].name, .slice (some ⟨sb, so, none⟩) n.lines[k].stops.length s1, .slice r0 n.lines[k].runs.length r1] 130 (0, 0))
          have hW0 : lnWd n.stops n.lines[k] 0 = [⟨#[108, 105, 110, 101]⟩, n.lines[k].name, n.stops[m]] := by
            show [_, _, _] = _
            rw [hst0, Int.toNat_natCast, getD_in _ trivial hmn]
          have HW0 := Lib.hid hW0
          have hm1 : (m : Int) < (n.stops.length : Int) := by omega
          have hs01 : (0 : Int) < (n.lines[k].stops.length : Int) := by omega
          clear hnm hrb hsin hrs hrr x0 x1 x2 hm v0 u0 hst0 hW0
          generalize hL : n.lines[k] = l at *
          clear hL
          have hs0n : 0 < l.stops.length := by omega
          have y0 := acell b0 (.cells #[.string l.name, .slice (some ⟨sb, so, none⟩) l.stops.length s1, .slice r0 l.runs.length r1] 130 (0, 0))
          have l0 : (wq.alloc (.cells #[.string l.name, .slice (some ⟨sb, so, none⟩) l.stops.length s1, .slice r0 l.runs.length r1] 130 (0, 0))).cell? ⟨wq.heap.size, 0, none⟩ = some (.string l.name) := by go_simp
          have l1 : (wq.alloc (.cells #[.string l.name, .slice (some ⟨sb, so, none⟩) l.stops.length s1, .slice r0 l.runs.length r1] 130 (0, 0))).cell? ⟨wq.heap.size, 1, none⟩ = some (.slice (some ⟨sb, so, none⟩) l.stops.length s1) := by go_simp
          have l2 : (wq.alloc (.cells #[.string l.name, .slice (some ⟨sb, so, none⟩) l.stops.length s1, .slice r0 l.runs.length r1] 130 (0, 0))).cell? ⟨wq.heap.size, 2, none⟩ = some (.slice r0 l.runs.length r1) := by go_simp
          have hNM : ∃ nm, n.stops[m] = nm := ⟨_, rfl⟩
          obtain ⟨nm, hnm⟩ := hNM
          rw [hnm] at U0 HW0
          go_wp2_with fail
          obtain ⟨wl, hwl⟩ : ∃ wl : World, wl = wq.alloc (.cells #[.string l.name, .slice (some ⟨sb, so, none⟩) l.stops.length s1, .slice r0 l.runs.length r1] 130 (0, 0)) := ⟨_, rfl⟩
          rw [← hwl] at y0 l0 l1 l2 V0 U0 ⊢
          have hzl : wq.heap.size + 1 ≤ wl.heap.size ∧ wl.heap.size ≤ wq.heap.size + 1 := by rw [hwl]; simp
          have HWl := Lib.hid hwl
          clear b0 b1 hwl
          refine wp_region_held_drew (S := (fun w' => w'.cell? ⟨w.heap.size, 0, none⟩ = some (.slice (some ⟨nb, no, none⟩) n.stops.length c) ∧ w'.cell? ⟨wq.heap.size, 0, none⟩ = some (.string l.name) ∧ w'.cell? ⟨wq.heap.size, 1, none⟩ = some (.slice (some ⟨sb, so, none⟩) l.stops.length s1) ∧ w'.cell? ⟨sb, so, none⟩ = some (.int .i64 (m : Int)) ∧ w'.cell? ⟨nb, no + m, none⟩ = some (.string nm))) (by kernel_rfl) ?_ (fun hHeld => ?_)
          · exact ⟨y0, l0, l1, V0, U0⟩
          refine wpAnyH_take (i := 0) (v := ?_) (by simp only [List.getElem?_toArray, List.getElem?_cons_zero]; rfl) (by kernel_rfl) (by kernel_rfl) (by kernel_rfl) (by exact fun _ _ _ h => h) (Or.inl ⟨by rfl, ?_⟩) (by assumption) ?_
          rotate_left
          · intro w' hSw; obtain ⟨e1, e2, e3, e4, e5⟩ := hSw
            go_simp; try with_reducible rfl
          try simp only [Act.put, List.setIfInBounds_toArray, List.set_cons_zero, List.set_cons_succ]
          refine wpAnyH_take (i := 1) (v := ?_) (by simp only [List.getElem?_toArray, List.getElem?_cons_succ, List.getElem?_cons_zero]; rfl) (by kernel_rfl) (by kernel_rfl) (by kernel_rfl) (by exact fun _ _ _ h => h) (Or.inl ⟨by rfl, ?_⟩) (by assumption) ?_
          rotate_left
          · intro w' hSw; obtain ⟨e1, e2, e3, e4, e5⟩ := hSw
            go_simp; try with_reducible rfl
          try simp only [Act.put, List.setIfInBounds_toArray, List.set_cons_zero, List.set_cons_succ]
          refine wpAnyH_take (i := 2) (v := ?_) (by simp only [List.getElem?_toArray, List.getElem?_cons_succ, List.getElem?_cons_zero]; rfl) (by kernel_rfl) (by kernel_rfl) (by kernel_rfl) (by exact fun _ _ _ h => h) (Or.inl ⟨by rfl, ?_⟩) (by assumption) ?_
          rotate_left
          · intro w' hSw; obtain ⟨e1, e2, e3, e4, e5⟩ := hSw
            go_simp; try with_reducible rfl
          try simp only [Act.put, List.setIfInBounds_toArray, List.set_cons_zero, List.set_cons_succ]
          refine wpAnyH_take (i := 3) (v := ?_) (by simp only [List.getElem?_toArray, List.getElem?_cons_succ, List.getElem?_cons_zero]; rfl) (by kernel_rfl) (by kernel_rfl) (by kernel_rfl) (by exact fun _ _ _ h => h) (Or.inl ⟨by rfl, ?_⟩) (by assumption) ?_
          rotate_left
          · intro w' hSw; obtain ⟨e1, e2, e3, e4, e5⟩ := hSw
            go_simp; try with_reducible rfl
          try simp only [Act.put, List.setIfInBounds_toArray, List.set_cons_zero, List.set_cons_succ]
          refine wpAnyH_take (i := 4) (v := ?_) (by simp only [List.getElem?_toArray, List.getElem?_cons_succ, List.getElem?_cons_zero]; rfl) (by kernel_rfl) (by kernel_rfl) (by kernel_rfl) (by exact fun _ _ _ h => h) (Or.inl ⟨by rfl, ?_⟩) (by assumption) ?_
          rotate_left
          · intro w' hSw; obtain ⟨e1, e2, e3, e4, e5⟩ := hSw
            go_simp; try with_reducible rfl
          try simp only [Act.put, List.setIfInBounds_toArray, List.set_cons_zero, List.set_cons_succ]
          refine wpAnyH_take (i := 5) (v := ?_) (by simp only [List.getElem?_toArray, List.getElem?_cons_succ, List.getElem?_cons_zero]; rfl) (by kernel_rfl) (by kernel_rfl) (by kernel_rfl) (by exact fun _ _ _ h => h) (Or.inl ⟨by rfl, ?_⟩) (by assumption) ?_
          rotate_left
          · intro w' hSw; obtain ⟨e1, e2, e3, e4, e5⟩ := hSw
            go_simp; try with_reducible rfl
          try simp only [Act.put, List.setIfInBounds_toArray, List.set_cons_zero, List.set_cons_succ]
          refine wpAnyH_take (i := 6) (v := ?_) (by simp only [List.getElem?_toArray, List.getElem?_cons_succ, List.getElem?_cons_zero]; rfl) (by kernel_rfl) (by kernel_rfl) (by kernel_rfl) (by exact fun _ _ _ h => h) (Or.inl ⟨by rfl, ?_⟩) (by assumption) ?_
          rotate_left
          · intro w' hSw; obtain ⟨e1, e2, e3, e4, e5⟩ := hSw
            go_simp; try with_reducible rfl
          try simp only [Act.put, List.setIfInBounds_toArray, List.set_cons_zero, List.set_cons_succ]
          refine wpAnyH_take (i := 7) (v := ?_) (by simp only [List.getElem?_toArray, List.getElem?_cons_succ, List.getElem?_cons_zero]; rfl) (by kernel_rfl) (by kernel_rfl) (by kernel_rfl) (by exact fun _ _ _ h => h) (Or.inl ⟨by rfl, ?_⟩) (by assumption) ?_
          rotate_left
          · intro w' hSw; obtain ⟨e1, e2, e3, e4, e5⟩ := hSw
            go_simp; try with_reducible rfl
          try simp only [Act.put, List.setIfInBounds_toArray, List.set_cons_zero, List.set_cons_succ]
          refine wpAnyH_take (i := 8) (v := ?_) (by simp only [List.getElem?_toArray, List.getElem?_cons_succ, List.getElem?_cons_zero]; rfl) (by kernel_rfl) (by kernel_rfl) (by kernel_rfl) (by exact fun _ _ _ h => h) (Or.inl ⟨by rfl, ?_⟩) (by assumption) ?_
          rotate_left
          · intro w' hSw; obtain ⟨e1, e2, e3, e4, e5⟩ := hSw
            go_simp; try with_reducible rfl
          try simp only [Act.put, List.setIfInBounds_toArray, List.set_cons_zero, List.set_cons_succ]
          refine wpAnyH_take (i := 9) (v := ?_) (by simp only [List.getElem?_toArray, List.getElem?_cons_succ, List.getElem?_cons_zero]; rfl) (by kernel_rfl) (by kernel_rfl) (by kernel_rfl) (by exact fun _ _ _ h => h) (Or.inl ⟨by rfl, ?_⟩) (by assumption) ?_
          rotate_left
          · intro w' hSw; obtain ⟨e1, e2, e3, e4, e5⟩ := hSw
            go_simp; try with_reducible rfl
          try simp only [Act.put, List.setIfInBounds_toArray, List.set_cons_zero, List.set_cons_succ]
          refine wpAnyH_ready (rs := [10]) (by kernel_rfl) (by simp) ?_
          refine AllReadyH.cons (by simp only [List.getElem?_toArray, List.getElem?_cons_succ, List.getElem?_cons_zero]; rfl) (fun K hK => ?_) AllReadyH.nil
          go_simp
          refine hK.out _ _ ?_ (fun hH9 => ?_)
          · exact ⟨acell y0 (.cells #[.string ⟨#[108, 105, 110, 101]⟩, .string l.name, .string nm] 9 (0, 0)), acell l0 (.cells #[.string ⟨#[108, 105, 110, 101]⟩, .string l.name, .string nm] 9 (0, 0)), acell l1 (.cells #[.string ⟨#[108, 105, 110, 101]⟩, .string l.name, .string nm] 9 (0, 0)), acell V0 (.cells #[.string ⟨#[108, 105, 110, 101]⟩, .string l.name, .string nm] 9 (0, 0)), acell U0 (.cells #[.string ⟨#[108, 105, 110, 101]⟩, .string l.name, .string nm] 9 (0, 0))⟩
          clear hK K
          try simp only [Act.put, List.setIfInBounds_toArray, List.set_cons_zero, List.set_cons_succ]
          refine wpAnyH_take (i := 11) (v := ?_) (by simp only [List.getElem?_toArray, List.getElem?_cons_succ, List.getElem?_cons_zero]; rfl) (by kernel_rfl) (by kernel_rfl) (by kernel_rfl) (by exact fun _ _ _ h => h) (Or.inl ⟨by rfl, ?_⟩) (by assumption) ?_
          rotate_left
          · intro w' hSw; go_simp; try with_reducible rfl
          try simp only [Act.put, List.setIfInBounds_toArray, List.set_cons_zero, List.set_cons_succ]
          refine wpAnyH_done (by kernel_rfl) ?_ _
          have hrs0 : (wl.alloc (.cells #[.string ⟨#[108, 105, 110, 101]⟩, .string l.name, .string nm] 9 (0, 0))).cell? ⟨wq.heap.size, 2, none⟩ = some (.slice r0 l.runs.length r1) := acell l2 _
          go_wp2_with fail
          obtain ⟨wo, hwo⟩ : ∃ wo : World, wo = (wl.alloc (.cells #[.string ⟨#[108, 105, 110, 101]⟩, .string l.name, .string nm] 9 (0, 0))).drew := ⟨_, rfl⟩
          have hzo : wl.heap.size + 1 ≤ wo.heap.size ∧ wo.heap.size ≤ wl.heap.size + 1 := by rw [hwo]; simp
          have HKo : Hid (∀ g, g < wq.heap.size → wo.heap[g]? = wq.heap[g]?) := fun g hg => by
            rw [hwo]
            refine (((Below.refl wl.heap.size wl).alloc (Nat.le_refl _) _).block g (by omega)).trans ?_
            rw [HWl.out]; exact ((Below.refl wq.heap.size wq).alloc (Nat.le_refl _) _).block g hg
          have HBo : Hid (Below B w wo) := by
            show Below _ _ _
            rw [hwo]
            refine Below.drew (Below.alloc ?_ (by omega) _)
            rw [HWl.out]; exact HB.out.1.alloc (by omega) _
          have HOwn0 : Hid (wo.ownsRow wl.heap.size 9 1 (.slice (some ⟨wl.heap.size, 0, none⟩) 3 3) 3 (strs (lnWd n.stops l 0))) := by
            show World.ownsRow _ _ _ _ _ _ _
            rw [HW0.out, hwo]
            have h := World.ownsRow_lit (base := wl.heap.size) (e := 9) (size := 1) wl #[.string ⟨#[108, 105, 110, 101]⟩, .string l.name, .string nm] 3 (Nat.le_refl _) (by decide) (by simp)
            have h2 : (wl.alloc (.cells #[.string ⟨#[108, 105, 110, 101]⟩, .string l.name, .string nm] 9 (0, 0))).ownsRow wl.heap.size 9 1 (.slice (some ⟨wl.heap.size, 0, none⟩) 3 3) 3 (strs [⟨#[108, 105, 110, 101]⟩, l.name, nm]) := by simpa [strs] using h
            exact h2
          have z0 : wo.cell? ⟨w.heap.size, 0, none⟩ = some (.slice (some ⟨nb, no, none⟩) n.stops.length c) := by rw [hwo]; exact acell y0 _
          have z1 : wo.cell? ⟨wq.heap.size, 1, none⟩ = some (.slice (some ⟨sb, so, none⟩) l.stops.length s1) := by rw [hwo]; exact acell l1 _
          rw [← hwo]
          clear hwo HWl y0 l0 l1 l2 V0 U0 hrs0 hHeld hH9
          clear hnm HW0
          go_loopw [8, 44] (fun o q wr => ∃ p : Nat, p ≤ l.runs.length ∧ q = .int .i64 p ∧ (∃ oa oc, o = .slice oa (3 + 2 * p) oc ∧ Hid (wr.ownsRow wl.heap.size 9 1 (.slice oa (3 + 2 * p) oc) (3 + 2 * p) (strs (lnWd n.stops l p))) ∧ Hid (∀ g, (Value.slice oa (3 + 2 * p) oc).ownBlock = some g → g = wl.heap.size ∨ wo.heap.size ≤ g)) ∧
              Hid (∀ g, g < wo.heap.size → g ≠ wl.heap.size → wr.heap[g]? = wo.heap[g]?) ∧ wo.heap.size ≤ wr.heap.size ∧ Hid (Below B w wr))
            (fun _ q _ => l.runs.length - (RowKit.intOf q).toNat)
          case atStart => exact ⟨0, Nat.zero_le _, rfl, ⟨_, _, rfl, HOwn0, fun g hg => by simp [Value.ownBlock] at hg; omega⟩, fun _ _ _ => rfl, Nat.le_refl _, HBo⟩
          case round =>
            clear HOwn0 HBo
            obtain ⟨p, hp, rfl, ⟨oa, oc, rfl, HOwn, HBlk⟩, HKp, hzi, HBi⟩ := hrel
            by_cases hpr : p < l.runs.length
            · have HBi0 : Hid (Below w0.heap.size w0 wr) := HW.out.trans (HBi.out.mono hBB)
              obtain ⟨rb, ro, rfl, hrb, t0⟩ := HR.out p hpr
              have T0 := bkeep HBi0.out t0
              obtain ⟨sb', so', he, hsb', v0⟩ := HQ.out (p + 1) (by omega)
              obtain ⟨rfl, rfl⟩ : sb = sb' ∧ so = so' := by simpa using he
              obtain ⟨m, hm, hmn⟩ := HIn.out (p + 1) (by omega)
              obtain ⟨nb', no', he', hnb', u0⟩ := HN.out m hmn
              obtain ⟨rfl, rfl⟩ : nb = nb' ∧ no = no' := by simpa using he'
              rw [hm] at v0
              have V0 := bkeep HBi0.out v0
              have U0 := bkeep HBi0.out u0
              have hkp := fun (q o : Nat) (h1 : q < wo.heap.size) (h2 : q ≠ wl.heap.size) => World.cell?_of_block (a := ⟨q, o, none⟩) (HKp.out q h1 h2)
              have Z0 := (hkp w.heap.size 0 (by omega) (by omega)).trans z0
              have Z1 := (hkp wq.heap.size 1 (by omega) (by omega)).trans z1
              have hrr := HRb.out _ (List.getElem_mem hpr)
              have HIt := Lib.hid (fun W => itoaS_any l.runs[p] W (by omega) (by omega))
              have hsucc := lnWd_succ n.stops l p
              rw [getD_in _ trivial hpr, getD_in _ trivial (show p + 1 < l.stops.length by omega), hm, Int.toNat_natCast, getD_in _ trivial hmn] at hsucc
              have HSucc := Lib.hid hsucc
              generalize n.stops[m] = nm at *
              generalize l.runs[p] = rn at *
              obtain ⟨R, hR⟩ : ∃ R : ByteArray, R = ⟨(Lib.itoa rn).toArray⟩ := ⟨_, rfl⟩
              rw [← hR] at HIt HSucc
              have hp1 : (p : Int) < (l.runs.length : Int) := by omega
              have hm2 : (m : Int) < (n.stops.length : Int) := by omega
              have hwp : IntKind.i64.wrap ((p : Int) + 1) = (p : Int) + 1 := IntWalk.i64_in _ (by omega)
              have hp2 : (p : Int) + 1 < (l.stops.length : Int) := by omega
              have hp3 : (0 : Int) ≤ (p : Int) + 1 := by omega
              have hp4 : ((p : Int) + 1).toNat = p + 1 := by omega
              clear hR hsucc hrr hm t0 v0 u0 hkp he he' z0 z1
              have z0 := Z0
              have z1 := Z1
              clear Z0 Z1
              go_wp2_with fail
              refine wp_region_held_drew (S := (fun w' => w'.cell? ⟨w.heap.size, 0, none⟩ = some (.slice (some ⟨nb, no, none⟩) n.stops.length c) ∧ w'.cell? ⟨wq.heap.size, 1, none⟩ = some (.slice (some ⟨sb, so, none⟩) l.stops.length s1) ∧ w'.cell? ⟨sb, so + (p + 1), none⟩ = some (.int .i64 (m : Int)) ∧ w'.cell? ⟨nb, no + m, none⟩ = some (.string nm))) (by kernel_rfl) ?_ (fun hHeld => ?_)
              · exact ⟨z0, z1, V0, U0⟩
              refine wpAnyH_take (i := 0) (v := ?_) (by simp only [List.getElem?_toArray, List.getElem?_cons_zero]; rfl) (by kernel_rfl) (by kernel_rfl) (by kernel_rfl) (by exact fun _ _ _ h => h) (Or.inl ⟨by rfl, ?_⟩) (by assumption) ?_
              rotate_left
              · intro w' hSw; obtain ⟨e1, e2, e3, e4⟩ := hSw
                go_simp; try with_reducible rfl
              try simp only [Act.put, List.setIfInBounds_toArray, List.set_cons_zero, List.set_cons_succ]
              refine wpAnyH_take (i := 1) (v := ?_) (by simp only [List.getElem?_toArray, List.getElem?_cons_succ, List.getElem?_cons_zero]; rfl) (by kernel_rfl) (by kernel_rfl) (by kernel_rfl) (by exact fun _ _ _ h => h) (Or.inl ⟨by rfl, ?_⟩) (by assumption) ?_
              rotate_left
              · intro w' hSw; obtain ⟨e1, e2, e3, e4⟩ := hSw
                go_simp; try with_reducible rfl
              try simp only [Act.put, List.setIfInBounds_toArray, List.set_cons_zero, List.set_cons_succ]
              refine wpAnyH_take (i := 3) (v := ?_) (by simp only [List.getElem?_toArray, List.getElem?_cons_succ, List.getElem?_cons_zero]; rfl) (by kernel_rfl) (by kernel_rfl) (by kernel_rfl) (by exact fun _ _ _ h => h) (Or.inl ⟨by rfl, ?_⟩) (by assumption) ?_
              rotate_left
              · intro w' hSw; obtain ⟨e1, e2, e3, e4⟩ := hSw
                go_simp; try with_reducible rfl
              try simp only [Act.put, List.setIfInBounds_toArray, List.set_cons_zero, List.set_cons_succ]
              refine wpAnyH_take (i := 4) (v := ?_) (by simp only [List.getElem?_toArray, List.getElem?_cons_succ, List.getElem?_cons_zero]; rfl) (by kernel_rfl) (by kernel_rfl) (by kernel_rfl) (by exact fun _ _ _ h => h) (Or.inl ⟨by rfl, ?_⟩) (by assumption) ?_
              rotate_left
              · intro w' hSw; obtain ⟨e1, e2, e3, e4⟩ := hSw
                go_simp; try with_reducible rfl
              try simp only [Act.put, List.setIfInBounds_toArray, List.set_cons_zero, List.set_cons_succ]
              refine wpAnyH_take (i := 5) (v := ?_) (by simp only [List.getElem?_toArray, List.getElem?_cons_succ, List.getElem?_cons_zero]; rfl) (by kernel_rfl) (by kernel_rfl) (by kernel_rfl) (by exact fun _ _ _ h => h) (Or.inl ⟨by rfl, ?_⟩) (by assumption) ?_
              rotate_left
              · intro w' hSw; obtain ⟨e1, e2, e3, e4⟩ := hSw
                go_simp; try with_reducible rfl
              try simp only [Act.put, List.setIfInBounds_toArray, List.set_cons_zero, List.set_cons_succ]
              refine wpAnyH_take (i := 6) (v := ?_) (by simp only [List.getElem?_toArray, List.getElem?_cons_succ, List.getElem?_cons_zero]; rfl) (by kernel_rfl) (by kernel_rfl) (by kernel_rfl) (by exact fun _ _ _ h => h) (Or.inl ⟨by rfl, ?_⟩) (by assumption) ?_
              rotate_left
              · intro w' hSw; obtain ⟨e1, e2, e3, e4⟩ := hSw
                go_simp; try with_reducible rfl
              try simp only [Act.put, List.setIfInBounds_toArray, List.set_cons_zero, List.set_cons_succ]
              refine wpAnyH_take (i := 7) (v := ?_) (by simp only [List.getElem?_toArray, List.getElem?_cons_succ, List.getElem?_cons_zero]; rfl) (by kernel_rfl) (by kernel_rfl) (by kernel_rfl) (by exact fun _ _ _ h => h) (Or.inl ⟨by rfl, ?_⟩) (by assumption) ?_
              rotate_left
              · intro w' hSw; obtain ⟨e1, e2, e3, e4⟩ := hSw
                go_simp; try with_reducible rfl
              try simp only [Act.put, List.setIfInBounds_toArray, List.set_cons_zero, List.set_cons_succ]
              refine wpAnyH_take (i := 8) (v := ?_) (by simp only [List.getElem?_toArray, List.getElem?_cons_succ, List.getElem?_cons_zero]; rfl) (by kernel_rfl) (by kernel_rfl) (by kernel_rfl) (by exact fun _ _ _ h => h) (Or.inl ⟨by rfl, ?_⟩) (by assumption) ?_
              rotate_left
              · intro w' hSw; obtain ⟨e1, e2, e3, e4⟩ := hSw
                go_simp; try with_reducible rfl
              try simp only [Act.put, List.setIfInBounds_toArray, List.set_cons_zero, List.set_cons_succ]
              refine wpAnyH_take (i := 9) (v := ?_) (by simp only [List.getElem?_toArray, List.getElem?_cons_succ, List.getElem?_cons_zero]; rfl) (by kernel_rfl) (by kernel_rfl) (by kernel_rfl) (by exact fun _ _ _ h => h) (Or.inl ⟨by rfl, ?_⟩) (by assumption) ?_
              rotate_left
              · intro w' hSw; obtain ⟨e1, e2, e3, e4⟩ := hSw
                go_simp; try with_reducible rfl
              try simp only [Act.put, List.setIfInBounds_toArray, List.set_cons_zero, List.set_cons_succ]
              refine wpAnyH_take (i := 10) (v := ?_) (by simp only [List.getElem?_toArray, List.getElem?_cons_succ, List.getElem?_cons_zero]; rfl) (by kernel_rfl) (by kernel_rfl) (by kernel_rfl) (by exact fun _ _ _ h => h) (Or.inl ⟨by rfl, ?_⟩) (by assumption) ?_
              rotate_left
              · intro w' hSw; obtain ⟨e1, e2, e3, e4⟩ := hSw
                go_simp; try with_reducible rfl
              try simp only [Act.put, List.setIfInBounds_toArray, List.set_cons_zero, List.set_cons_succ]
              refine wpAnyH_take (i := 11) (v := ?_) (by simp only [List.getElem?_toArray, List.getElem?_cons_succ, List.getElem?_cons_zero]; rfl) (by kernel_rfl) (by kernel_rfl) (by kernel_rfl) (by exact fun _ _ _ h => h) (Or.inl ⟨by rfl, ?_⟩) (by assumption) ?_
              rotate_left
              · intro w' hSw; obtain ⟨e1, e2, e3, e4⟩ := hSw
                go_simp; try with_reducible rfl
              try simp only [Act.put, List.setIfInBounds_toArray, List.set_cons_zero, List.set_cons_succ]
              refine wpAnyH_take (i := 12) (v := ?_) (by simp only [List.getElem?_toArray, List.getElem?_cons_succ, List.getElem?_cons_zero]; rfl) (by kernel_rfl) (by kernel_rfl) (by kernel_rfl) (by exact fun _ _ _ h => h) (Or.inl ⟨by rfl, ?_⟩) (by assumption) ?_
              rotate_left
              · intro w' hSw; obtain ⟨e1, e2, e3, e4⟩ := hSw
                go_simp; try with_reducible rfl
              try simp only [Act.put, List.setIfInBounds_toArray, List.set_cons_zero, List.set_cons_succ]
              refine wpAnyH_ready (rs := [2]) (by kernel_rfl) (by simp) ?_
              refine AllReadyH.cons (by simp only [List.getElem?_toArray, List.getElem?_cons_succ, List.getElem?_cons_zero]; rfl) (fun K hK => ?_) AllReadyH.nil
              go_simp
              go_at_call 44
              refine (HIt.out _).mono ?_
              rintro e w' ⟨rfl, rfl⟩
              go_wp2_with fail
              refine hK.out _ _ ?_ (fun hH5 => ?_)
              · exact hHeld
              clear hK K
              try simp only [Act.put, List.setIfInBounds_toArray, List.set_cons_zero, List.set_cons_succ]
              refine wpAnyH_ready (rs := [13]) (by kernel_rfl) (by simp) ?_
              refine AllReadyH.cons (by simp only [List.getElem?_toArray, List.getElem?_cons_succ, List.getElem?_cons_zero]; rfl) (fun K hK => ?_) AllReadyH.nil
              go_simp
              refine hK.out _ _ ?_ (fun hH6 => ?_)
              · exact ⟨acell z0 (.cells #[.string R, .string nm] 9 (0, 0)), acell z1 (.cells #[.string R, .string nm] 9 (0, 0)), acell V0 (.cells #[.string R, .string nm] 9 (0, 0)), acell U0 (.cells #[.string R, .string nm] 9 (0, 0))⟩
              clear hK K
              try simp only [Act.put, List.setIfInBounds_toArray, List.set_cons_zero, List.set_cons_succ]
              have hO5 : ((wr.alloc (.cells #[.string R, .string nm] 9 (0, 0))).drew).ownsRow (wl.heap.size) 9 1 (.slice oa (3 + 2 * p) oc) (3 + 2 * p) (strs (lnWd n.stops l p)) := HOwn.out.alloc _
              obtain ⟨g6, k6, w6, hrun6, hown6, hgr6, hat6, hlt6⟩ := run_append_strs ((wr.alloc (.cells #[.string R, .string nm] 9 (0, 0))).drew) (wl.heap.size) (3 + 2 * p) (.slice oa (3 + 2 * p) oc) (lnWd n.stops l p) [R, nm] hO5 wr.heap.size 2 2 rfl (by omega) (fun j u hu => by
                have hj : j < 2 := by have := (List.getElem?_eq_some_iff.1 hu).1; simpa [strs] using this
                obtain rfl | rfl : j = 0 ∨ j = 1 := by omega
                · simp [strs] at hu; subst hu; go_simp
                · simp [strs] at hu; subst hu; go_simp) (by omega) (by simp; omega)
              have hne6 : ∀ q, q < wo.heap.size → q ≠ wl.heap.size → some q ≠ (Value.slice oa (3 + 2 * p) oc).ownBlock := fun q hq h3 e => by rcases HBlk.out q e.symm with h | h <;> omega
              have hz6 := hgr6.size
              refine wpAnyH_ready (rs := [14]) (by kernel_rfl) (by simp) ?_
              refine AllReadyH.cons (by simp only [List.getElem?_toArray, List.getElem?_cons_succ, List.getElem?_cons_zero]; rfl) (fun K hK => ?_) AllReadyH.nil
              refine step_append_run rfl (.tmp 49) (.tmp 62) 36 rfl rfl rfl hrun6 ?_
              refine hK.out _ _ ?_ (fun hH7 => ?_)
              · exact ⟨hgr6.cell hH6.1 (hne6 _ (by dsimp only; omega) (by dsimp only; omega)), hgr6.cell hH6.2.1 (hne6 _ (by dsimp only; omega) (by dsimp only; omega)), hgr6.cell hH6.2.2.1 (hne6 _ (by dsimp only; omega) (by dsimp only; omega)), hgr6.cell hH6.2.2.2 (hne6 _ (by dsimp only; omega) (by dsimp only; omega))⟩
              clear hK K
              try simp only [Act.put, List.setIfInBounds_toArray, List.set_cons_zero, List.set_cons_succ]
              refine wpAnyH_take (i := 15) (v := ?_) (by simp only [List.getElem?_toArray, List.getElem?_cons_succ, List.getElem?_cons_zero]; rfl) (by kernel_rfl) (by kernel_rfl) (by kernel_rfl) (by exact fun _ _ _ h => h) (Or.inl ⟨by rfl, ?_⟩) (by assumption) ?_
              rotate_left
              · intro w' hSw; go_simp; try with_reducible rfl
              try simp only [Act.put, List.setIfInBounds_toArray, List.set_cons_zero, List.set_cons_succ]
              refine wpAnyH_done (by kernel_rfl) ?_ _
              have HRel : Hid (∀ g, (Value.slice (some ⟨g6, 0, none⟩) (3 + 2 * p + 2) k6).ownBlock = some g → g = wl.heap.size ∨ wo.heap.size ≤ g) := fun g hg => by
                simp [Value.ownBlock] at hg
                subst hg
                rcases hat6 with h | h
                · exact HBlk.out _ h
                · right; simp at h; omega
              have HRel2 : Hid (∀ g, g < wo.heap.size → g ≠ wl.heap.size → w6.heap[g]? = wo.heap[g]?) := fun g h1 h2 => by
                rw [hgr6.block g (by simp; omega) (hne6 g h1 h2)]
                exact (((Below.refl wr.heap.size wr).alloc (Nat.le_refl _) (.cells #[.string R, .string nm] 9 (0, 0))).block g (by omega)).trans (HKp.out g h1 h2)
              have HRel3 : Hid (w6.ownsRow (wl.heap.size) 9 1 (.slice (some ⟨g6, 0, none⟩) (3 + 2 * (p + 1)) k6) (3 + 2 * (p + 1)) (strs (lnWd n.stops l (p + 1)))) := by
                show World.ownsRow _ _ _ _ _ _ _
                rw [HSucc.out]; exact hown6
              have hz7 : wo.heap.size ≤ w6.heap.size := by simp at hz6; omega
              have HRel4 : Hid (Below B w w6) := ((HBi.out.alloc (by omega) (.cells #[.string R, .string nm] 9 (0, 0))).drew).grown hgr6 (by simp; omega) (fun g hg => by rcases HBlk.out g hg with h | h <;> omega)
              clear hgr6 hown6 hH5 hH6 hH7 hHeld hO5 hrun6 hat6 hne6 HKp HBlk HOwn HBi z0 z1 V0 U0
              go_wp2_with fail
              go_roundw
              case rel => exact ⟨p + 1, by omega, by go_num, ⟨_, _, rfl, HRel3, HRel⟩, HRel2, hz7, HRel4⟩
              case measure => simp [RowKit.intOf]; omega
            · obtain rfl : p = l.runs.length := by omega
              have hlt1 : ¬ (l.runs.length : Int) < (l.runs.length : Int) := by omega
              have HKr : Hid (∀ g, g < wq.heap.size → wr.heap[g]? = wq.heap[g]?) := fun g hg => (HKp.out g (by omega) (by omega)).trans (HKo.out g hg)
              have hjl : (jnL 32 (lnWd n.stops l l.runs.length)).length ≤ 1000 := by
                have h1 := congrArg List.length HAll.out
                have h2 := congrArg List.length HLt.out
                simp only [List.length_append, List.length_cons, List.length_nil] at h1 h2
                omega
              have HWw := Lib.hid (writeWords_any B b (L0 ++ stopsTx n.stops ++ linesTx n.stops (n.lines.take k)) _ (lnWd n.stops l l.runs.length) wr (HBk.out.keep HKr.out) (by omega) (rowAt_own HOwn.out) (lnWd_ne _ _ _) (by rw [lnWd_len]; omega) (by omega) (by simp only [List.length_append]; omega))
              have HE : Hid (L0 ++ stopsTx n.stops ++ linesTx n.stops (n.lines.take k) ++ jnL 32 (lnWd n.stops l l.runs.length) ++ [10] = L0 ++ stopsTx n.stops ++ linesTx n.stops (n.lines.take (k + 1))) := by
                show _ = _
                rw [HLt.out, ← HAll.out]; simp
              have HBoxi : Hid (wr.heap[w.heap.size]? = some (.cells #[.slice (some ⟨nb, no, none⟩) n.stops.length c, .slice (some ⟨lb, lo, none⟩) n.lines.length c'] 46 (0, 0))) := (HKr.out _ hzr).trans HBox.out
              clear hjl z0 z1
              go_wp2_with fail
              go_at_call 93
              refine HWw.out.mono ?_
              rintro e w2 ⟨rfl, h2, hb2, ho2⟩
              rw [HE.out] at h2
              have hz2 := hb2.size
              have HBk2 := Lib.hid h2
              have HBox2 : Hid (w2.heap[w.heap.size]? = some (.cells #[.slice (some ⟨nb, no, none⟩) n.stops.length c, .slice (some ⟨lb, lo, none⟩) n.lines.length c'] 46 (0, 0))) := by
                show _ = _
                rw [ho2.cell HBoxi.out (by omega) (by decide)]; exact HBoxi.out
              have HB2 : Hid (Below B w w2 ∧ Oth b w w2) := ⟨HBi.out.trans hb2, HB.out.2.trans ((Oth.of_keep HKr.out).trans ho2)⟩
              have hz3 : w.heap.size < w2.heap.size := by omega
              clear h2 hb2 ho2 HBk HBox HB HOwn HBlk HKp
              go_wp2_with fail
              exact ⟨⟨k + 1, by omega, by go_num, HBk2, HBox2, HB2, hz3⟩, by simp [RowKit.intOf]; omega⟩
        · obtain rfl : k = n.lines.length := by omega
          have hlt1 : ¬ (n.lines.length : Int) < (n.lines.length : Int) := by omega
          have HT : Hid (L0 ++ stopsTx n.stops ++ linesTx n.stops (n.lines.take n.lines.length) = L0 ++ netTx n) := by show _ = _; rw [List.take_length]; simp [netTx]
          rw [HT.out] at HBk
          go_wp2_with fail
          go_end0
          exact ⟨rfl, HBk.out, HB.out⟩
end Go.Proofs.YtffcgblionlhhaaDoor
