/-
  CONTRACTS of the draws of lists of spans (spec.l1Cur.spans, spec.DrawFreeSpans): some spans, not many, in a row of the call's own.
-/
import Derived.Test.YtenbplehiaofmaaDrawSpan
namespace Go.Proofs.Ytenbplehiaofmaa
open Go.RowKit
set_option linter.unusedVariables false

def lenOf : Value → Nat
  | .slice _ n _ => n
  | _ => 0
/-- a new cursor over a slice -/
theorem build_cur (a : Option Addr) (n c : Nat) (w : World) : (Instr.build 59 #[(0, .slice a n c)]).run Try.prog w = .ok (.agg #[.slice a n c, .int .i64 0, .int .u64 0]) w :=
  run_build w 59 #[(0, .slice a n c)] #[.slice a n c, .int .i64 0, .int .u64 0] (by kernel_rfl)
theorem codeAt_slice {w : World} {v : Value} (h : CodeAt w v) : ∃ a n c, v = .slice a n c := by
  obtain ⟨l, a, c, hv, _⟩ := h; exact ⟨a, _, c, hv⟩
theorem own_cur {w w1 : World} {b n : Nat} {v : Value} {B : Nat} {e : TypeId} {sz : Nat} {vl : Value} {m : Nat} {xs : List Value} (h : w.ownsRow B e sz vl m xs) (hB : b < B) (hp : CurPost w b n v w1) : w1.ownsRow B e sz vl m xs :=
  own_block h (fun g hg => hp.2.2.block g (h.lt g hg).2 (by have := (h.lt g hg).1; simp; omega))
/-- the cursor's words behind an append to a row of the call's own -/
theorem cur_grown {w w1 w2 : World} {b n : Nat} {v : Value} {r : Option Nat} (hv : CodeOff w b v) (hb : b < w.heap.size) (h : CurPost w b n v w1) (hg : w1.grownBy w2 r) (hr : ∀ g, r = some g → w.heap.size ≤ g) : CurPost w b n v w2 := by
  have hgg : w.grownBy w2 (some b) := ⟨hg.os.trans h.2.2.os, hg.tape.trans h.2.2.tape, hg.output.trans h.2.2.output, Nat.le_trans h.2.2.size hg.size, fun k hk hne => (hg.block k (Nat.lt_of_lt_of_le hk h.2.2.size) (fun e => by have := hr k e.symm; omega)).trans (h.2.2.block k hk hne)⟩
  obtain ⟨k, s, h1, h2⟩ := h.1
  exact ⟨⟨k, s, (hg.block b (Nat.lt_of_lt_of_le hb h.2.2.size) (fun e => by have := hr b e.symm; omega)).trans h1, h2⟩, codeOff_grown hv hgg, hgg⟩

set_option maxRecDepth 100000 in
set_option maxHeartbeats 4000000 in
theorem spans_any (b n : Nat) (v : Value) (w : World) (hc : CurAt w b v n) (hv : CodeOff w b v) (hn : n ≤ 500000) :
    Calls Try.prog 41 #[.pointer (some ⟨b, 0, none⟩)] w fun e w' => (∃ (xs : List SpanD) (z : Value), xs.length ≤ 30 ∧ e = .returned z ∧ w'.ownsRow w.heap.size 26 2 z xs.length (spanC xs)) ∧ CurPost w b (n + 400) v w' := by
  obtain ⟨i0, hi, hz0, hz1, hz2⟩ := info_parts infoSpan
  have hlt := curAt_lt hc
  have HV := Lib.hid hv
  have HP0 := Lib.hid (curPost_start hc hv (.cells #[] 26))
  have H1 := Lib.hid (pick_any b n v 7 _ HP0.out.1 HP0.out.2.1 (by omega) (by omega))
  have HM0 := Lib.hid (World.ownsRow_made (base := w.heap.size) (size := 2) (e := 26) w #[] 0 (Nat.le_refl _) (by decide) rfl)
  clear hc hv
  go_enter Try.func41, Try.ntmps41
  go_wp2_with fail
  go_at_call 60
  refine H1.out.mono ?_
  rintro e w1 ⟨⟨r, rfl, r0, r1⟩, hp⟩
  have hr := r1 (by omega)
  have HM1 : Hid (w1.ownsRow w.heap.size 26 2 (.slice (some ⟨w.heap.size, 0, none⟩) 0 0) 0 (spanC [])) := own_block HM0.out (fun g hg => hp.2.2.block g (HM0.out.lt g hg).2 (by have := (HM0.out.lt g hg).1; simp; omega))
  have HP1 := Lib.hid (curPost_trans HP0.out hp)
  clear hp H1 r1 HM0 HP0
  go_wp2_with fail
  go_loopw [3, 4] (fun lv i wr => ∃ (j : Int) (m : Nat) (la : Option Addr) (lc : Nat) (xs : List SpanD), 0 ≤ j ∧ j + (m : Int) ≤ 6 ∧ i = .int .i64 j ∧ lv = .slice la m lc ∧ Hid (wr.ownsRow w.heap.size 26 2 (.slice la m lc) m (spanC xs)) ∧ Hid (CurPost w b (n + 2 + 12 * m) v wr)) (fun _ i _ => (RowKit.intOf i).toNat)
  case atStart => exact ⟨r, 0, _, 0, [], r0, by omega, rfl, rfl, HM1, HP1⟩
  case round =>
    clear HM1 HP1
    obtain ⟨j, m, la, lc, xs, hj0, hj6, rfl, rfl, HOwn, HP⟩ := hrel
    have hlr : w.heap.size ≤ wr.heap.size := HP.out.2.2.size
    by_cases hj : 0 < j
    · have HS := Lib.hid (span_any b (n + 2 + 12 * m) v wr HP.out.1 HP.out.2.1 (by omega))
      go_wp2_with fail
      go_at_call 43
      refine HS.out.mono ?_
      rintro e w3 ⟨⟨s, rfl⟩, hp⟩
      obtain ⟨s1, s2⟩ := s
      have HOw3 : Hid (w3.ownsRow w.heap.size 26 2 (.slice la m lc) m (spanC xs)) := own_block HOwn.out (fun g hg => hp.2.2.block g (HOwn.out.lt g hg).2 (by have := (HOwn.out.lt g hg).1; simp; omega))
      have HP3 := Lib.hid (curPost_trans HP.out hp)
      have hsz3 : w.heap.size ≤ w3.heap.size := HP3.out.2.2.size
      clear hp HS HOwn HP
      go_wp2_with (at_builtin; refine wpList_append_own _ rfl _ _ 24 rfl w.heap.size 26 i0 (.agg #[.int .i64 0, .int .i64 0]) 2 16 Try.underlying24 hi hz0 hz1 hz2 rfl (by decide) _ _ _ rfl (HOw3.out.alloc _) ⟨w3.heap.size, 0, none⟩ 1 1 (spanC [(s1, s2)]) rfl rfl ?c1 ?c2 ?c3 ?c4 ?c5 ?_)
      case c1 => exact spanC_one _ _ _
      case c2 => exact spanC_cells _
      case c3 => unfold maxLen; omega
      case c4 => omega
      case c5 => simp; omega
      intro v' w5 hown' hgrow _
      rw [← spanC_append] at hown'
      obtain ⟨a', c', rfl⟩ := own_shape hown'
      have HP5 : Hid (CurPost w b (n + 2 + 12 * (m + 1)) v w5) := curPost_mono (cur_grown HV.out hlt (curPost_alloc HP3.out _) hgrow (fun g hg => (HOw3.out.lt g hg).1)) (by omega)
      have HR := Lib.hid hown'
      clear hown' hgrow HOw3 HP3
      go_wp2_with fail
      go_roundw
      case rel => exact ⟨j - 1, m + 1, a', c', xs ++ [(s1, s2)], by omega, by omega, by go_num, rfl, HR, HP5⟩
      case measure => simp [RowKit.intOf]; omega
    · have HO := Lib.hid (one_any b (n + 2 + 12 * m) v 24 wr HP.out.1 HP.out.2.1 (by omega) (by omega))
      have hm6 : m ≤ 6 := by omega
      go_wp2_with fail
      go_at_call 42
      refine HO.out.mono ?_
      rintro e w3 ⟨⟨r, rfl⟩, hp⟩
      have HOw3 : Hid (w3.ownsRow w.heap.size 26 2 (.slice la m lc) m (spanC xs)) := own_block HOwn.out (fun g hg => hp.2.2.block g (HOwn.out.lt g hg).2 (by have := (HOwn.out.lt g hg).1; simp; omega))
      have HP3 : Hid (CurPost w b (n + 80) v w3) := curPost_mono (curPost_trans HP.out hp) (by omega)
      have HLen : Hid (m = xs.length) := by show _ = _; have := HOw3.out.1; rw [spanC_len] at this; omega
      clear hp HO HOwn HP
      cases r
      · go_wp2_with fail
        go_ret
        exact ⟨⟨xs, _, by rw [← HLen.out]; omega, rfl, by rw [← HLen.out]; exact HOw3.out⟩, curPost_mono HP3.out (by omega)⟩
      · clear HLen
        go_wp2_with fail
        go_loopw [3] (fun lv wr => ∃ (m : Nat) (la : Option Addr) (lc : Nat) (xs : List SpanD), m ≤ 21 ∧ lv = .slice la m lc ∧ Hid (wr.ownsRow w.heap.size 26 2 (.slice la m lc) m (spanC xs)) ∧ Hid (CurPost w b (n + 80 + 2 * m) v wr)) (fun lv _ => 22 - lenOf lv)
        case atStart => exact ⟨m, la, lc, xs, by omega, rfl, HOw3, curPost_mono HP3.out (by omega)⟩
        case round =>
          clear HOw3 HP3 hm6
          obtain ⟨m, la, lc, xs, hm, rfl, HOwn, HP⟩ := hrel
          have HS := Lib.hid (pick_any b (n + 80 + 2 * m) v 2 wr HP.out.1 HP.out.2.1 (by omega) (by omega))
          go_wp2_with fail
          go_at_call 60
          refine HS.out.mono ?_
          rintro e w3 ⟨⟨r, rfl, r0, r1⟩, hp⟩
          have hr2 := r1 (by omega)
          have HOw3 : Hid (w3.ownsRow w.heap.size 26 2 (.slice la m lc) m (spanC xs)) := own_block HOwn.out (fun g hg => hp.2.2.block g (HOwn.out.lt g hg).2 (by have := (HOwn.out.lt g hg).1; simp; omega))
          have HP3 : Hid (CurPost w b (n + 80 + 2 * (m + 1)) v w3) := curPost_mono (curPost_trans HP.out hp) (by omega)
          have hsz3 : w.heap.size ≤ w3.heap.size := HP3.out.2.2.size
          clear hp HS HOwn HP r1
          by_cases hm2 : (m : Int) < 20 + r
          · go_wp2_with (at_builtin; refine wpList_append_own _ rfl _ _ 24 rfl w.heap.size 26 i0 (.agg #[.int .i64 0, .int .i64 0]) 2 16 Try.underlying24 hi hz0 hz1 hz2 rfl (by decide) _ _ _ rfl (HOw3.out.alloc _) ⟨w3.heap.size, 0, none⟩ 1 1 (spanC [(10 * (m : Int), 10 * (m : Int) + 5)]) rfl rfl ?c1 ?c2 ?c3 ?c4 ?c5 ?_)
            case c1 => exact spanC_one _ _ _
            case c2 => exact spanC_cells _
            case c3 => unfold maxLen; omega
            case c4 => omega
            case c5 => simp; omega
            intro v' w5 hown' hgrow _
            rw [← spanC_append] at hown'
            obtain ⟨a', c', rfl⟩ := own_shape hown'
            have HP5 : Hid (CurPost w b (n + 80 + 2 * (m + 1)) v w5) := cur_grown HV.out hlt (curPost_alloc HP3.out _) hgrow (fun g hg => (HOw3.out.lt g hg).1)
            have HR := Lib.hid hown'
            clear hown' hgrow HOw3 HP3
            go_wp2_with fail
            exact ⟨⟨m + 1, a', c', xs ++ [(10 * (m : Int), 10 * (m : Int) + 5)], by omega, rfl, HR, HP5⟩, by simp [lenOf]; omega⟩
          · have HLen : Hid (m = xs.length) := by show _ = _; have := HOw3.out.1; rw [spanC_len] at this; omega
            go_wp2_with fail
            go_ret
            exact ⟨⟨xs, _, by rw [← HLen.out]; omega, rfl, by rw [← HLen.out]; exact HOw3.out⟩, curPost_mono HP3.out (by omega)⟩

end Go.Proofs.Ytenbplehiaofmaa
