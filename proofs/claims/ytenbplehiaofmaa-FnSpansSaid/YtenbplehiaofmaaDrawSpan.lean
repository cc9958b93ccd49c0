/-
  CONTRACTS of the draws of spans (spec.l1Cur.time, span): some numbers; nothing but the cursor's own block turns.
-/
import Derived.Test.YtenbplehiaofmaaCurAmong
import Derived.Test.YtenbplehiaofmaaSpanX
namespace Go.Proofs.Ytenbplehiaofmaa
open Go.RowKit
set_option linter.unusedVariables false

def timesL : List Int := [0, 1799, 1800, -1, 1440, 1439]
theorem timesL_in : ∀ x ∈ timesL, -1 ≤ x ∧ x ≤ 1800 := by decide

theorem time_any (b n : Nat) (v : Value) (w : World) (hc : CurAt w b v n) (hv : CodeOff w b v) (hn : n ≤ 800000) :
    Calls Try.prog 61 #[.pointer (some ⟨b, 0, none⟩)] w fun e w' => (∃ r : Int, e = .returned (.int .i64 r) ∧ -1 ≤ r ∧ r ≤ 1800) ∧ CurPost w b (n + 4) v w' := by
  have H1 := Lib.hid (one_any b n v 16 w hc hv (by omega) (by omega))
  clear hc hv
  go_enter Try.func61, Try.ntmps61
  go_wp2_with fail
  go_at_call 42
  refine H1.out.mono ?_
  rintro e w1 ⟨⟨r, rfl⟩, hp⟩
  have HP := Lib.hid hp
  have hlt := curAt_lt hp.1
  have H2 := Lib.hid (among_any b (n + 2) v (.slice (some ⟨w1.heap.size, 0, none⟩) 6 6) timesL (w1.alloc (.cells (timesL.map (Value.int .i64)).toArray 3)) (curAt_alloc hp.1 _) (codeOff_grown hp.2.1 grown_alloc) (by omega)
    (listOff_built w1 b (timesL.map (Value.int .i64)) 3 hlt (by decide)) (by decide) (by decide) (fun z hz => by have := timesL_in z hz; omega))
  have H3 := Lib.hid (pick_any b (n + 2) v 240 w1 hp.1 hp.2.1 (by omega) (by omega))
  clear hp H1 hlt
  cases r
  · go_wp2_with fail
    go_at_call 60
    refine H3.out.mono ?_
    rintro e w2 ⟨⟨x, rfl, x0, x1⟩, hq⟩
    have hx := x1 (by omega)
    have HQ := Lib.hid (curPost_trans HP.out hq)
    clear hq x1
    go_wp2_with fail
    go_ret
    exact ⟨⟨_, rfl, by omega, by omega⟩, HQ.out⟩
  · go_wp2_with fail
    go_at_call 69
    refine H2.out.mono ?_
    rintro e w2 ⟨⟨x, hx, rfl⟩, h1, h2, h3⟩
    have hz := timesL_in x hx
    have HQ : Hid (CurPost w b (n + 2 + 2) v w2) := curPost_trans HP.out ⟨h1, h2, grown_trans grown_alloc h3⟩
    clear hx h1 h2 h3
    go_wp2_with fail
    go_ret
    exact ⟨⟨x, rfl, hz.1, hz.2⟩, HQ.out⟩

theorem box_curPost {w w1 : World} {b n : Nat} {v : Value} {c : Nat} {s : SpanD} (h : SpanBox w c s) (hne : c ≠ b) (hp : CurPost w b n v w1) : SpanBox w1 c s :=
  ⟨hp.2.2.cell h.c0 (by simpa using hne), hp.2.2.cell h.c1 (by simpa using hne), fun o => by rw [World.frozen?_of_block (w := w) (a := ⟨c, o, none⟩) (hp.2.2.block c h.lt (by simpa using hne))]; exact h.fz o⟩
theorem curPost_alloc {w w1 : World} {b n : Nat} {v : Value} (h : CurPost w b n v w1) (o : Obj) : CurPost w b n v (w1.alloc o) := ⟨curAt_alloc h.1 o, codeOff_grown h.2.1 grown_alloc, grown_trans h.2.2 grown_alloc⟩
theorem curPost_start {w : World} {b n : Nat} {v : Value} (hc : CurAt w b v n) (hv : CodeOff w b v) (o : Obj) : CurPost w b n v (w.alloc o) := ⟨curAt_alloc hc o, codeOff_grown hv grown_alloc, grown_alloc⟩

theorem curPost_set {w w1 : World} {b n c o : Nat} {v u : Value} (hv : CodeOff w b v) (h : CurPost w b n v w1) (hc : w.heap.size ≤ c) (hbc : c ≠ b) : CurPost w b n v (w1.setCell ⟨c, o, none⟩ u) := by
  have hg : w.grownBy (w1.setCell ⟨c, o, none⟩ u) (some b) := ⟨h.2.2.os, h.2.2.tape, h.2.2.output, by have := h.2.2.size; simp [World.setCell]; exact this, fun k hk hr => (Below.heap_setCell _ _ _ _ (show k ≠ c by omega)).trans (h.2.2.block k hk hr)⟩
  obtain ⟨k, s, h1, h2⟩ := h.1
  exact ⟨⟨k, s, (Below.heap_setCell _ _ _ _ (show b ≠ c from fun e => hbc e.symm)).trans h1, h2⟩, codeOff_grown hv hg, hg⟩
theorem curPost_mono {w w1 : World} {b n m : Nat} {v : Value} (h : CurPost w b n v w1) (hn : n ≤ m) : CurPost w b m v w1 := ⟨curAt_mono h.1 hn, h.2⟩

set_option maxHeartbeats 2000000 in
theorem span_any (b n : Nat) (v : Value) (w : World) (hc : CurAt w b v n) (hv : CodeOff w b v) (hn : n ≤ 700000) :
    Calls Try.prog 43 #[.pointer (some ⟨b, 0, none⟩)] w fun e w' => (∃ s : SpanD, e = .returned (.agg #[.int .i64 s.1, .int .i64 s.2])) ∧ CurPost w b (n + 12) v w' := by
  have HP0 := Lib.hid (curPost_start hc hv (.cells #[.int .i64 0, .int .i64 0] 26))
  have H1 := Lib.hid (time_any b n v _ HP0.out.1 HP0.out.2.1 (by omega))
  have HR := Lib.hid (SpanBox.new w (0, 0) 26)
  have hlt := curAt_lt hc
  have HV := Lib.hid hv
  clear hc hv
  go_enter Try.func43, Try.ntmps43
  go_wp2_with fail
  go_at_call 61
  refine H1.out.mono ?_
  rintro e w1 ⟨⟨x, rfl, hx0, hx1⟩, hp⟩
  have HR1 := Lib.hid (box_curPost HR.out (by omega) hp)
  have HP1 := Lib.hid (curPost_trans HP0.out hp)
  clear hp H1 HR HP0
  have H2 := Lib.hid (pick_any b (n + 4) v 90 w1 HP1.out.1 HP1.out.2.1 (by omega) (by omega))
  go_wp2_with fail
  go_at_call 60
  refine H2.out.mono ?_
  rintro e w2 ⟨⟨y, rfl, hy0, hy1⟩, hp⟩
  have hy := hy1 (by omega)
  have HR2 := Lib.hid (box_curPost HR1.out (by omega) hp)
  have HP2 := Lib.hid (curPost_alloc (curPost_trans HP1.out hp) (.cells #[.int .i64 x, .int .i64 (x + y)] 26))
  have hlt2 := curAt_lt hp.1
  have hrl := HR2.out.lt
  clear hp H2 HR1 HP1 hy1
  have HX2 := Lib.hid (SpanBox.new w2 (x, x + y) 26)
  have HR3 := Lib.hid (HR2.out.keep ((Below.refl _ _).alloc (Nat.le_refl _) (.cells #[.int .i64 x, .int .i64 (x + y)] 26)))
  have H3 := Lib.hid (one_any b (n + 4 + 2) v 16 _ HP2.out.1 HP2.out.2.1 (by omega) (by omega))
  clear HR2
  go_wp2_with fail
  go_at_call 42
  refine H3.out.mono ?_
  rintro e w3 ⟨⟨r, rfl⟩, hp⟩
  have HR4 := Lib.hid (box_curPost HR3.out (by omega) hp)
  have HX4 := Lib.hid (box_curPost HX2.out (by omega) hp)
  have HP4 := Lib.hid (curPost_trans HP2.out hp)
  clear hp H3 HR3 HX2 HP2
  obtain ⟨r0, r1, rf⟩ := HR4.out
  obtain ⟨x0, x1, xf⟩ := HX4.out
  simp only at r0 r1 x0 x1
  have hne : w.heap.size ≠ w2.heap.size := by omega
  cases r
  · go_wp2_with fail
    exact bodyPost_ret (v := .agg #[.int .i64 x, .int .i64 (x + y)]) (by simp only [results, Try.results43]; go_simp) rfl ⟨⟨(x, x + y), rfl⟩, curPost_set HV.out (curPost_set HV.out (curPost_mono HP4.out (by omega)) (Nat.le_refl _) (by omega)) (Nat.le_refl _) (by omega)⟩
  · have H5 := Lib.hid (time_any b (n + 4 + 2 + 2) v w3 HP4.out.1 HP4.out.2.1 (by omega))
    go_wp2_with fail
    go_at_call 61
    refine H5.out.mono ?_
    rintro e w6 ⟨⟨z, rfl, hz0, hz1⟩, hp⟩
    have HR6 := Lib.hid (box_curPost HR4.out (by omega) hp)
    have HX6 := Lib.hid (box_curPost HX4.out (by omega) hp)
    have HP6 := Lib.hid (curPost_trans HP4.out hp)
    clear hp H5 r0 r1 rf x0 x1 xf HR4 HX4 HP4
    obtain ⟨r0, r1, rf⟩ := HR6.out
    obtain ⟨x0, x1, xf⟩ := HX6.out
    simp only at r0 r1 x0 x1
    go_wp2_with fail
    exact bodyPost_ret (v := .agg #[.int .i64 x, .int .i64 z]) (by simp only [results, Try.results43]; go_simp) rfl ⟨⟨(x, z), rfl⟩, curPost_set HV.out (curPost_set HV.out (curPost_set HV.out HP6.out (by omega) (by omega)) (Nat.le_refl _) (by omega)) (Nat.le_refl _) (by omega)⟩
end Go.Proofs.Ytenbplehiaofmaa
