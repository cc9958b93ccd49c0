/-
  THE CONTRACT of spec.DrawFreeSpans: a list of spans and a span, off the code's bytes.
-/
import Derived.Test.YtenbplehiaofmaaDrawSpans
namespace Go.Proofs.Ytenbplehiaofmaa
open Go.RowKit
set_option linter.unusedVariables false

theorem below_curPost {w w0 w' : World} {B b n : Nat} {v : Value} (hb : Below B w w0) (hB : B ≤ b) (h : CurPost w0 b n v w') (h0 : B ≤ w0.heap.size) : Below B w w' :=
  hb.grown h.2.2 h0 (fun k hk => by cases hk; exact hB)

set_option maxRecDepth 100000 in
set_option maxHeartbeats 4000000 in
theorem drawFreeSpans_any (v : Value) (w : World) (h : CodeAt w v) :
    Calls Try.prog 14 #[v] w fun e w' => (∃ (xs : List SpanD) (s : SpanD) (z : Value), xs.length ≤ 30 ∧ e = .returned (.tuple #[z, .agg #[.int .i64 s.1, .int .i64 s.2]]) ∧ w'.ownsRow w.heap.size 26 2 z xs.length (spanC xs)) ∧ Below w.heap.size w w' := by
  obtain ⟨ca, cn, cc, rfl⟩ := codeAt_slice h
  have hk : CodeAt (w.alloc (.cells #[.int .i64 0, .int .i64 0] 26)) (.slice ca cn cc) := by
    obtain ⟨l, hr⟩ := h; exact ⟨l, hr.below rfl ((Below.refl _ _).alloc (Nat.le_refl _) _)⟩
  obtain ⟨hc, ho, hb⟩ := cur_new _ _ hk
  have hbuild := build_cur ca cn cc
  have HB : Hid (Below w.heap.size w _) := ((Below.refl _ w).alloc (Nat.le_refl _) _).trans (hb.mono (by simp))
  have HR0 := Lib.hid ((SpanBox.new w (0, 0) 26).keep hb)
  have hsz : (w.alloc (.cells #[.int .i64 0, .int .i64 0] 26)).heap.size = w.heap.size + 1 := World.size_alloc _ _
  rw [hsz] at hc ho
  have HS := Lib.hid (spans_any (w.heap.size + 1) 0 (.slice ca cn cc) _ hc ho (by omega))
  clear hc ho hb h hk hsz
  go_enter Try.func14, Try.ntmps14
  go_wp2_with fail
  go_at_call 41
  refine HS.out.mono ?_
  rintro e w1 ⟨⟨xs, z, hxs, rfl, hown⟩, hp⟩
  have HB1 := Lib.hid (below_curPost HB.out (Nat.le_succ _) hp HB.out.size)
  have HR1 := Lib.hid (box_curPost HR0.out (by omega) hp)
  have HP1 := Lib.hid hp
  have HOw1 := Lib.hid hown
  have HO := Lib.hid (one_any (w.heap.size + 1) _ _ 4 w1 hp.1 hp.2.1 (by omega) (by omega))
  obtain ⟨za, zc, rfl⟩ := own_shape hown
  clear HB HR0 HS hp hown
  go_wp2_with fail
  go_at_call 42
  refine HO.out.mono ?_
  rintro e w3 ⟨⟨r, rfl⟩, hp⟩
  have HB3 := Lib.hid (below_curPost HB1.out (Nat.le_succ _) hp HB1.out.size)
  have HR3 := Lib.hid (box_curPost HR1.out (by omega) hp)
  have HP3 := Lib.hid hp
  have HOw3 := Lib.hid (own_cur HOw1.out (by simp) hp)
  have hsB : w.heap.size + 1 ≤ ((w.alloc (.cells #[.int .i64 0, .int .i64 0] 26)).alloc (.cells #[.slice ca cn cc, .int .i64 0, .int .u64 0] 59)).heap.size := by simp
  have HFin : Hid (∀ (u v : Int), ((w3.setCell ⟨w.heap.size, 0, none⟩ (.int .i64 u)).setCell ⟨w.heap.size, 1, none⟩ (.int .i64 v)).ownsRow w.heap.size 26 2 (.slice za xs.length zc) xs.length (spanC xs)) := by
    show ∀ (u v : Int), _
    intro u v
    exact own_base (ownsRow_setCell_below (ownsRow_setCell_below HOw3.out (by simp <;> omega) _) (by simp <;> omega) _) (by simp <;> omega)
  obtain ⟨r0, r1, rf⟩ := HR3.out
  simp only at r0 r1
  clear HO hp HR1 HB1 HP1 HOw1
  cases r
  · go_wp2_with fail
    exact bodyPost_ret (v := .tuple #[.slice za xs.length zc, .agg #[.int .i64 360, .int .i64 700]]) (by simp only [results, Try.results14]; go_simp) rfl ⟨⟨xs, (360, 700), _, hxs, rfl, HFin.out 360 700⟩, (HB3.out.setCell (p := ⟨w.heap.size, 0, none⟩) (Nat.le_refl _) _).setCell (p := ⟨w.heap.size, 1, none⟩) (Nat.le_refl _) _⟩
  · clear HFin
    have H5 := Lib.hid (span_any (w.heap.size + 1) _ _ w3 HP3.out.1 HP3.out.2.1 (by omega))
    go_wp2_with fail
    go_at_call 43
    refine H5.out.mono ?_
    rintro e w6 ⟨⟨s, rfl⟩, hp⟩
    obtain ⟨s1, s2⟩ := s
    have HB6 := Lib.hid (below_curPost HB3.out (Nat.le_succ _) hp HB3.out.size)
    have HR6 := Lib.hid (box_curPost HR3.out (by omega) hp)
    have HOw6 := Lib.hid (own_cur HOw3.out (by simp) hp)
    have HFin : Hid (∀ (u v : Int), ((w6.setCell ⟨w.heap.size, 0, none⟩ (.int .i64 u)).setCell ⟨w.heap.size, 1, none⟩ (.int .i64 v)).ownsRow w.heap.size 26 2 (.slice za xs.length zc) xs.length (spanC xs)) := by
      show ∀ (u v : Int), _
      intro u v
      exact own_base (ownsRow_setCell_below (ownsRow_setCell_below HOw6.out (by simp <;> omega) _) (by simp <;> omega) _) (by simp <;> omega)
    clear hp H5 r0 r1 rf
    obtain ⟨r0, r1, rf⟩ := HR6.out
    simp only at r0 r1
    clear HB3 HR3 HP3 HOw3 HOw6
    go_wp2_with fail
    exact bodyPost_ret (v := .tuple #[.slice za xs.length zc, .agg #[.int .i64 s1, .int .i64 s2]]) (by simp only [results, Try.results14]; go_simp) rfl ⟨⟨xs, (s1, s2), _, hxs, rfl, HFin.out s1 s2⟩, (HB6.out.setCell (p := ⟨w.heap.size, 0, none⟩) (Nat.le_refl _) _).setCell (p := ⟨w.heap.size, 1, none⟩) (Nat.le_refl _) _⟩
end Go.Proofs.Ytenbplehiaofmaa
