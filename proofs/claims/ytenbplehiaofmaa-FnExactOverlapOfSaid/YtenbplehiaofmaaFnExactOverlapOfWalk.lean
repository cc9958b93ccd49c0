/-
  THE WALK of laws.FnExactOverlapOf: for every argument the law returns true and nothing that was in memory turns.
-/
import Derived.Test.YtenbplehiaofmaaOverlapSpec
import Derived.Deep.DeepCutAuto
import Derived.Deep.RegionLaw
namespace Go.Proofs.Ytenbplehiaofmaa.fnExactOverlapOf
open Go.RowKit
set_option linter.unusedVariables false
set_option linter.unusedSimpArgs false

theorem step_own {P : Program} {ops : Array Oper} {o : Oper} {a : Act} {w : World} {K : Act → World → Prop} {Q : Exit → Act → World → Prop} {E : Prop} (hg : o.guard = none) (h : Oper.wp P o a w K Q) : if Region.wanted o (yielded ops a.tmps) = true then Oper.wp P o a w K Q else E := by
  have hw : Region.wanted o (yielded ops a.tmps) = true := by simp [Region.wanted, hg]
  rw [if_pos hw]; exact h

/-- the boxes that must stay, all below N; nothing old has turned -/
def Inv (W : World) (N : Nat) (bs : List (Nat × SpanD)) (w : World) : Prop := (∀ x ∈ bs, SpanBox w x.1 x.2) ∧ (∀ x ∈ bs, x.1 < N) ∧ Below W.heap.size W w ∧ W.heap.size ≤ N ∧ N ≤ w.heap.size
theorem Inv.keep {W w w' : World} {N : Nat} {bs : List (Nat × SpanD)} (h : Inv W N bs w) (hb : Below w.heap.size w w') : Inv W N bs w' :=
  ⟨fun x hx => (h.1 x hx).keep hb, h.2.1, h.2.2.1.trans (hb.mono h.2.2.1.size), h.2.2.2.1, Nat.le_trans h.2.2.2.2 hb.size⟩
theorem Inv.drew {W w : World} {N : Nat} {bs : List (Nat × SpanD)} (h : Inv W N bs w) : Inv W N bs w.drew := h.keep (Below.refl _ _).drew
theorem Inv.alloc {W w : World} {N : Nat} {bs : List (Nat × SpanD)} (h : Inv W N bs w) (o : Obj) : Inv W N bs (w.alloc o) := h.keep ((Below.refl _ _).alloc (Nat.le_refl _) _)
theorem Inv.set {W w : World} {N c o : Nat} {bs : List (Nat × SpanD)} (h : Inv W N bs w) (hc : N ≤ c) (u : Value) : Inv W N bs (w.setCell ⟨c, o, none⟩ u) := by
  have hb : Below N w (w.setCell ⟨c, o, none⟩ u) := (Below.refl N w).setCell (p := ⟨c, o, none⟩) hc u
  exact ⟨fun x hx => (h.1 x hx).keepAt hb (h.2.1 x hx), h.2.1, h.2.2.1.trans (hb.mono h.2.2.2.1), h.2.2.2.1, Nat.le_trans h.2.2.2.2 hb.size⟩
/-- the answer's box: above N -/
def Bx (N : Nat) (w : World) (c : Nat) (s : SpanD) : Prop := SpanBox w c s ∧ N ≤ c
theorem Bx.keep {w w' : World} {N c : Nat} {s : SpanD} (h : Bx N w c s) (hb : Below w.heap.size w w') : Bx N w' c s := ⟨h.1.keep hb, h.2⟩
theorem Bx.new {W w : World} {N : Nat} {bs : List (Nat × SpanD)} (h : Inv W N bs w) (s : SpanD) (t : TypeId) : Bx N (w.alloc (.cells #[.int .i64 s.1, .int .i64 s.2] t)) w.heap.size s := ⟨SpanBox.new w s t, h.2.2.2.2⟩
theorem Bx.drew {w : World} {N c : Nat} {s : SpanD} (h : Bx N w c s) : Bx N w.drew c s := h.keep (Below.refl _ _).drew
theorem Hid.mk1 {w : World} {c : Nat} {s : SpanD} (h : SpanBox w c s) (u v : Int) : Hid (SpanBox ((w.setCell ⟨c, 0, none⟩ (.int .i64 u)).setCell ⟨c, 1, none⟩ (.int .i64 v)) c (u, v)) := h.set u v
theorem Hid.mk2 {W w : World} {N c : Nat} {bs : List (Nat × SpanD)} (h : Inv W N bs w) (hc : N ≤ c) (u v : Int) : Hid (Inv W N bs ((w.setCell ⟨c, 0, none⟩ (.int .i64 u)).setCell ⟨c, 1, none⟩ (.int .i64 v))) := (h.set hc _).set hc _


theorem kp4 {W w w' : World} {N : Nat} {p0 p1 p2 p3 : Addr} {x0 x1 x2 x3 : Value} (hb : Below w.heap.size w w') (h : w.cell? p0 = some x0 ∧ w.cell? p1 = some x1 ∧ w.cell? p2 = some x2 ∧ w.cell? p3 = some x3 ∧ Below W.heap.size W w ∧ N ≤ w.heap.size) : w'.cell? p0 = some x0 ∧ w'.cell? p1 = some x1 ∧ w'.cell? p2 = some x2 ∧ w'.cell? p3 = some x3 ∧ Below W.heap.size W w' ∧ N ≤ w'.heap.size := by
  obtain ⟨h0, h1, h2, h3, hl, hn⟩ := h
  exact ⟨bkeep hb h0, bkeep hb h1, bkeep hb h2, bkeep hb h3, hl.trans (hb.mono hl.size), Nat.le_trans hn hb.size⟩
theorem st4 {W w : World} {N c : Nat} {p0 p1 p2 p3 : Addr} {x0 x1 x2 x3 u v : Value} (hc : N ≤ c) (hW : W.heap.size ≤ N) (q0 : p0.block < N) (q1 : p1.block < N) (q2 : p2.block < N) (q3 : p3.block < N) (h : w.cell? p0 = some x0 ∧ w.cell? p1 = some x1 ∧ w.cell? p2 = some x2 ∧ w.cell? p3 = some x3 ∧ Below W.heap.size W w ∧ N ≤ w.heap.size) : ((w.setCell ⟨c, 0, none⟩ u).setCell ⟨c, 1, none⟩ v).cell? p0 = some x0 ∧ ((w.setCell ⟨c, 0, none⟩ u).setCell ⟨c, 1, none⟩ v).cell? p1 = some x1 ∧ ((w.setCell ⟨c, 0, none⟩ u).setCell ⟨c, 1, none⟩ v).cell? p2 = some x2 ∧ ((w.setCell ⟨c, 0, none⟩ u).setCell ⟨c, 1, none⟩ v).cell? p3 = some x3 ∧ Below W.heap.size W ((w.setCell ⟨c, 0, none⟩ u).setCell ⟨c, 1, none⟩ v) ∧ N ≤ ((w.setCell ⟨c, 0, none⟩ u).setCell ⟨c, 1, none⟩ v).heap.size := by
  obtain ⟨h0, h1, h2, h3, hl, hn⟩ := h
  have hb : Below N w ((w.setCell ⟨c, 0, none⟩ u).setCell ⟨c, 1, none⟩ v) := ((Below.refl N w).setCell (p := ⟨c, 0, none⟩) hc _).setCell (p := ⟨c, 1, none⟩) hc _
  exact ⟨(by rw [hb.cell q0]; exact h0), (by rw [hb.cell q1]; exact h1), (by rw [hb.cell q2]; exact h2), (by rw [hb.cell q3]; exact h3), hl.trans (hb.mono hW), Nat.le_trans hn hb.size⟩
theorem nb4 {W w : World} {N : Nat} {p0 p1 p2 p3 : Addr} {x0 x1 x2 x3 : Value} (s : SpanD) (t : TypeId) (h : w.cell? p0 = some x0 ∧ w.cell? p1 = some x1 ∧ w.cell? p2 = some x2 ∧ w.cell? p3 = some x3 ∧ Below W.heap.size W w ∧ N ≤ w.heap.size) : Bx N (w.alloc (.cells #[.int .i64 s.1, .int .i64 s.2] t)) w.heap.size s := ⟨SpanBox.new w s t, h.2.2.2.2.2⟩

theorem kp6 {W w w' : World} {N : Nat} {p0 p1 p2 p3 p4 p5 : Addr} {x0 x1 x2 x3 x4 x5 : Value} (hb : Below w.heap.size w w') (h : w.cell? p0 = some x0 ∧ w.cell? p1 = some x1 ∧ w.cell? p2 = some x2 ∧ w.cell? p3 = some x3 ∧ w.cell? p4 = some x4 ∧ w.cell? p5 = some x5 ∧ Below W.heap.size W w ∧ N ≤ w.heap.size) : w'.cell? p0 = some x0 ∧ w'.cell? p1 = some x1 ∧ w'.cell? p2 = some x2 ∧ w'.cell? p3 = some x3 ∧ w'.cell? p4 = some x4 ∧ w'.cell? p5 = some x5 ∧ Below W.heap.size W w' ∧ N ≤ w'.heap.size := by
  obtain ⟨h0, h1, h2, h3, h4, h5, hl, hn⟩ := h
  exact ⟨bkeep hb h0, bkeep hb h1, bkeep hb h2, bkeep hb h3, bkeep hb h4, bkeep hb h5, hl.trans (hb.mono hl.size), Nat.le_trans hn hb.size⟩
theorem st6 {W w : World} {N c : Nat} {p0 p1 p2 p3 p4 p5 : Addr} {x0 x1 x2 x3 x4 x5 u v : Value} (hc : N ≤ c) (hW : W.heap.size ≤ N) (q0 : p0.block < N) (q1 : p1.block < N) (q2 : p2.block < N) (q3 : p3.block < N) (q4 : p4.block < N) (q5 : p5.block < N) (h : w.cell? p0 = some x0 ∧ w.cell? p1 = some x1 ∧ w.cell? p2 = some x2 ∧ w.cell? p3 = some x3 ∧ w.cell? p4 = some x4 ∧ w.cell? p5 = some x5 ∧ Below W.heap.size W w ∧ N ≤ w.heap.size) : ((w.setCell ⟨c, 0, none⟩ u).setCell ⟨c, 1, none⟩ v).cell? p0 = some x0 ∧ ((w.setCell ⟨c, 0, none⟩ u).setCell ⟨c, 1, none⟩ v).cell? p1 = some x1 ∧ ((w.setCell ⟨c, 0, none⟩ u).setCell ⟨c, 1, none⟩ v).cell? p2 = some x2 ∧ ((w.setCell ⟨c, 0, none⟩ u).setCell ⟨c, 1, none⟩ v).cell? p3 = some x3 ∧ ((w.setCell ⟨c, 0, none⟩ u).setCell ⟨c, 1, none⟩ v).cell? p4 = some x4 ∧ ((w.setCell ⟨c, 0, none⟩ u).setCell ⟨c, 1, none⟩ v).cell? p5 = some x5 ∧ Below W.heap.size W ((w.setCell ⟨c, 0, none⟩ u).setCell ⟨c, 1, none⟩ v) ∧ N ≤ ((w.setCell ⟨c, 0, none⟩ u).setCell ⟨c, 1, none⟩ v).heap.size := by
  obtain ⟨h0, h1, h2, h3, h4, h5, hl, hn⟩ := h
  have hb : Below N w ((w.setCell ⟨c, 0, none⟩ u).setCell ⟨c, 1, none⟩ v) := ((Below.refl N w).setCell (p := ⟨c, 0, none⟩) hc _).setCell (p := ⟨c, 1, none⟩) hc _
  exact ⟨(by rw [hb.cell q0]; exact h0), (by rw [hb.cell q1]; exact h1), (by rw [hb.cell q2]; exact h2), (by rw [hb.cell q3]; exact h3), (by rw [hb.cell q4]; exact h4), (by rw [hb.cell q5]; exact h5), hl.trans (hb.mono hW), Nat.le_trans hn hb.size⟩
theorem nb6 {W w : World} {N : Nat} {p0 p1 p2 p3 p4 p5 : Addr} {x0 x1 x2 x3 x4 x5 : Value} (s : SpanD) (t : TypeId) (h : w.cell? p0 = some x0 ∧ w.cell? p1 = some x1 ∧ w.cell? p2 = some x2 ∧ w.cell? p3 = some x3 ∧ w.cell? p4 = some x4 ∧ w.cell? p5 = some x5 ∧ Below W.heap.size W w ∧ N ≤ w.heap.size) : Bx N (w.alloc (.cells #[.int .i64 s.1, .int .i64 s.2] t)) w.heap.size s := ⟨SpanBox.new w s t, h.2.2.2.2.2.2.2⟩

set_option maxRecDepth 100000 in
set_option maxHeartbeats 16000000 in
theorem walk (v0 : Value) (v1 : Value) (W : World) (S0 : ∃ d, SpanAt W v0 d ∧ SpanWf d) (S1 : ∃ d, SpanAt W v1 d ∧ SpanWf d) (hL : laidMetH Try.prog Rows.fnExactOverlapOfRow.laid W) (hsh : W.ShapedOpen Try.prog) :
    Calls Try.prog 8 #[v0, v1] W fun e w' => e = .returned (.bool true) ∧ Below W.heap.size W w' := by
  clear hL hsh
  obtain ⟨⟨a1, a2⟩, h0, _⟩ := S0
  obtain ⟨⟨b1, b2⟩, h1, _⟩ := S1
  obtain rfl := Span_open h0
  obtain rfl := Span_open h1
  clear h0 h1
  have HTa := Lib.hid (fun w => toSpan_any (a1, a2) w)
  have HTb := Lib.hid (fun w => toSpan_any (b1, b2) w)
  have HSp := Lib.hid (fun w => specOverlap_any (a1, a2) (b1, b2) w)
  have HIm := Lib.hid (fun w => implOverlap_any (a1, a2) (b1, b2) w)
  generalize overV (a1, a2) (b1, b2) = r at *
  generalize overB (a1, a2) (b1, b2) = p at *
  generalize overK (a1, a2) (b1, b2) = q at *
  obtain ⟨r1, r2⟩ := r
  have HEq := Lib.hid (fun w => eqSpan_any (r1, r2) w)
  have hp : (p != p) = false := by simp
  have hq : (q != q) = false := by simp
  have HI0 : Hid (Inv W (W.heap.size + 2) [(W.heap.size, (a1, a2)), (W.heap.size + 1, (b1, b2))] ((W.alloc (.cells #[.int .i64 a1, .int .i64 a2] 46)).alloc (.cells #[.int .i64 b1, .int .i64 b2] 46))) := by
    have hn := SpanBox.new (W.alloc (.cells #[.int .i64 a1, .int .i64 a2] 46)) (b1, b2) 46
    rw [World.size_alloc] at hn
    refine ⟨fun x hx => ?_, fun x hx => ?_, ((Below.refl _ _).alloc (Nat.le_refl _) _).alloc (by simp) _, by omega, by simp⟩
    · rcases List.mem_cons.1 hx with rfl | hx
      · exact (SpanBox.new W (a1, a2) _).keep ((Below.refl _ _).alloc (Nat.le_refl _) _)
      · have : x = (W.heap.size + 1, (b1, b2)) := by simpa using hx
        subst this; exact hn
    · rcases List.mem_cons.1 hx with rfl | hx
      · show W.heap.size < _; omega
      · have : x = (W.heap.size + 1, (b1, b2)) := by simpa using hx
        subst this; show W.heap.size + 1 < _; omega
  simp only at HTa HTb HSp HIm HEq
  go_enter Try.func8, Try.ntmps8
  have x0 := (HI0.out.1 (W.heap.size, (a1, a2)) (by simp)).c0
  have x1 := (HI0.out.1 (W.heap.size, (a1, a2)) (by simp)).c1
  have y0 := (HI0.out.1 (W.heap.size + 1, (b1, b2)) (by simp)).c0
  have y1 := (HI0.out.1 (W.heap.size + 1, (b1, b2)) (by simp)).c1
  simp only at x0 x1 y0 y1
  have hBel := HI0.out.2.2.1
  have hNn := HI0.out.2.2.2.2
  have hWN : W.heap.size ≤ W.heap.size + 2 := by omega
  have hq0 : W.heap.size < W.heap.size + 2 := by omega
  have hq1 : W.heap.size + 1 < W.heap.size + 2 := by omega
  go_upto_region 1 with fail
  go_cut [5, 6, 7] (fun s5 s6 s7 wx => ∃ c : Nat, s5 = .pointer (some ⟨c, 0, none⟩) ∧ s6 = .bool p ∧ s7 = .bool q ∧ Hid (SpanBox wx c (r1, r2)) ∧ Hid (wx.cell? ⟨W.heap.size, 0, none⟩ = some (.int .i64 a1) ∧ wx.cell? ⟨W.heap.size, 1, none⟩ = some (.int .i64 a2) ∧ wx.cell? ⟨W.heap.size + 1, 0, none⟩ = some (.int .i64 b1) ∧ wx.cell? ⟨W.heap.size + 1, 1, none⟩ = some (.int .i64 b2) ∧ Below W.heap.size W wx ∧ W.heap.size + 2 ≤ wx.heap.size))
  case first =>
    go_region_held3 (fun w' => w'.cell? ⟨W.heap.size, 0, none⟩ = some (.int .i64 a1) ∧ w'.cell? ⟨W.heap.size, 1, none⟩ = some (.int .i64 a2) ∧ w'.cell? ⟨W.heap.size + 1, 0, none⟩ = some (.int .i64 b1) ∧ w'.cell? ⟨W.heap.size + 1, 1, none⟩ = some (.int .i64 b2) ∧ Below W.heap.size W w' ∧ W.heap.size + 2 ≤ w'.heap.size)
      (first | (exact ⟨x0, x1, y0, y1, hBel.drew, hNn⟩) | (exact kp4 hb (by assumption)) | (exact kp4 ((Below.refl _ _).alloc (Nat.le_refl _) _) (by assumption)) | (exact kp4 ((Below.refl _ _).alloc (Nat.le_refl _) _) hSk) | (exact st4 hbx.2 hWN hq0 hq0 hq1 hq1 hSk))
      (((first | (go_at_call_of 32 a1; refine (HTa.out _).mono ?_) | (go_at_call_of 32 b1; refine (HTb.out _).mono ?_) | (go_at_call 31; refine (HSp.out _).mono ?_)); rintro e w' ⟨rfl, hb⟩; (first | (have hbn := Bx.keep hbx hb; clear hbx; have hbx := hbn; clear hbn) | (have hbx := Bx.keep (nb4 (0, 0) 26 hSk) hb) | (have hbx := Bx.keep (nb4 (0, 0) 26 ⟨x0, x1, y0, y1, hBel.drew, hNn⟩) hb) | (have hbx := Bx.keep (nb4 (0, 0) 26 ⟨x0, x1, y0, y1, hBel, hNn⟩).drew hb) | skip); (have hSn := kp4 hb (by assumption)); (try clear hSk); (have hSk := hSn); clear hSn; (try simp only [World.size_alloc] at hbx); (try clear t0 t1 tf); (try (have t0 := hbx.1.c0)); (try (have t1 := hbx.1.c1)); (try (have tf := hbx.1.fz)); (try simp only at t0 t1)))
    all_goals go_wp2_with fail
    all_goals go_meet
    all_goals first
      | exact ⟨_, rfl, rfl, rfl, SpanBox.new _ (r1, r2) _, kp4 ((Below.refl _ _).alloc (Nat.le_refl _) _) hSk⟩
      | exact ⟨_, rfl, rfl, rfl, Hid.mk1 hbx.1 r1 r2, st4 hbx.2 hWN hq0 hq0 hq1 hq1 hSk⟩
      | trace_state
  case rest =>
  obtain ⟨c5, rfl, rfl, rfl, HB5, HS5⟩ := hcut
  clear x0 x1 y0 y1 HI0 hBel hNn hWN hq0 hq1
  obtain ⟨x0, x1, y0, y1, hBel, hNn⟩ := HS5.out
  obtain ⟨z50, z51, _⟩ := HB5.out
  simp only at z50 z51
  have hq5 := HB5.out.lt
  have hWN := hBel.size
  have hq0 : W.heap.size < wc.heap.size := by omega
  have hq1 : W.heap.size + 1 < wc.heap.size := by omega
  have hNn := Nat.le_refl wc.heap.size
  clear HS5 HB5
  obtain ⟨wd, hwd⟩ : ∃ wd : World, wd = wc := ⟨_, rfl⟩
  subst hwd
  go_upto_region 2 with fail
  go_cut [8, 9, 10] (fun s8 s9 s10 wx => ∃ c : Nat, s8 = .pointer (some ⟨c, 0, none⟩) ∧ s9 = .bool p ∧ s10 = .bool q ∧ Hid (SpanBox wx c (r1, r2)) ∧ Hid (wx.cell? ⟨W.heap.size, 0, none⟩ = some (.int .i64 a1) ∧ wx.cell? ⟨W.heap.size, 1, none⟩ = some (.int .i64 a2) ∧ wx.cell? ⟨W.heap.size + 1, 0, none⟩ = some (.int .i64 b1) ∧ wx.cell? ⟨W.heap.size + 1, 1, none⟩ = some (.int .i64 b2) ∧ wx.cell? ⟨c5, 0, none⟩ = some (.int .i64 r1) ∧ wx.cell? ⟨c5, 1, none⟩ = some (.int .i64 r2) ∧ Below W.heap.size W wx ∧ wd.heap.size ≤ wx.heap.size))
  case first =>
    go_region_held3 (fun w' => w'.cell? ⟨W.heap.size, 0, none⟩ = some (.int .i64 a1) ∧ w'.cell? ⟨W.heap.size, 1, none⟩ = some (.int .i64 a2) ∧ w'.cell? ⟨W.heap.size + 1, 0, none⟩ = some (.int .i64 b1) ∧ w'.cell? ⟨W.heap.size + 1, 1, none⟩ = some (.int .i64 b2) ∧ w'.cell? ⟨c5, 0, none⟩ = some (.int .i64 r1) ∧ w'.cell? ⟨c5, 1, none⟩ = some (.int .i64 r2) ∧ Below W.heap.size W w' ∧ wd.heap.size ≤ w'.heap.size)
      (first | (exact ⟨x0, x1, y0, y1, z50, z51, hBel.drew, hNn⟩) | (exact kp6 hb (by assumption)) | (exact kp6 ((Below.refl _ _).alloc (Nat.le_refl _) _) (by assumption)) | (exact kp6 ((Below.refl _ _).alloc (Nat.le_refl _) _) hSk) | (exact st6 hbx.2 hWN hq0 hq0 hq1 hq1 hq5 hq5 hSk))
      (((first | (go_at_call_of 32 a1; refine (HTa.out _).mono ?_) | (go_at_call_of 32 b1; refine (HTb.out _).mono ?_) | (go_at_call 22; refine (HIm.out _).mono ?_)); rintro e w' ⟨rfl, hb⟩; (first | (have hbn := Bx.keep hbx hb; clear hbx; have hbx := hbn; clear hbn) | (have hbx := Bx.keep (nb6 (0, 0) 26 hSk) hb) | (have hbx := Bx.keep (nb6 (0, 0) 26 ⟨x0, x1, y0, y1, z50, z51, hBel.drew, hNn⟩) hb) | (have hbx := Bx.keep (nb6 (0, 0) 26 ⟨x0, x1, y0, y1, z50, z51, hBel, hNn⟩).drew hb) | skip); (have hSn := kp6 hb (by assumption)); (try clear hSk); (have hSk := hSn); clear hSn; (try simp only [World.size_alloc] at hbx); (try clear t0 t1 tf); (try (have t0 := hbx.1.c0)); (try (have t1 := hbx.1.c1)); (try (have tf := hbx.1.fz)); (try simp only at t0 t1)))
    all_goals go_wp2_with fail
    all_goals go_meet
    all_goals first
      | exact ⟨_, rfl, rfl, rfl, SpanBox.new _ (r1, r2) _, kp6 ((Below.refl _ _).alloc (Nat.le_refl _) _) hSk⟩
      | exact ⟨_, rfl, rfl, rfl, Hid.mk1 hbx.1 r1 r2, st6 hbx.2 hWN hq0 hq0 hq1 hq1 hq5 hq5 hSk⟩
      | trace_state
  case rest =>
  obtain ⟨c8, rfl, rfl, rfl, HB8, HS8⟩ := hcut
  clear x0 x1 y0 y1 z50 z51 hBel hNn
  obtain ⟨_, _, _, _, z0, z1, hBel, _⟩ := HS8.out
  have HBel := Lib.hid hBel
  obtain ⟨t0, t1, tf⟩ := HB8.out
  simp only at t0 t1
  go_wp2_with fail
  go_at_call 33
  refine (HEq.out _).mono ?_
  rintro e w9 ⟨rfl, hb⟩
  go_wp2_with fail
  go_ret
  exact ⟨rfl, HBel.out.trans (hb.mono HBel.out.size)⟩
end Go.Proofs.Ytenbplehiaofmaa.fnExactOverlapOf
