/-
  THE WALK of laws.FnExactOverlapOf: for every argument the law returns true and nothing that was in memory turns.
-/
import Derived.Test.YtenbplehiaofmaaOverlapSpec
import Derived.Deep.DeepCutAuto
import Derived.Deep.RegionLaw
namespace Go.Proofs.Ytenbplehiaofmaa.fnExactOverlapOf
open Go.RowKit
set_option linter.unusedVariables false
set_option linter.unusedSimpArgs false

theorem step_own {P : Program} {ops : Array Oper} {o : Oper} {a : Act} {w : World} {K : Act → World → Prop} {Q : Exit → Act → World → Prop} {E : Prop} (hg : o.guard = none) (h : Oper.wp P o a w K Q) : if Region.wanted o (yielded ops a.tmps) = true then Oper.wp P o a w K Q else E := by
  have hw : Region.wanted o (yielded ops a.tmps) = true := by simp [Region.wanted, hg]
  rw [if_pos hw]; exact h

/-- the boxes that must stay, all below N; nothing old has turned -/
def Inv (W : World) (N : Nat) (bs : List (Nat × SpanD)) (w : World) : Prop := (∀ x ∈ bs, SpanBox w x.1 x.2) ∧ (∀ x ∈ bs, x.1 < N) ∧ Below W.heap.size W w ∧ W.heap.size ≤ N ∧ N ≤ w.heap.size
theorem Inv.keep {W w w' : World} {N : Nat} {bs : List (Nat × SpanD)} (h : Inv W N bs w) (hb : Below w.heap.size w w') : Inv W N bs w' :=
  ⟨fun x hx => (h.1 x hx).keep hb, h.2.1, h.2.2.1.trans (hb.mono h.2.2.1.size), h.2.2.2.1, Nat.le_trans h.2.2.2.2 hb.size⟩
theorem Inv.drew {W w : World} {N : Nat} {bs : List (Nat × SpanD)} (h : Inv W N bs w) : Inv W N bs w.drew := h.keep (Below.refl _ _).drew
theorem Inv.alloc {W w : World} {N : Nat} {bs : List (Nat × SpanD)} (h : Inv W N bs w) (o : Obj) : Inv W N bs (w.alloc o) := h.keep ((Below.refl _ _).alloc (Nat.le_refl _) _)
theorem Inv.set {W w : World} {N c o : Nat} {bs : List (Nat × SpanD)} (h : Inv W N bs w) (hc : N ≤ c) (u : Value) : Inv W N bs (w.setCell ⟨c, o, none⟩ u) := by
  have hb : Below N w (w.setCell ⟨c, o, none⟩ u) := (Below.refl N w).setCell (p := ⟨c, o, none⟩) hc u
  exact ⟨fun x hx => (h.1 x hx).keepAt hb (h.2.1 x hx), h.2.1, h.2.2.1.trans (hb.mono h.2.2.2.1), h.2.2.2.1, Nat.le_trans h.2.2.2.2 hb.size⟩
/-- the answer's box: above N -/
def Bx (N : Nat) (w : World) (c : Nat) (s : SpanD) : Prop := SpanBox w c s ∧ N ≤ c
theorem Bx.keep {w w' : World} {N c : Nat} {s : SpanD} (h : Bx N w c s) (hb : Below w.heap.size w w') : Bx N w' c s := ⟨h.1.keep hb, h.2⟩
theorem Bx.new {W w : World} {N : Nat} {bs : List (Nat × SpanD)} (h : Inv W N bs w) (s : SpanD) (t : TypeId) : Bx N (w.alloc (.cells #[.int .i64 s.1, .int .i64 s.2] t)) w.heap.size s := ⟨SpanBox.new w s t, h.2.2.2.2⟩
theorem Bx.drew {w : World} {N c : Nat} {s : SpanD} (h : Bx N w c s) : Bx N w.drew c s := h.keep (Below.refl _ _).drew
theorem Hid.mk1 {w : World} {c : Nat} {s : SpanD} (h : SpanBox w c s) (u v : Int) : Hid (SpanBox ((w.setCell ⟨c, 0, none⟩ (.int .i64 u)).setCell ⟨c, 1, none⟩ (.int .i64 v)) c (u, v)) := h.set u v
theorem Hid.mk2 {W w : World} {N c : Nat} {bs : List (Nat × SpanD)} (h : Inv W N bs w) (hc : N ≤ c) (u v : Int) : Hid (Inv W N bs ((w.setCell ⟨c, 0, none⟩ (.int .i64 u)).setCell ⟨c, 1, none⟩ (.int .i64 v))) := (h.set hc _).set hc _

set_option maxRecDepth 100000 in
set_option maxHeartbeats 16000000 in
theorem walk (v0 : Value) (v1 : Value) (W : World) (S0 : ∃ d, SpanAt W v0 d ∧ SpanWf d) (S1 : ∃ d, SpanAt W v1 d ∧ SpanWf d) (hL : laidMetH Try.prog Rows.fnExactOverlapOfRow.laid W) (hsh : W.ShapedOpen Try.prog) :
    Calls Try.prog 8 #[v0, v1] W fun e w' => e = .returned (.bool true) ∧ Below W.heap.size W w' := by
  clear hL hsh
  obtain ⟨⟨a1, a2⟩, h0, _⟩ := S0
  obtain ⟨⟨b1, b2⟩, h1, _⟩ := S1
  obtain rfl := Span_open h0
  obtain rfl := Span_open h1
  clear h0 h1
  have HTa := Lib.hid (fun w => toSpan_any (a1, a2) w)
  have HTb := Lib.hid (fun w => toSpan_any (b1, b2) w)
  have HSp := Lib.hid (fun w => specOverlap_any (a1, a2) (b1, b2) w)
  have HIm := Lib.hid (fun w => implOverlap_any (a1, a2) (b1, b2) w)
  generalize overV (a1, a2) (b1, b2) = r at *
  generalize overB (a1, a2) (b1, b2) = p at *
  generalize overK (a1, a2) (b1, b2) = q at *
  obtain ⟨r1, r2⟩ := r
  have HEq := Lib.hid (fun w => eqSpan_any (r1, r2) w)
  have hp : (p != p) = false := by simp
  have hq : (q != q) = false := by simp
  have HI0 : Hid (Inv W (W.heap.size + 2) [(W.heap.size, (a1, a2)), (W.heap.size + 1, (b1, b2))] ((W.alloc (.cells #[.int .i64 a1, .int .i64 a2] 46)).alloc (.cells #[.int .i64 b1, .int .i64 b2] 46))) := by
    have hn := SpanBox.new (W.alloc (.cells #[.int .i64 a1, .int .i64 a2] 46)) (b1, b2) 46
    rw [World.size_alloc] at hn
    refine ⟨fun x hx => ?_, fun x hx => ?_, ((Below.refl _ _).alloc (Nat.le_refl _) _).alloc (by simp) _, by omega, by simp⟩
    · rcases List.mem_cons.1 hx with rfl | hx
      · exact (SpanBox.new W (a1, a2) _).keep ((Below.refl _ _).alloc (Nat.le_refl _) _)
      · have : x = (W.heap.size + 1, (b1, b2)) := by simpa using hx
        subst this; exact hn
    · rcases List.mem_cons.1 hx with rfl | hx
      · show W.heap.size < _; omega
      · have : x = (W.heap.size + 1, (b1, b2)) := by simpa using hx
        subst this; show W.heap.size + 1 < _; omega
  simp only at HTa HTb HSp HIm HEq
  go_enter Try.func8, Try.ntmps8
  go_upto_region 1 with fail
  have hst0 := HI0.out
  have x0 := (hst0.1 (W.heap.size, (a1, a2)) (by simp)).c0
  have x1 := (hst0.1 (W.heap.size, (a1, a2)) (by simp)).c1
  have y0 := (hst0.1 (W.heap.size + 1, (b1, b2)) (by simp)).c0
  have y1 := (hst0.1 (W.heap.size + 1, (b1, b2)) (by simp)).c1
  simp only at x0 x1 y0 y1
  clear hst0
  go_cut [5, 6, 7] (fun s5 s6 s7 wx => ∃ c : Nat, s5 = .pointer (some ⟨c, 0, none⟩) ∧ s6 = .bool p ∧ s7 = .bool q ∧ Hid (SpanBox wx c (r1, r2)) ∧ Hid (Inv W (W.heap.size + 2) [(W.heap.size, (a1, a2)), (W.heap.size + 1, (b1, b2))] wx))
  case first =>
    go_region_law (first | (refine step_own rfl ?_; go_simp; go_at_call 32; refine (HTa.out _).mono ?_; rintro e w' ⟨rfl, hb⟩; (first | (have hbx := Bx.keep hbx hb) | (have hbx := Bx.keep (Bx.new hst (0, 0) 26) hb) | (have hbx := Bx.keep (Bx.new HI0.out.drew (0, 0) 26) hb) | (have hbx := Bx.keep (Bx.new HI0.out (0, 0) 26).drew hb) | skip); (first | (have hst := Inv.keep hst hb) | (have hst := Inv.keep (Inv.alloc hst _) hb) | (have hst := Inv.keep HI0.out.drew hb) | (have hst := Inv.keep (Inv.alloc HI0.out.drew _) hb) | (have hst := Inv.keep (Inv.drew (Inv.alloc HI0.out _)) hb)); (have x0 := (hst.1 (W.heap.size, (a1, a2)) (by simp)).c0); (have x1 := (hst.1 (W.heap.size, (a1, a2)) (by simp)).c1); (have y0 := (hst.1 (W.heap.size + 1, (b1, b2)) (by simp)).c0); (have y1 := (hst.1 (W.heap.size + 1, (b1, b2)) (by simp)).c1); simp only at x0 x1 y0 y1; try (have z0 := hbx.1.c0); try (have z1 := hbx.1.c1); try (have zf := hbx.1.fz); try simp only at z0 z1; go_wp2_with fail) | (refine step_own rfl ?_; go_simp; go_at_call 32; refine (HTb.out _).mono ?_; rintro e w' ⟨rfl, hb⟩; (first | (have hbx := Bx.keep hbx hb) | (have hbx := Bx.keep (Bx.new hst (0, 0) 26) hb) | (have hbx := Bx.keep (Bx.new HI0.out.drew (0, 0) 26) hb) | (have hbx := Bx.keep (Bx.new HI0.out (0, 0) 26).drew hb) | skip); (first | (have hst := Inv.keep hst hb) | (have hst := Inv.keep (Inv.alloc hst _) hb) | (have hst := Inv.keep HI0.out.drew hb) | (have hst := Inv.keep (Inv.alloc HI0.out.drew _) hb) | (have hst := Inv.keep (Inv.drew (Inv.alloc HI0.out _)) hb)); (have x0 := (hst.1 (W.heap.size, (a1, a2)) (by simp)).c0); (have x1 := (hst.1 (W.heap.size, (a1, a2)) (by simp)).c1); (have y0 := (hst.1 (W.heap.size + 1, (b1, b2)) (by simp)).c0); (have y1 := (hst.1 (W.heap.size + 1, (b1, b2)) (by simp)).c1); simp only at x0 x1 y0 y1; try (have z0 := hbx.1.c0); try (have z1 := hbx.1.c1); try (have zf := hbx.1.fz); try simp only at z0 z1; go_wp2_with fail) | (refine step_own rfl ?_; go_simp; go_at_call 31; refine (HSp.out _).mono ?_; rintro e w' ⟨rfl, hb⟩; (first | (have hbx := Bx.keep hbx hb) | (have hbx := Bx.keep (Bx.new hst (0, 0) 26) hb) | (have hbx := Bx.keep (Bx.new HI0.out.drew (0, 0) 26) hb) | (have hbx := Bx.keep (Bx.new HI0.out (0, 0) 26).drew hb) | skip); (first | (have hst := Inv.keep hst hb) | (have hst := Inv.keep (Inv.alloc hst _) hb) | (have hst := Inv.keep HI0.out.drew hb) | (have hst := Inv.keep (Inv.alloc HI0.out.drew _) hb) | (have hst := Inv.keep (Inv.drew (Inv.alloc HI0.out _)) hb)); (have x0 := (hst.1 (W.heap.size, (a1, a2)) (by simp)).c0); (have x1 := (hst.1 (W.heap.size, (a1, a2)) (by simp)).c1); (have y0 := (hst.1 (W.heap.size + 1, (b1, b2)) (by simp)).c0); (have y1 := (hst.1 (W.heap.size + 1, (b1, b2)) (by simp)).c1); simp only at x0 x1 y0 y1; try (have z0 := hbx.1.c0); try (have z1 := hbx.1.c1); try (have zf := hbx.1.fz); try simp only at z0 z1; go_wp2_with fail))
    all_goals go_wp2_with fail
    all_goals go_meet
    all_goals first
      | exact ⟨_, rfl, rfl, rfl, Hid.mk1 hbx.1 r1 r2, Hid.mk2 hst hbx.2 r1 r2⟩
      | exact ⟨_, rfl, rfl, rfl, SpanBox.new _ (r1, r2) _, Inv.alloc hst _⟩
      | trace_state
  case rest =>
  obtain ⟨c5, rfl, rfl, rfl, HB5, HI5⟩ := hcut
  clear x0 x1 y0 y1 HI0
  have HI1 : Hid (Inv W wc.heap.size [(W.heap.size, (a1, a2)), (W.heap.size + 1, (b1, b2)), (c5, (r1, r2))] wc) := by
    have h := HI5.out
    have h5 := HB5.out
    refine ⟨fun x hx => ?_, fun x hx => ?_, h.2.2.1, h.2.2.1.size, Nat.le_refl _⟩
    · rcases List.mem_cons.1 hx with rfl | hx
      · exact h.1 _ (by simp)
      · rcases List.mem_cons.1 hx with rfl | hx
        · exact h.1 _ (by simp)
        · have : x = (c5, (r1, r2)) := by simpa using hx
          subst this; exact h5
    · rcases List.mem_cons.1 hx with rfl | hx
      · exact (h.1 _ (by simp)).lt
      · rcases List.mem_cons.1 hx with rfl | hx
        · exact (h.1 _ (by simp)).lt
        · have : x = (c5, (r1, r2)) := by simpa using hx
          subst this; exact h5.lt
  clear HI5 HB5
  obtain ⟨wd, hwd⟩ : ∃ wd : World, wd = wc := ⟨_, rfl⟩
  subst hwd
  go_upto_region 2 with fail
  have hst0 := HI1.out
  have x0 := (hst0.1 (W.heap.size, (a1, a2)) (by simp)).c0
  have x1 := (hst0.1 (W.heap.size, (a1, a2)) (by simp)).c1
  have y0 := (hst0.1 (W.heap.size + 1, (b1, b2)) (by simp)).c0
  have y1 := (hst0.1 (W.heap.size + 1, (b1, b2)) (by simp)).c1
  simp only at x0 x1 y0 y1
  clear hst0
  go_cut [8, 9, 10] (fun s8 s9 s10 wx => ∃ c : Nat, s8 = .pointer (some ⟨c, 0, none⟩) ∧ s9 = .bool p ∧ s10 = .bool q ∧ Hid (SpanBox wx c (r1, r2)) ∧ Hid (Inv W wd.heap.size [(W.heap.size, (a1, a2)), (W.heap.size + 1, (b1, b2)), (c5, (r1, r2))] wx))
  case first =>
    go_region_law (first | (refine step_own rfl ?_; go_simp; go_at_call 32; refine (HTa.out _).mono ?_; rintro e w' ⟨rfl, hb⟩; (first | (have hbx := Bx.keep hbx hb) | (have hbx := Bx.keep (Bx.new hst (0, 0) 26) hb) | (have hbx := Bx.keep (Bx.new HI1.out.drew (0, 0) 26) hb) | (have hbx := Bx.keep (Bx.new HI1.out (0, 0) 26).drew hb) | skip); (first | (have hst := Inv.keep hst hb) | (have hst := Inv.keep (Inv.alloc hst _) hb) | (have hst := Inv.keep HI1.out.drew hb) | (have hst := Inv.keep (Inv.alloc HI1.out.drew _) hb) | (have hst := Inv.keep (Inv.drew (Inv.alloc HI1.out _)) hb)); (have x0 := (hst.1 (W.heap.size, (a1, a2)) (by simp)).c0); (have x1 := (hst.1 (W.heap.size, (a1, a2)) (by simp)).c1); (have y0 := (hst.1 (W.heap.size + 1, (b1, b2)) (by simp)).c0); (have y1 := (hst.1 (W.heap.size + 1, (b1, b2)) (by simp)).c1); simp only at x0 x1 y0 y1; try (have z0 := hbx.1.c0); try (have z1 := hbx.1.c1); try (have zf := hbx.1.fz); try simp only at z0 z1; go_wp2_with fail) | (refine step_own rfl ?_; go_simp; go_at_call 32; refine (HTb.out _).mono ?_; rintro e w' ⟨rfl, hb⟩; (first | (have hbx := Bx.keep hbx hb) | (have hbx := Bx.keep (Bx.new hst (0, 0) 26) hb) | (have hbx := Bx.keep (Bx.new HI1.out.drew (0, 0) 26) hb) | (have hbx := Bx.keep (Bx.new HI1.out (0, 0) 26).drew hb) | skip); (first | (have hst := Inv.keep hst hb) | (have hst := Inv.keep (Inv.alloc hst _) hb) | (have hst := Inv.keep HI1.out.drew hb) | (have hst := Inv.keep (Inv.alloc HI1.out.drew _) hb) | (have hst := Inv.keep (Inv.drew (Inv.alloc HI1.out _)) hb)); (have x0 := (hst.1 (W.heap.size, (a1, a2)) (by simp)).c0); (have x1 := (hst.1 (W.heap.size, (a1, a2)) (by simp)).c1); (have y0 := (hst.1 (W.heap.size + 1, (b1, b2)) (by simp)).c0); (have y1 := (hst.1 (W.heap.size + 1, (b1, b2)) (by simp)).c1); simp only at x0 x1 y0 y1; try (have z0 := hbx.1.c0); try (have z1 := hbx.1.c1); try (have zf := hbx.1.fz); try simp only at z0 z1; go_wp2_with fail) | (refine step_own rfl ?_; go_simp; go_at_call 22; refine (HIm.out _).mono ?_; rintro e w' ⟨rfl, hb⟩; (first | (have hbx := Bx.keep hbx hb) | (have hbx := Bx.keep (Bx.new hst (0, 0) 26) hb) | (have hbx := Bx.keep (Bx.new HI1.out.drew (0, 0) 26) hb) | (have hbx := Bx.keep (Bx.new HI1.out (0, 0) 26).drew hb) | skip); (first | (have hst := Inv.keep hst hb) | (have hst := Inv.keep (Inv.alloc hst _) hb) | (have hst := Inv.keep HI1.out.drew hb) | (have hst := Inv.keep (Inv.alloc HI1.out.drew _) hb) | (have hst := Inv.keep (Inv.drew (Inv.alloc HI1.out _)) hb)); (have x0 := (hst.1 (W.heap.size, (a1, a2)) (by simp)).c0); (have x1 := (hst.1 (W.heap.size, (a1, a2)) (by simp)).c1); (have y0 := (hst.1 (W.heap.size + 1, (b1, b2)) (by simp)).c0); (have y1 := (hst.1 (W.heap.size + 1, (b1, b2)) (by simp)).c1); simp only at x0 x1 y0 y1; try (have z0 := hbx.1.c0); try (have z1 := hbx.1.c1); try (have zf := hbx.1.fz); try simp only at z0 z1; go_wp2_with fail))
    all_goals go_wp2_with fail
    all_goals go_meet
    all_goals first
      | exact ⟨_, rfl, rfl, rfl, Hid.mk1 hbx.1 r1 r2, Hid.mk2 hst hbx.2 r1 r2⟩
      | exact ⟨_, rfl, rfl, rfl, SpanBox.new _ (r1, r2) _, Inv.alloc hst _⟩
      | trace_state
  case rest =>
  obtain ⟨c8, rfl, rfl, rfl, HB8, HI8⟩ := hcut
  clear x0 x1 y0 y1 HI1
  have z0 := (HI8.out.1 (c5, (r1, r2)) (by simp)).c0
  have z1 := (HI8.out.1 (c5, (r1, r2)) (by simp)).c1
  obtain ⟨t0, t1, tf⟩ := HB8.out
  simp only at z0 z1 t0 t1
  go_wp2_with fail
  go_at_call 33
  refine (HEq.out _).mono ?_
  rintro e w9 ⟨rfl, hb⟩
  go_wp2_with fail
  go_ret
  exact ⟨rfl, HI8.out.2.2.1.trans (hb.mono HI8.out.2.2.1.size)⟩
end Go.Proofs.Ytenbplehiaofmaa.fnExactOverlapOf
