import Derived.Test.YtemejcbilhcebaaWayP
import Derived.Test.YtemejcbilhcebaaWalkX
import Derived.Test.YtemejcbilhcebaaMk07
import Derived.Test.YtemejcbilhcebaaMk08
import Derived.Test.YtemejcbilhcebaaImplNet
import Derived.OrdersHeld
import Derived.Deep.RegionHeld
namespace Go.Proofs.Ytemejcbilhcebaa
open Go.RowKit
set_option linter.unusedVariables false
set_option linter.unusedSimpArgs false

def cmpE (x y : WlkD) : Int := orI (cmpI x.a y.a) (cmpI x.b y.b)
theorem cmpE_neg (x y : WlkD) : cmpE x y < 0 ↔ x.a < y.a ∨ (x.a = y.a ∧ x.b < y.b) := by
  unfold cmpE orI cmpI
  by_cases h1 : x.a < y.a
  · simp [h1]
  · by_cases h2 : y.a < x.a
    · simp [h1, h2]; omega
    · have e : x.a = y.a := by omega
      by_cases h3 : x.b < y.b
      · simp [h1, h2, h3, e]
      · by_cases h4 : y.b < x.b
        · simp [h1, h2, h3, h4, e]
        · simp [h1, h2, h3, h4, e]
def EachOk (n : Nat) (x : WlkD) : Prop := 0 ≤ x.a ∧ x.a < x.b ∧ x.b < (n : Int) ∧ 1 ≤ x.m ∧ x.m ≤ 120
def StepOkW (n : Nat) (ws : List WlkD) (k : Nat) (hk : k < ws.length) : Prop := EachOk n ws[k] ∧ ∀ j (hj : j + 1 = k), (ws[j]'(by omega)).a < ws[k].a ∨ ((ws[j]'(by omega)).a = ws[k].a ∧ (ws[j]'(by omega)).b < ws[k].b)
def WksTo (n : Nat) (ws : List WlkD) (k : Nat) : Prop := ∀ j (hj : j < ws.length), j < k → StepOkW n ws j hj
theorem wksTo_succ {n : Nat} {ws : List WlkD} {k : Nat} (hk : k < ws.length) (h : WksTo n ws k) (h1 : StepOkW n ws k hk) : WksTo n ws (k + 1) := by
  intro j hj hjk
  by_cases e : j = k
  · subst e; exact h1
  · exact h j hj (by omega)
theorem wksOk_of {n : Nat} {ws : List WlkD} (hl : ws.length ≤ 12) (h : WksTo n ws ws.length) : WksOk n ws :=
  ⟨hl, fun x hx => by obtain ⟨i, hi, rfl⟩ := List.getElem_of_mem hx; exact (h i hi hi).1, fun i hi => (h (i + 1) hi hi).2 i rfl⟩
theorem WksOk.step {n : Nat} {ws : List WlkD} (h : WksOk n ws) (k : Nat) (hk : k < ws.length) : StepOkW n ws k hk :=
  ⟨h.each _ (List.getElem_mem _), fun j hj => by subst hj; exact h.asc j hk⟩
noncomputable def walksB (n : NetD) (ws : List WlkD) : Bool := @decide (NetGood n ∧ WksOk n.stops.length ws) (Classical.propDecidable _)
theorem walksB_yes {n : NetD} {ws : List WlkD} (h : NetGood n) (g : WksOk n.stops.length ws) : walksB n ws = true := by unfold walksB; exact @decide_eq_true _ (Classical.propDecidable _) (And.intro h g)
theorem walksB_no {n : NetD} {ws : List WlkD} (h : ¬ (NetGood n ∧ WksOk n.stops.length ws)) : walksB n ws = false := by unfold walksB; exact @decide_eq_false _ (Classical.propDecidable _) h
theorem walksB_iff {n : NetD} {ws : List WlkD} (h : walksB n ws = true) : NetGood n ∧ WksOk n.stops.length ws := by unfold walksB at h; exact @of_decide_eq_true _ (Classical.propDecidable _) h
theorem walk_at {w : World} {b : Option Addr} {d : Nat} {xs : List WlkD} (h : WalksAt w (.slice b xs.length d) xs) (i : Nat) (hi : i < xs.length) :
    ∃ g off, b = some ⟨g, off, none⟩ ∧ g < w.heap.size ∧ w.cell? ⟨g, off + i * 3, none⟩ = some (.int .i64 xs[i].a) ∧ w.cell? ⟨g, off + i * 3 + 1, none⟩ = some (.int .i64 xs[i].b) ∧ w.cell? ⟨g, off + i * 3 + 2, none⟩ = some (.int .i64 xs[i].m) := by
  obtain ⟨a, c, he, _, _, HC⟩ := walks_open h
  simp at he
  obtain ⟨rfl, rfl⟩ := he
  exact HC.out i hi
theorem belQw {Q : Program} {f : FuncId} {args : Array Value} {w : World} {v : Value} (h : Calls Q f args w fun e w' => e = .returned v ∧ w = w') : Calls Q f args w fun e w' => e = .returned v ∧ Below w.heap.size w w' :=
  h.mono fun _ _ ⟨he, hw⟩ => ⟨he, by subst hw; exact Below.refl _ _⟩
theorem keepW4 {W w w' : World} {p0 p1 p2 p3 : Addr} {x0 x1 x2 x3 : Value} (hb : Below w.heap.size w w') (h : w.cell? p0 = some x0 ∧ w.cell? p1 = some x1 ∧ w.cell? p2 = some x2 ∧ w.cell? p3 = some x3 ∧ Below W.heap.size W w) : w'.cell? p0 = some x0 ∧ w'.cell? p1 = some x1 ∧ w'.cell? p2 = some x2 ∧ w'.cell? p3 = some x3 ∧ Below W.heap.size W w' := by
  obtain ⟨h0, h1, h2, h3, hl⟩ := h
  exact ⟨bkeep hb h0, bkeep hb h1, bkeep hb h2, bkeep hb h3, hl.trans (hb.mono hl.size)⟩

set_option maxRecDepth 100000 in
set_option maxHeartbeats 2000000 in
theorem compareEnds_any (x y : WlkD) (w : World) : Calls Try.prog 90 #[wlkV x, wlkV y] w fun e w' => e = .returned (.int .i64 (cmpE x y)) ∧ Below w.heap.size w w' := by
  obtain ⟨xa, xb, xm⟩ := x
  obtain ⟨ya, yb, ym⟩ := y
  unfold wlkV cmpE
  simp only
  have H1 := Lib.hid (fun W => belQw (cmpInt_any xa ya W))
  have H2 := Lib.hid (fun W => belQw (cmpInt_any xb yb W))
  have H3 := Lib.hid (fun b W h0 h1 => belQw (cmpOr_any (cmpI xa ya) (cmpI xb yb) b W h0 h1))
  generalize cmpI xa ya = r1 at *
  generalize cmpI xb yb = r2 at *
  generalize orI r1 r2 = r3 at *
  go_enter Try.func90, Try.ntmps90
  go_wp2_with fail
  obtain ⟨w1, hw1⟩ : ∃ w1 : World, w1 = (w.alloc (.cells #[.int .i64 xa, .int .i64 xb, .int .i64 xm] 67)).alloc (.cells #[.int .i64 ya, .int .i64 yb, .int .i64 ym] 67) := ⟨_, rfl⟩
  have c0 : w1.cell? ⟨w.heap.size, 0, none⟩ = some (.int .i64 xa) := by rw [hw1]; go_simp
  have c1 : w1.cell? ⟨w.heap.size, 1, none⟩ = some (.int .i64 xb) := by rw [hw1]; go_simp
  have c2 : w1.cell? ⟨w.heap.size + 1, 0, none⟩ = some (.int .i64 ya) := by rw [hw1]; go_simp
  have c3 : w1.cell? ⟨w.heap.size + 1, 1, none⟩ = some (.int .i64 yb) := by rw [hw1]; go_simp
  have hbel : Below w.heap.size w w1 := by rw [hw1]; exact ((Below.refl _ _).alloc (Nat.le_refl _) _).alloc (by simp) _
  rw [← hw1]
  clear hw1
  go_region_held3 (fun w' => w'.cell? ⟨w.heap.size, 0, none⟩ = some (.int .i64 xa) ∧ w'.cell? ⟨w.heap.size, 1, none⟩ = some (.int .i64 xb) ∧ w'.cell? ⟨w.heap.size + 1, 0, none⟩ = some (.int .i64 ya) ∧ w'.cell? ⟨w.heap.size + 1, 1, none⟩ = some (.int .i64 yb) ∧ Below w.heap.size w w')
    (first | (exact ⟨c0, c1, c2, c3, hbel.drew⟩) | (exact keepW4 hb (by assumption)) | (exact keepW4 ((Below.refl _ _).alloc (Nat.le_refl _) _) (by assumption)))
    (first | (go_at_call_of 113 xa; refine (H1.out _).mono ?_; rintro e w' ⟨rfl, hb⟩) | (go_at_call_of 113 xb; refine (H2.out _).mono ?_; rintro e w' ⟨rfl, hb⟩) | (go_at_call 112; refine (H3.out _ _ (by go_simp) (by go_simp)).mono ?_; rintro e w' ⟨rfl, hb⟩))

  obtain ⟨_, _, _, _, qb⟩ := (by assumption : _ ∧ _)
  go_wp2_with fail
  go_ret
  exact ⟨rfl, qb⟩

theorem keepW7 {W w w' : World} {p0 p1 p2 p3 p4 p5 p6 : Addr} {x0 x1 x2 x3 x4 x5 x6 : Value} (hb : Below w.heap.size w w')
    (h : w.cell? p0 = some x0 ∧ w.cell? p1 = some x1 ∧ w.cell? p2 = some x2 ∧ w.cell? p3 = some x3 ∧ w.cell? p4 = some x4 ∧ w.cell? p5 = some x5 ∧ w.cell? p6 = some x6 ∧ Below W.heap.size W w) :
    w'.cell? p0 = some x0 ∧ w'.cell? p1 = some x1 ∧ w'.cell? p2 = some x2 ∧ w'.cell? p3 = some x3 ∧ w'.cell? p4 = some x4 ∧ w'.cell? p5 = some x5 ∧ w'.cell? p6 = some x6 ∧ Below W.heap.size W w' := by
  obtain ⟨h0, h1, h2, h3, h4, h5, h6, hl⟩ := h
  exact ⟨bkeep hb h0, bkeep hb h1, bkeep hb h2, bkeep hb h3, bkeep hb h4, bkeep hb h5, bkeep hb h6, hl.trans (hb.mono hl.size)⟩
set_option maxRecDepth 100000 in
set_option maxHeartbeats 4000000 in
theorem implWalks_any (nv lv : Value) (n : NetD) (ws : List WlkD) (w : World) (hr : NetAt w nv n) (hw : WalksAt w lv ws) (hf : NetFits n) :
    Calls Try.prog 35 #[nv, lv] w fun e w' => e = .returned (.bool (walksB n ws)) ∧ Below w.heap.size w w' := by
  have HN := Lib.hid (fun W (hW : Below w.heap.size w W) => implValid_any nv n W (hr.below rfl hW) hf)
  obtain ⟨a, c, a', c', rfl, -, -⟩ := net_open hr
  have HT := Lib.hid hw
  obtain ⟨b, d, rfl⟩ := WalkS_open hw
  clear hr hw hf
  by_cases hg : NetGood n
  · rw [netB_yes hg] at HN
    have hst : n.stops.length ≤ 8 := hg.1.2.1
    have HG := Lib.hid hg
    clear hg
    by_cases hlen : ws.length ≤ 12
    · go_enter Try.func35, Try.ntmps35
      go_wp2_with fail
      go_at_call 11
      refine (HN.out _ ((Below.refl _ _).alloc (Nat.le_refl _) _)).mono ?_
      rintro e w1 ⟨rfl, hb1⟩
      have HB1 : Hid (Below w.heap.size w w1 ∧ w.heap.size < w1.heap.size) := ⟨((Below.refl _ _).alloc (Nat.le_refl _) _).trans (hb1.mono (by simp)), by have := hb1.size; simp at this; omega⟩
      have p0 : w1.cell? ⟨w.heap.size, 0, none⟩ = some (.slice a n.stops.length c) := bkeep hb1 (by go_simp)
      clear hb1 HN
      go_wp2_with fail
      go_loopw [17] (fun i wr => ∃ k : Nat, k ≤ ws.length ∧ i = .int .i64 k ∧ Hid (WksTo n.stops.length ws k) ∧ wr.cell? ⟨w.heap.size, 0, none⟩ = some (.slice a n.stops.length c) ∧ Hid (Below w.heap.size w wr ∧ w.heap.size < wr.heap.size))
        (fun i _ => ws.length - (RowKit.intOf i).toNat)
      case atStart => exact ⟨0, Nat.zero_le _, rfl, (fun j hj h => by omega), p0, HB1⟩
      case round =>
        clear p0 HB1
        obtain ⟨k, hk, rfl, HTo, p0, HB⟩ := hrel
        by_cases hlt : k < ws.length
        · obtain ⟨g, go, rfl, hgb, y0, y1, y2⟩ := walk_at (HT.out.below rfl HB.out.1) k hlt
          have hk1 : (k : Int) < (ws.length : Int) := by omega
          have HPrev : Hid (∀ j (hj : j < ws.length), wr.cell? ⟨g, go + j * 3, none⟩ = some (.int .i64 (ws[j]'hj).a) ∧ wr.cell? ⟨g, go + j * 3 + 1, none⟩ = some (.int .i64 (ws[j]'hj).b) ∧ wr.cell? ⟨g, go + j * 3 + 2, none⟩ = some (.int .i64 (ws[j]'hj).m)) := fun j hj => by
            obtain ⟨g', go', he, _, z0, z1, z2⟩ := walk_at (HT.out.below rfl HB.out.1) j hj
            simp at he
            obtain ⟨rfl, rfl⟩ := he
            exact ⟨z0, z1, z2⟩
          have HStep : Hid (EachOk n.stops.length ws[k] → (∀ j (hj : j + 1 = k) (hjl : j < ws.length), (ws[j]'hjl).a < ws[k].a ∨ ((ws[j]'hjl).a = ws[k].a ∧ (ws[j]'hjl).b < ws[k].b)) → WksTo n.stops.length ws (k + 1)) := fun h1 h2 => wksTo_succ hlt HTo.out ⟨h1, fun j hj => h2 j hj (by omega)⟩
          have HNoE : Hid (¬ EachOk n.stops.length ws[k] → ¬ (NetGood n ∧ WksOk n.stops.length ws)) := fun h hg => h (hg.2.step k hlt).1
          have HNoC : Hid (∀ j (hj : j < ws.length), j + 1 = k → ¬ ((ws[j]'hj).a < ws[k].a ∨ ((ws[j]'hj).a = ws[k].a ∧ (ws[j]'hj).b < ws[k].b)) → ¬ (NetGood n ∧ WksOk n.stops.length ws)) := fun j hj e h hg => h ((hg.2.step k hlt).2 j e)
          clear HTo
          generalize ws[k] = x at *
          obtain ⟨xa, xb, xm⟩ := x
          simp only at *
          have hz0 := HB.out.2
          by_cases hv0 : xa < 0
          · have hd0 : decide (xa < 0) = true := decide_eq_true hv0
            have HNO := Lib.hid (HNoE.out (by unfold EachOk; simp only; omega))
            clear HNoE HStep HPrev HNoC
            go_wp2_with fail
            go_ret
            exact ⟨ret_bool (walksB_no HNO.out).symm, HB.out.1.alloc (by have := HB.out.2; omega) _⟩
          · have hd0 : decide (xa < 0) = false := decide_eq_false hv0
            by_cases hv1 : xb ≤ xa
            · have hd1 : decide (xb ≤ xa) = true := decide_eq_true hv1
              have HNO := Lib.hid (HNoE.out (by unfold EachOk; simp only; omega))
              clear HNoE HStep HPrev HNoC
              go_wp2_with fail
              go_ret
              exact ⟨ret_bool (walksB_no HNO.out).symm, HB.out.1.alloc (by have := HB.out.2; omega) _⟩
            · have hd1 : decide (xb ≤ xa) = false := decide_eq_false hv1
              by_cases hv2 : (n.stops.length : Int) ≤ xb
              · have hd2 : decide ((n.stops.length : Int) ≤ xb) = true := decide_eq_true hv2
                have HNO := Lib.hid (HNoE.out (by unfold EachOk; simp only; omega))
                clear HNoE HStep HPrev HNoC
                go_wp2_with fail
                go_ret
                exact ⟨ret_bool (walksB_no HNO.out).symm, HB.out.1.alloc (by have := HB.out.2; omega) _⟩
              · have hd2 : decide ((n.stops.length : Int) ≤ xb) = false := decide_eq_false hv2
                by_cases hv3 : xm < 1
                · have hd3 : decide (xm < 1) = true := decide_eq_true hv3
                  have HNO := Lib.hid (HNoE.out (by unfold EachOk; simp only; omega))
                  clear HNoE HStep HPrev HNoC
                  go_wp2_with fail
                  go_ret
                  exact ⟨ret_bool (walksB_no HNO.out).symm, HB.out.1.alloc (by have := HB.out.2; omega) _⟩
                · have hd3 : decide (xm < 1) = false := decide_eq_false hv3
                  by_cases hv4 : 120 < xm
                  · have hd4 : decide (120 < xm) = true := decide_eq_true hv4
                    have HNO := Lib.hid (HNoE.out (by unfold EachOk; simp only; omega))
                    clear HNoE HStep HPrev HNoC
                    go_wp2_with fail
                    go_ret
                    exact ⟨ret_bool (walksB_no HNO.out).symm, HB.out.1.alloc (by have := HB.out.2; omega) _⟩
                  · have hd4 : decide (120 < xm) = false := decide_eq_false hv4
                    have HOk : Hid (EachOk n.stops.length ⟨xa, xb, xm⟩) := by show EachOk _ _; unfold EachOk; simp only; omega
                    clear HNoE hv0 hv1 hv2 hv3 hv4
                    cases k with
                    | zero =>
                      have HNx := Lib.hid (HStep.out HOk.out (fun j hj _ => by omega))
                      have hgt : decide ((0 : Int) < ((0 : Nat) : Int)) = false := by simp
                      have hz := HB.out.2
                      simp only [Nat.zero_mul, Nat.add_zero] at y0 y1 y2
                      clear HStep HPrev HNoC
                      go_wp2_with fail
                      go_quiet (fail)
                      go_wp2_with fail
                      go_roundw
                      case rel => exact ⟨1, by omega, by go_num, HNx, acell p0 _, ⟨below_drewN (HB.out.1.alloc (by have := HB.out.2; omega) _) _, by have := HB.out.2; simp; omega⟩⟩
                      case measure => simp [RowKit.intOf]; omega
                    | succ j =>
                      have hjl : j < ws.length := by omega
                      have z := HPrev.out j hjl
                      have hcm := cmpE_neg ws[j] ⟨xa, xb, xm⟩
                      have HStep2 : Hid (cmpE ws[j] ⟨xa, xb, xm⟩ < 0 → WksTo n.stops.length ws (j + 1 + 1)) := fun h => HStep.out HOk.out (fun i hi hil => by
                        obtain rfl : i = j := by omega
                        exact hcm.1 h)
                      have HNo2 : Hid (¬ cmpE ws[j] ⟨xa, xb, xm⟩ < 0 → ¬ (NetGood n ∧ WksOk n.stops.length ws)) := fun h => HNoC.out j hjl rfl (fun g => h (hcm.2 g))
                      have HC := Lib.hid (fun W => compareEnds_any ws[j] ⟨xa, xb, xm⟩ W)
                      clear HStep HPrev HNoC hcm
                      generalize cmpE ws[j] ⟨xa, xb, xm⟩ = ce at *
                      generalize ws[j] = y at *
                      obtain ⟨ya, yb, ym⟩ := y
                      unfold wlkV at HC
                      simp only at *
                      obtain ⟨z0, z1, z2⟩ := z
                      have hgt : decide ((0 : Int) < ((j + 1 : Nat) : Int)) = true := decide_eq_true (by omega)
                      have hgt2 : decide ((0 : Int) < ((j : Nat) : Int) + 1) = true := decide_eq_true (by omega)
                      have hw1 : IntKind.i64.wrap (((j : Nat) : Int) + 1 - 1) = (j : Int) := by rw [show ((j : Nat) : Int) + 1 - 1 = j by omega]; exact IntWalk.i64_in _ (by omega)
                      have hz := HB.out.2
                      have hw2 : IntKind.i64.wrap (((j + 1 : Nat) : Int) - 1) = (j : Int) := by rw [show ((j + 1 : Nat) : Int) - 1 = j by omega]; exact IntWalk.i64_in _ (by omega)
                      have hw3 : IntKind.i64.wrap (j : Int) = (j : Int) := IntWalk.i64_in _ (by omega)
                      have hjj : (j : Int) < (ws.length : Int) := by omega
                      have hj0 : (0 : Int) ≤ (j : Int) := by omega
                      go_wp2_with fail
                      obtain ⟨w1, hw1e⟩ : ∃ w1 : World, w1 = wr.alloc (.cells #[.int .i64 xa, .int .i64 xb, .int .i64 xm] 67) := ⟨_, rfl⟩
                      have q0 : w1.cell? ⟨w.heap.size, 0, none⟩ = some (.slice a n.stops.length c) := by rw [hw1e]; exact acell p0 _
                      have q1 : w1.cell? ⟨g, go + j * 3, none⟩ = some (.int .i64 ya) := by rw [hw1e]; exact acell z0 _
                      have q2 : w1.cell? ⟨g, go + j * 3 + 1, none⟩ = some (.int .i64 yb) := by rw [hw1e]; exact acell z1 _
                      have q3 : w1.cell? ⟨g, go + j * 3 + 2, none⟩ = some (.int .i64 ym) := by rw [hw1e]; exact acell z2 _
                      have q4 : w1.cell? ⟨wr.heap.size, 0, none⟩ = some (.int .i64 xa) := by rw [hw1e]; go_simp
                      have q5 : w1.cell? ⟨wr.heap.size, 1, none⟩ = some (.int .i64 xb) := by rw [hw1e]; go_simp
                      have q6 : w1.cell? ⟨wr.heap.size, 2, none⟩ = some (.int .i64 xm) := by rw [hw1e]; go_simp
                      have qbel : Below w.heap.size w w1 := by rw [hw1e]; exact HB.out.1.alloc (by omega) _
                      have hz1 : w.heap.size < w1.heap.size := by rw [hw1e]; simp; omega
                      rw [← hw1e]
                      clear hw1e z0 z1 z2 y0 y1 y2 p0
                      go_region_held3 (fun w' => w'.cell? ⟨w.heap.size, 0, none⟩ = some (.slice a n.stops.length c) ∧ w'.cell? ⟨g, go + j * 3, none⟩ = some (.int .i64 ya) ∧ w'.cell? ⟨g, go + j * 3 + 1, none⟩ = some (.int .i64 yb) ∧ w'.cell? ⟨g, go + j * 3 + 2, none⟩ = some (.int .i64 ym) ∧ w'.cell? ⟨wr.heap.size, 0, none⟩ = some (.int .i64 xa) ∧ w'.cell? ⟨wr.heap.size, 1, none⟩ = some (.int .i64 xb) ∧ w'.cell? ⟨wr.heap.size, 2, none⟩ = some (.int .i64 xm) ∧ Below w1.heap.size w1 w')
                        (first | (exact ⟨q0, q1, q2, q3, q4, q5, q6, (Below.refl _ _).drew⟩) | (exact keepW7 hb (by assumption)))
                        ((go_at_call 90; refine (HC.out _).mono ?_; rintro e w' ⟨rfl, hb⟩))
                      obtain ⟨r0, -, -, -, -, -, -, rb⟩ := (by assumption : _ ∧ _)
                      have hrz := rb.size
                      clear q0 q1 q2 q3 q4 q5 q6
                      by_cases hce : ce < 0
                      · have hdc : decide (0 ≤ ce) = false := decide_eq_false (by omega)
                        have HNx := Lib.hid (HStep2.out hce)
                        clear HStep2 HNo2
                        go_wp2_with fail
                        go_roundw
                        case rel => exact ⟨j + 1 + 1, by omega, by go_num, HNx, r0, ⟨qbel.trans (rb.mono (by omega)), by omega⟩⟩
                        case measure => simp [RowKit.intOf]; omega
                      · have hdc : decide (0 ≤ ce) = true := decide_eq_true (by omega)
                        have HNO := Lib.hid (HNo2.out (by omega))
                        clear HStep2 HNo2
                        go_wp2_with fail
                        go_ret
                        exact ⟨ret_bool (walksB_no HNO.out).symm, qbel.trans (rb.mono (by omega))⟩
        · have HYES : Hid (NetGood n ∧ WksOk n.stops.length ws) := ⟨HG.out, wksOk_of hlen (by have := HTo.out; rw [show k = ws.length by omega] at this; exact this)⟩
          go_wp2_with fail
          go_ret
          exact ⟨ret_bool (walksB_yes HYES.out.1 HYES.out.2).symm, HB.out.1⟩
    · rw [walksB_no (fun h => hlen h.2.len)]
      have hd : decide ((12 : Int) < (ws.length : Int)) = true := decide_eq_true (by omega)
      go_enter Try.func35, Try.ntmps35
      go_wp2_with fail
      go_at_call 11
      refine (HN.out _ ((Below.refl _ _).alloc (Nat.le_refl _) _)).mono ?_
      rintro e w1 ⟨rfl, hb1⟩
      have HB1 : Hid (Below w.heap.size w w1) := ((Below.refl _ _).alloc (Nat.le_refl _) _).trans (hb1.mono (by simp))
      clear hb1
      go_wp2_with fail
      go_ret
      exact ⟨rfl, HB1.out⟩
  · rw [netB_no hg] at HN
    rw [walksB_no (fun h => hg h.1)]
    go_enter Try.func35, Try.ntmps35
    go_wp2_with fail
    go_at_call 11
    refine (HN.out _ ((Below.refl _ _).alloc (Nat.le_refl _) _)).mono ?_
    rintro e w1 ⟨rfl, hb1⟩
    have HB1 : Hid (Below w.heap.size w w1) := ((Below.refl _ _).alloc (Nat.le_refl _) _).trans (hb1.mono (by simp))
    clear hb1
    go_wp2_with fail
    go_ret
    exact ⟨rfl, HB1.out⟩
end Go.Proofs.Ytemejcbilhcebaa
