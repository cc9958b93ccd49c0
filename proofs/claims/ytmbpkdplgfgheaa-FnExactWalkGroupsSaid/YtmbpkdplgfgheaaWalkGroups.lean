/-
  CONTRACT: impl.WalkGroups.
-/
import Derived.Test.YtmbpkdplgfgheaaWalkGroupsI
namespace Go.Proofs.Ytmbpkdplgfgheaa
open Go.RowKit
set_option linter.unusedVariables false
set_option linter.unusedSimpArgs false

noncomputable def grOk (n : NetD) (ws : List WlkD) (lim : Int) : Bool := walksB n ws && (decide (0 ≤ lim) && decide (lim ≤ 120))
noncomputable def grAns (n : NetD) (ws : List WlkD) (lim : Int) : List (List Int) := if grOk n ws lim then gsF (shortW ws lim) n.stops.length n.stops.length else []
def GrpsB (B : Nat) (res : List (List Int)) (b : Bool) (e : Ending) (w' : World) : Prop := ∃ v, e = .returned (.tuple #[v, .bool b]) ∧ GrpsIn B w'.heap.size w' v res
theorem GrpsOwn.none {l : Nat} {w : World} {v : Value} (h : w.ownsRow l 34 1 v 0 []) : GrpsOwn l w.heap.size w v [] [] :=
  ⟨h, fun g hg => (h.lt g hg).2, rfl, fun i h => absurd h (Nat.not_lt_zero _), fun i h => absurd h (Nat.not_lt_zero _), fun i j h => absurd h (Nat.not_lt_zero _)⟩
theorem GrpsOwn.at_later {l u : Nat} {w w' : World} {v : Value} {vs : List Value} {xss : List (List Int)} (h : GrpsOwn l u w v vs xss) (hb : Below w.heap.size w w') : GrpsOwn l u w' v vs xss :=
  ⟨own_later h.row hb, h.hi, h.len, fun i a b => (h.each i a b).later hb, h.out, h.apart⟩
theorem lit_grps {B : Nat} (w : World) (hB : B ≤ w.heap.size) : (w.alloc (.cells #[] 34)).ownsRow B 34 1 (.slice (some ⟨w.heap.size, 0, none⟩) 0 0) 0 [] := by
  have h := World.ownsRow_lit (base := B) (e := 34) (size := 1) w #[] 0 hB (by decide) (by simp)
  simpa using h
theorem wlkC_oneN (w : World) (s : WlkD) (t : TypeId) (m : Nat) (hm : m = w.heap.size) : ∀ j x, (wlkC [s])[j]? = some x → (w.alloc (.cells #[.int .i64 s.a, .int .i64 s.b, .int .i64 s.m] t)).cell? ((⟨m, 0, none⟩ : Addr).add j) = some x := by
  subst hm; exact wlkC_one w s t
theorem row_first {B : Nat} {w : World} {a : Option Addr} {c : Nat} {R : List Int} (h : w.ownsRow B 3 1 (.slice a R.length c) R.length (ints R)) (hn : 0 < R.length) :
    ∃ g, a = some ⟨g, 0, none⟩ ∧ B ≤ g ∧ g < w.heap.size ∧ w.cell? ⟨g, 0, none⟩ = some (.int .i64 (R.getD 0 0)) := by
  obtain ⟨g, h1, h2, h3, h4⟩ := own_cells h hn rfl
  refine ⟨g, h1, h2, h3, ?_⟩
  rw [h4 0 hn]
  cases R with
  | nil => simp at hn
  | cons x xs => rfl

set_option maxRecDepth 100000 in
set_option maxHeartbeats 4000000 in
theorem implGroups_any (nv lv : Value) (n : NetD) (ws : List WlkD) (lim : Int) (w : World) (hr : NetAt w nv n) (hl : WalksAt w lv ws) (hf : NetFits n) :
    Calls Try.prog 43 #[nv, lv, .int .i64 lim] w fun e w' => GrpsB w.heap.size (grAns n ws lim) (grOk n ws lim) e w' ∧ Below w.heap.size w w' := by
  have HW := Lib.hid (fun W (h : Below w.heap.size w W) => implWalks_any nv lv n ws W (hr.below rfl h) (hl.below rfl h) hf)
  have HL := Lib.hid hl
  unfold grAns grOk
  cases hw : walksB n ws with
  | false =>
    rw [hw] at HW
    simp only [Bool.false_eq_true, if_false, Bool.false_and]
    obtain ⟨a, c, a', c', rfl, -, -⟩ := net_open hr
    obtain ⟨lb, ld, rfl⟩ := WalkS_open hl
    clear hw hr hl hf
    go_enter Try.func43, Try.ntmps43
    go_wp2_with fail
    obtain ⟨wa, hwa⟩ : ∃ wa : World, wa = (w.alloc (.cells #[.slice a n.stops.length c, .slice a' n.lines.length c'] 27)).alloc (.cells #[] 34) := ⟨_, rfl⟩
    have hba : Below w.heap.size w wa := by rw [hwa]; exact ((Below.refl _ _).alloc (Nat.le_refl _) _).alloc (by simp) _
    have HO : Hid (wa.ownsRow (w.heap.size + 1) 34 1 (.slice (some ⟨w.heap.size + 1, 0, none⟩) 0 0) 0 []) := by
      show World.ownsRow _ _ _ _ _ _ _
      rw [hwa]
      have := lit_grps (B := w.heap.size + 1) (w.alloc (.cells #[.slice a n.stops.length c, .slice a' n.lines.length c'] 27)) (by simp)
      simpa using this
    have p0 : wa.cell? ⟨w.heap.size, 0, none⟩ = some (.slice a n.stops.length c) := by rw [hwa]; go_simp
    have p1 : wa.cell? ⟨w.heap.size, 1, none⟩ = some (.slice a' n.lines.length c') := by rw [hwa]; go_simp
    have hza : w.heap.size + 1 < wa.heap.size := by rw [hwa]; simp
    rw [← hwa]
    clear hwa
    go_at_call 33
    refine (HW.out _ hba).mono ?_
    rintro e w1 ⟨rfl, hb1⟩
    have HO1 := Lib.hid (own_later HO.out hb1)
    have p0 := bkeep hb1 p0
    have p1 := bkeep hb1 p1
    have HB1 : Hid (Below w.heap.size w w1 ∧ w.heap.size + 1 < w1.heap.size) := ⟨hba.trans (hb1.mono hba.size), by have := hb1.size; omega⟩
    clear hb1 hba hza HO
    go_wp2_with fail
    go_ret2
    exact ⟨⟨_, rfl, ⟨[], GrpsOwn.none (own_base HO1.out (Nat.le_succ _))⟩⟩, HB1.out.1⟩
  | true =>
    rw [hw] at HW
    by_cases hn : lim < 0
    · have hd1 : decide (lim < 0) = true := decide_eq_true hn
      rw [show decide (0 ≤ lim) = false from decide_eq_false (by omega)]
      simp only [Bool.false_eq_true, if_false, Bool.false_and, Bool.and_false]
      obtain ⟨a, c, a', c', rfl, -, -⟩ := net_open hr
      obtain ⟨lb, ld, rfl⟩ := WalkS_open hl
      clear hw hr hl hf
      go_enter Try.func43, Try.ntmps43
      go_wp2_with fail
      obtain ⟨wa, hwa⟩ : ∃ wa : World, wa = (w.alloc (.cells #[.slice a n.stops.length c, .slice a' n.lines.length c'] 27)).alloc (.cells #[] 34) := ⟨_, rfl⟩
      have hba : Below w.heap.size w wa := by rw [hwa]; exact ((Below.refl _ _).alloc (Nat.le_refl _) _).alloc (by simp) _
      have HO : Hid (wa.ownsRow (w.heap.size + 1) 34 1 (.slice (some ⟨w.heap.size + 1, 0, none⟩) 0 0) 0 []) := by
        show World.ownsRow _ _ _ _ _ _ _
        rw [hwa]
        have := lit_grps (B := w.heap.size + 1) (w.alloc (.cells #[.slice a n.stops.length c, .slice a' n.lines.length c'] 27)) (by simp)
        simpa using this
      have p0 : wa.cell? ⟨w.heap.size, 0, none⟩ = some (.slice a n.stops.length c) := by rw [hwa]; go_simp
      have p1 : wa.cell? ⟨w.heap.size, 1, none⟩ = some (.slice a' n.lines.length c') := by rw [hwa]; go_simp
      have hza : w.heap.size + 1 < wa.heap.size := by rw [hwa]; simp
      rw [← hwa]
      clear hwa
      go_at_call 33
      refine (HW.out _ hba).mono ?_
      rintro e w1 ⟨rfl, hb1⟩
      have HO1 := Lib.hid (own_later HO.out hb1)
      have p0 := bkeep hb1 p0
      have p1 := bkeep hb1 p1
      have HB1 : Hid (Below w.heap.size w w1 ∧ w.heap.size + 1 < w1.heap.size) := ⟨hba.trans (hb1.mono hba.size), by have := hb1.size; omega⟩
      clear hb1 hba hza HO
      go_wp2_with fail
      go_ret2
      exact ⟨⟨_, rfl, ⟨[], GrpsOwn.none (own_base HO1.out (Nat.le_succ _))⟩⟩, HB1.out.1⟩
    by_cases hx : 120 < lim
    · have hd1 : decide (lim < 0) = false := decide_eq_false hn
      have hd2 : decide (120 < lim) = true := decide_eq_true hx
      rw [show decide (lim ≤ 120) = false from decide_eq_false (by omega)]
      simp only [Bool.false_eq_true, if_false, Bool.false_and, Bool.and_false]
      obtain ⟨a, c, a', c', rfl, -, -⟩ := net_open hr
      obtain ⟨lb, ld, rfl⟩ := WalkS_open hl
      clear hw hr hl hf
      go_enter Try.func43, Try.ntmps43
      go_wp2_with fail
      obtain ⟨wa, hwa⟩ : ∃ wa : World, wa = (w.alloc (.cells #[.slice a n.stops.length c, .slice a' n.lines.length c'] 27)).alloc (.cells #[] 34) := ⟨_, rfl⟩
      have hba : Below w.heap.size w wa := by rw [hwa]; exact ((Below.refl _ _).alloc (Nat.le_refl _) _).alloc (by simp) _
      have HO : Hid (wa.ownsRow (w.heap.size + 1) 34 1 (.slice (some ⟨w.heap.size + 1, 0, none⟩) 0 0) 0 []) := by
        show World.ownsRow _ _ _ _ _ _ _
        rw [hwa]
        have := lit_grps (B := w.heap.size + 1) (w.alloc (.cells #[.slice a n.stops.length c, .slice a' n.lines.length c'] 27)) (by simp)
        simpa using this
      have p0 : wa.cell? ⟨w.heap.size, 0, none⟩ = some (.slice a n.stops.length c) := by rw [hwa]; go_simp
      have p1 : wa.cell? ⟨w.heap.size, 1, none⟩ = some (.slice a' n.lines.length c') := by rw [hwa]; go_simp
      have hza : w.heap.size + 1 < wa.heap.size := by rw [hwa]; simp
      rw [← hwa]
      clear hwa
      go_at_call 33
      refine (HW.out _ hba).mono ?_
      rintro e w1 ⟨rfl, hb1⟩
      have HO1 := Lib.hid (own_later HO.out hb1)
      have p0 := bkeep hb1 p0
      have p1 := bkeep hb1 p1
      have HB1 : Hid (Below w.heap.size w w1 ∧ w.heap.size + 1 < w1.heap.size) := ⟨hba.trans (hb1.mono hba.size), by have := hb1.size; omega⟩
      clear hb1 hba hza HO
      go_wp2_with fail
      go_ret2
      exact ⟨⟨_, rfl, ⟨[], GrpsOwn.none (own_base HO1.out (Nat.le_succ _))⟩⟩, HB1.out.1⟩
    have hd1 : decide (lim < 0) = false := decide_eq_false hn
    have hd2 : decide (120 < lim) = false := decide_eq_false hx
    rw [show decide (0 ≤ lim) = true from decide_eq_true (by omega), show decide (lim ≤ 120) = true from decide_eq_true (by omega)]
    obtain ⟨hg, hv⟩ := walksB_iff hw
    have hn8 := netGood_stops hg
    have hwl := hv.len
    have HSW := Lib.hid (short_ok hv lim)
    have HTT := Lib.hid (fun s (hs : s < n.stops.length) W (h : Below w.heap.size w W) u (hu : WalksAt W u (shortW ws lim)) => walkGroupOf_any nv u n (shortW ws lim) s W (hr.below rfl h) hu HSW.out hn8 hs)
    have HYes := Lib.hid (fun s (hs : s < n.stops.length) h => gsF_yes HSW.out hs h)
    have HNo := Lib.hid (fun s (hs : s < n.stops.length) h => gsF_no HSW.out hs h)
    have HPos := Lib.hid (fun s (hs : s < n.stops.length) => grp_pos HSW.out hs)
    have HAll : Hid (shortW (ws.take ws.length) lim = shortW ws lim) := by show _ = _; rw [List.take_length]
    have HStep := Lib.hid (fun k (h : k < ws.length) => short_succ (lim := lim) h)
    simp only [Bool.true_and, if_true]
    obtain ⟨a, c, a', c', rfl, -, -⟩ := net_open hr
    obtain ⟨lb, ld, rfl⟩ := WalkS_open hl
    clear hw hr hl hf hg hv hn hx
    obtain ⟨i0, hi0, hz0, hz1, hz2⟩ := info_parts infoWalk
    obtain ⟨j0, hj0, hy0, hy1, hy2⟩ := info_parts infoIntS
    generalize hSWe : shortW ws lim = SW at *
    clear hSWe
    go_enter Try.func43, Try.ntmps43
    go_wp2_with fail
    obtain ⟨wa, hwa⟩ : ∃ wa : World, wa = (w.alloc (.cells #[.slice a n.stops.length c, .slice a' n.lines.length c'] 27)).alloc (.cells #[] 34) := ⟨_, rfl⟩
    have hba : Below w.heap.size w wa := by rw [hwa]; exact ((Below.refl _ _).alloc (Nat.le_refl _) _).alloc (by simp) _
    have HO : Hid (wa.ownsRow (w.heap.size + 1) 34 1 (.slice (some ⟨w.heap.size + 1, 0, none⟩) 0 0) 0 []) := by
      show World.ownsRow _ _ _ _ _ _ _
      rw [hwa]
      have := lit_grps (B := w.heap.size + 1) (w.alloc (.cells #[.slice a n.stops.length c, .slice a' n.lines.length c'] 27)) (by simp)
      simpa using this
    have p0 : wa.cell? ⟨w.heap.size, 0, none⟩ = some (.slice a n.stops.length c) := by rw [hwa]; go_simp
    have p1 : wa.cell? ⟨w.heap.size, 1, none⟩ = some (.slice a' n.lines.length c') := by rw [hwa]; go_simp
    have hza : w.heap.size + 1 < wa.heap.size := by rw [hwa]; simp
    rw [← hwa]
    clear hwa
    go_at_call 33
    refine (HW.out _ hba).mono ?_
    rintro e w1 ⟨rfl, hb1⟩
    have HO1 := Lib.hid (own_later HO.out hb1)
    have p0 := bkeep hb1 p0
    have p1 := bkeep hb1 p1
    have HB1 : Hid (Below w.heap.size w w1 ∧ w.heap.size + 1 < w1.heap.size) := ⟨hba.trans (hb1.mono hba.size), by have := hb1.size; omega⟩
    clear hb1 hba hza HO
    go_wp2_with fail
    have HO2 := Lib.hid (lit_walks (B := w.heap.size + 2) w1 (by have := HB1.out.2; omega))
    have HG2 := Lib.hid (HO1.out.alloc (.cells #[] 52))
    have p0 := acell p0 (.cells #[] 52)
    have p1 := acell p1 (.cells #[] 52)
    have HB2 : Hid (Below w.heap.size w (w1.alloc (.cells #[] 52)) ∧ w.heap.size + 2 < (w1.alloc (.cells #[] 52)).heap.size) := ⟨HB1.out.1.alloc HB1.out.1.size _, by have := HB1.out.2; simp; omega⟩
    clear HB1 HO1
    go_loopw [9, 31] (fun o i wr => ∃ k m : Nat, k ≤ ws.length ∧ i = .int .i64 k ∧ m ≤ k ∧ Hid (m = (shortW (ws.take k) lim).length) ∧ Hid (wr.ownsRow (w.heap.size + 2) 52 3 o m (wlkC (shortW (ws.take k) lim))) ∧ Hid (wr.ownsRow (w.heap.size + 1) 34 1 (.slice (some ⟨w.heap.size + 1, 0, none⟩) 0 0) 0 []) ∧ wr.cell? ⟨w.heap.size, 0, none⟩ = some (.slice a n.stops.length c) ∧ wr.cell? ⟨w.heap.size, 1, none⟩ = some (.slice a' n.lines.length c') ∧ Hid (Below w.heap.size w wr ∧ w.heap.size + 2 < wr.heap.size))
      (fun _ i _ => ws.length - (RowKit.intOf i).toNat)
    case atStart => exact ⟨0, 0, Nat.zero_le _, rfl, Nat.le_refl _, (by show _ = _; rfl), HO2, HG2, p0, p1, HB2⟩
    case round =>
      clear p0 p1 HO2 HG2 HB2
      obtain ⟨k, m, hk, rfl, hmk, HMl, HOwn, HG, p0, p1, HB⟩ := hrel
      obtain ⟨oa, oc, rfl⟩ := own_shape HOwn.out
      by_cases hlt : k < ws.length
      · obtain ⟨g, go, rfl, hgb, y0, y1, y2⟩ := walk_at (HL.out.below rfl HB.out.1) k hlt
        have hk1 : (k : Int) < (ws.length : Int) := by omega
        have HSucc := Lib.hid (HStep.out k hlt)
        obtain ⟨xa, hxa⟩ : ∃ m, ws[k].a = m := ⟨_, rfl⟩
        obtain ⟨xb, hxb⟩ : ∃ m, ws[k].b = m := ⟨_, rfl⟩
        obtain ⟨xm, hxm⟩ : ∃ m, ws[k].m = m := ⟨_, rfl⟩
        have hwk : ws[k] = ⟨xa, xb, xm⟩ := by rw [← hxa, ← hxb, ← hxm]
        rw [hxa] at y0
        rw [hxb] at y1
        rw [hxm] at y2
        rw [hwk] at HSucc
        clear hxa hxb hxm hwk
        by_cases hc : xm ≤ lim
        · have hdc : decide (xm ≤ lim) = true := decide_eq_true hc
          rw [if_pos hc] at HSucc
          go_wp2_with (at_builtin; refine wpList_append_own_at _ rfl _ _ 43 rfl (w.heap.size + 2) 52 i0 (.agg #[.int .i64 0, .int .i64 0, .int .i64 0]) 3 24 Try.underlying43 hi0 hz0 hz1 hz2 rfl (by decide) _ m _ rfl ((HOwn.out.alloc _).alloc _) ⟨wr.heap.size + 1, 0, none⟩ 1 1 [.int .i64 xa, .int .i64 xb, .int .i64 xm] rfl rfl ?c1 ?c2 ?c3 ?c4 ?c5 ?_)
          case c1 => exact wlkC_oneN _ ⟨xa, xb, xm⟩ _ _ (by simp)
          case c2 => intro u hu; simp at hu; rcases hu with rfl | rfl | rfl <;> rfl
          case c3 => unfold maxLen; omega
          case c4 => omega
          case c5 => have := HB.out.2; simp; omega
          intro v' w3 hown' hgrow _ hat
          have HR : Hid (w3.ownsRow (w.heap.size + 2) 52 3 v' (m + 1) (wlkC (shortW (ws.take (k + 1)) lim))) := by
            show w3.ownsRow _ _ _ _ _ _
            rw [HSucc.out, wlkC_append]; exact hown'
          have hml2 : Hid (m + 1 = (shortW (ws.take (k + 1)) lim).length) := by show _ = _; have e := HMl.out; rw [HSucc.out, List.length_append, ← e]; rfl
          have hlo : ∀ g, Value.ownBlock (.slice oa m oc) = some g → w.heap.size + 2 ≤ g := fun g hg => (HOwn.out.lt g hg).1
          have z0 : w3.cell? ⟨w.heap.size, 0, none⟩ = some (.slice a n.stops.length c) := hgrow.cell (acell (acell p0 _) _) (fun e => by have := hlo w.heap.size e.symm; omega)
          have z1 : w3.cell? ⟨w.heap.size, 1, none⟩ = some (.slice a' n.lines.length c') := hgrow.cell (acell (acell p1 _) _) (fun e => by have := hlo w.heap.size e.symm; omega)
          have HG3 : Hid (w3.ownsRow (w.heap.size + 1) 34 1 (.slice (some ⟨w.heap.size + 1, 0, none⟩) 0 0) 0 []) := own_block ((HG.out.alloc _).alloc _) (fun g hg => hgrow.block g (by have := HB.out.2; simp [Value.ownBlock] at hg; simp; omega) (fun e => by have := hlo _ e.symm; simp [Value.ownBlock] at hg; omega))
          have HB3 : Hid (Below w.heap.size w w3 ∧ w.heap.size + 2 < w3.heap.size) := ⟨((HB.out.1.alloc (by have := HB.out.2; omega) _).alloc (by have := HB.out.2; simp; omega) _).grown hgrow (by have := HB.out.2; simp; omega) (fun g hg => by have := hlo g hg; omega), by have := hgrow.size; have := HB.out.2; simp at *; omega⟩
          clear hown' hgrow hlo hat p0 p1
          go_wp2_with fail
          go_roundw
          case rel => exact ⟨k + 1, m + 1, by omega, by go_num, by omega, hml2, HR, HG3, z0, z1, HB3⟩
          case measure => simp [RowKit.intOf]; omega
        · have hdc : decide (xm ≤ lim) = false := decide_eq_false hc
          rw [if_neg hc, List.append_nil] at HSucc
          go_wp2_with fail
          go_roundw
          case rel => exact ⟨k + 1, m, by omega, by go_num, by omega, (by show _ = _; rw [HSucc.out]; exact HMl.out), by show World.ownsRow _ _ _ _ _ _ _; rw [HSucc.out]; exact HOwn.out.alloc _, HG.out.alloc _, acell p0 _, acell p1 _, HB.out.1.alloc (by have := HB.out.2; omega) _, by have := HB.out.2; simp; omega⟩
          case measure => simp [RowKit.intOf]; omega
      · obtain rfl : k = ws.length := by omega
        have HS : Hid (wr.ownsRow (w.heap.size + 2) 52 3 (.slice oa SW.length oc) SW.length (wlkC SW)) := by
          show World.ownsRow _ _ _ _ _ _ _
          have e := HMl.out
          have h := HOwn.out
          rw [HAll.out] at e h
          rw [← e]; exact h
        have hme : m = SW.length := by have e := HMl.out; rw [HAll.out] at e; exact e
        subst hme
        obtain ⟨sa, sc, hss⟩ : ∃ sa sc, sa = oa ∧ sc = oc := ⟨_, _, rfl, rfl⟩
        obtain ⟨rfl, rfl⟩ := hss
        clear HMl HOwn HAll HStep HL
        obtain ⟨m0, hm0⟩ : ∃ m0, m0 = wr.heap.size := ⟨_, rfl⟩
        have HSb0 : Hid (∀ g, (Value.slice sa SW.length sc).ownBlock = some g → g < m0) := fun g hg => by rw [hm0]; exact (HS.out.lt g hg).2
        have hm1 : m0 ≤ wr.heap.size := by omega
        go_wp2_with fail
        go_loopw [8, 47] (fun o i wr => ∃ s m u : Nat, ∃ vs : List Value, s ≤ n.stops.length ∧ i = .int .i64 s ∧ m ≤ s ∧ Hid (m = (gsF SW n.stops.length s).length) ∧ Hid (GrpsOwn (w.heap.size + 1) u wr o vs (gsF SW n.stops.length s)) ∧ u ≤ wr.heap.size ∧ Hid (∀ g, o.ownBlock = some g → g = w.heap.size + 1 ∨ m0 ≤ g) ∧ Hid (wr.ownsRow (w.heap.size + 2) 52 3 (.slice sa SW.length sc) SW.length (wlkC SW)) ∧ wr.cell? ⟨w.heap.size, 0, none⟩ = some (.slice a n.stops.length c) ∧ wr.cell? ⟨w.heap.size, 1, none⟩ = some (.slice a' n.lines.length c') ∧ Hid (Below w.heap.size w wr ∧ w.heap.size + 2 < wr.heap.size) ∧ m0 ≤ wr.heap.size)
          (fun _ i _ => n.stops.length - (RowKit.intOf i).toNat)
        case atStart => exact ⟨0, 0, wr.heap.size, [], Nat.zero_le _, rfl, Nat.le_refl _, (by show _ = _; rfl), GrpsOwn.none HG.out, Nat.le_refl _, fun g hg => .inl (by simp [Value.ownBlock] at hg; omega), HS, p0, p1, HB, hm1⟩
        case round =>
          clear p0 p1 HG HS HB hm0 hm1
          have HSb := HSb0
          obtain ⟨s, m, u, vs, hs, rfl, hms, HMl, HG, hu, HBlk, HS, p0, p1, HB, hm1⟩ := hrel
          obtain ⟨oa, oc, ho⟩ := own_shape HG.out.row
          rw [← HMl.out] at ho
          subst ho
          have HRow0 : Hid (wr.ownsRow (w.heap.size + 1) 34 1 (.slice oa m oc) m vs) := by
            show World.ownsRow _ _ _ _ _ _ _
            have h := HG.out.row
            rw [← HMl.out] at h; exact h
          by_cases hlt : s < n.stops.length
          · have hk1 : (s : Int) < (n.stops.length : Int) := by omega
            have HT := Lib.hid (HTT.out s hlt wr HB.out.1 _ (walksAt_own HS.out))
            have HSuccY := Lib.hid (HYes.out s hlt)
            have HSuccN := Lib.hid (HNo.out s hlt)
            have hpos := HPos.out s hlt
            generalize grp SW n.stops.length s = G at *
            go_wp2_with fail
            go_at_call 125
            refine (HT.out).mono ?_
            rintro e w2 ⟨⟨a2, c2, rfl, ho2⟩, hb2⟩
            obtain ⟨g2, rfl, hg1, hg2, hq⟩ := row_first ho2 hpos
            have HX : Hid (IntsIn wr.heap.size w2.heap.size w2 (.slice (some ⟨g2, 0, none⟩) G.length c2) G) := IntsIn.mk ho2
            have HRow := Lib.hid (own_later HRow0.out hb2)
            have HG2 := Lib.hid (HG.out.at_later hb2)
            have HS2 := Lib.hid (own_later HS.out hb2)
            have p0 := bkeep hb2 p0
            have p1 := bkeep hb2 p1
            have HB2 : Hid (Below w.heap.size w w2 ∧ w.heap.size + 2 < w2.heap.size) := ⟨HB.out.1.trans (hb2.mono HB.out.1.size), by have := hb2.size; have := HB.out.2; omega⟩
            have hsz2 : wr.heap.size ≤ w2.heap.size := hb2.size
            clear ho2 hb2 HT HRow0
            by_cases hc : G.getD 0 0 = (s : Int)
            · have HSucc := Lib.hid (HSuccY.out hc)
              clear HSuccY HSuccN
              rw [hc] at hq
              go_wp2_with (at_builtin; refine wpList_append_own_at _ rfl _ _ 69 rfl (w.heap.size + 1) 34 j0 (.slice none 0 0) 1 24 Try.underlying69 hj0 hy0 hy1 hy2 rfl (by decide) _ m _ rfl (HRow.out.alloc _) ⟨w2.heap.size, 0, none⟩ 1 1 [.slice (some ⟨g2, 0, none⟩) G.length c2] rfl rfl ?c1 ?c2 ?c3 ?c4 ?c5 ?_)
              case c1 => exact one_new _ _
              case c2 => intro u hu; simp at hu; subst hu; rfl
              case c3 => unfold maxLen; omega
              case c4 => omega
              case c5 => have := HB2.out.2; simp; omega
              intro v' w3 hown' hgrow _ hat
              have HG3 : Hid (GrpsOwn (w.heap.size + 1) w3.heap.size w3 v' (vs ++ [.slice (some ⟨g2, 0, none⟩) G.length c2]) (gsF SW n.stops.length (s + 1))) := by
                show GrpsOwn _ _ _ _ _ _
                rw [HSucc.out]
                refine GrpsOwn.snoc HG2.out hu (by have := HB.out.2; omega) HX.out (Nat.le_refl _) hsz2 ((Below.refl _ _).alloc (Nat.le_refl _) _) hgrow ?_ ?_
                · have e := HMl.out; rw [← e]; exact hown'
                · simpa using hat
              have hml2 : Hid (m + 1 = (gsF SW n.stops.length (s + 1)).length) := by show _ = _; have e := HMl.out; rw [HSucc.out, List.length_append, ← e]; rfl
              have hlo : ∀ g, Value.ownBlock (.slice oa m oc) = some g → g = w.heap.size + 1 ∨ m0 ≤ g := HBlk.out
              have hg1 : ∀ g, Value.ownBlock (.slice oa m oc) = some g → w.heap.size + 1 ≤ g := fun g hg => (HRow.out.lt g hg).1
              have z0 : w3.cell? ⟨w.heap.size, 0, none⟩ = some (.slice a n.stops.length c) := hgrow.cell (acell p0 _) (fun e => by have := hg1 w.heap.size e.symm; omega)
              have z1 : w3.cell? ⟨w.heap.size, 1, none⟩ = some (.slice a' n.lines.length c') := hgrow.cell (acell p1 _) (fun e => by have := hg1 w.heap.size e.symm; omega)
              have HS3 : Hid (w3.ownsRow (w.heap.size + 2) 52 3 (.slice sa SW.length sc) SW.length (wlkC SW)) := own_block (HS2.out.alloc _) (fun g hg => hgrow.block g (by have := HSb.out g hg; have := hsz2; simp; omega) (fun e => by have := hlo _ e.symm; have := HSb.out g hg; have := (HS2.out.lt g hg).1; omega))
              have HBlk3 : Hid (∀ g, v'.ownBlock = some g → g = w.heap.size + 1 ∨ m0 ≤ g) := fun g hg => by
                rcases hat with h | h
                · rw [h] at hg; exact HBlk.out g hg
                · rw [h] at hg; simp at hg; omega
              have HB3 : Hid (Below w.heap.size w w3 ∧ w.heap.size + 2 < w3.heap.size) := ⟨(HB2.out.1.alloc (by have := HB2.out.2; omega) _).grown hgrow (by have := HB2.out.2; simp; omega) (fun g hg => by have := hg1 g hg; omega), by have := hgrow.size; have := HB2.out.2; simp at *; omega⟩
              have hm3 : m0 ≤ w3.heap.size := by have := hgrow.size; simp at this; omega
              clear hown' hgrow hlo hg1 hat p0 p1 hq
              go_wp2_with fail
              go_roundw
              case rel => exact ⟨s + 1, m + 1, w3.heap.size, _, by omega, by go_num, by omega, hml2, HG3, Nat.le_refl _, HBlk3, HS3, z0, z1, HB3, hm3⟩
              case measure => simp [RowKit.intOf]; omega
            · have HSucc := Lib.hid (HSuccN.out hc)
              clear HSuccY HSuccN
              generalize G.getD 0 0 = D at *
              have hdc : decide (D = (s : Int)) = false := decide_eq_false hc
              have hdc2 : (D == (s : Int)) = false := by simp [hc]
              go_wp2_with fail
              go_roundw
              case rel => exact ⟨s + 1, m, u, vs, by omega, by go_num, by omega, (by show _ = _; rw [HSucc.out]; exact HMl.out), (by show GrpsOwn _ _ _ _ _ _; rw [HSucc.out]; exact HG2.out), by omega, HBlk, HS2, p0, p1, HB2, by omega⟩
              case measure => simp [RowKit.intOf]; omega
          · obtain rfl : s = n.stops.length := by omega
            go_wp2_with fail
            go_ret2
            exact ⟨⟨_, rfl, GrpsIn.base ⟨vs, HG.out⟩ (Nat.le_succ _) hu⟩, HB.out.1⟩
end Go.Proofs.Ytmbpkdplgfgheaa
