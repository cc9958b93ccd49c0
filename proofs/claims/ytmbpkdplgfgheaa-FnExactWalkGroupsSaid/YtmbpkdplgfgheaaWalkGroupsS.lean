/-
  CONTRACTS: spec.WalkGroups; both sides.
-/
import Derived.Test.YtmbpkdplgfgheaaWalkGroups
import Derived.Test.YtmbpkdplgfgheaaHas
import Derived.Test.YtmbpkdplgfgheaaMa
namespace Go.Proofs.Ytmbpkdplgfgheaa
open Go.RowKit
set_option linter.unusedVariables false
set_option linter.unusedSimpArgs false

theorem seenF_len (ws : List WlkD) (n : Nat) : ∀ s, (seenF ws n s).length ≤ s * n
  | 0 => by simp [seenF]
  | s + 1 => by
    have h1 := seenF_len ws n s
    have h2 := grpF_len (wt ws n s) n
    have : (s + 1) * n = s * n + n := Nat.succ_mul s n
    rw [seenF]; split
    · omega
    · rw [List.length_append, grp]; omega
/-- a block that is none of a slice of slices' own -/
def NotIn (g : Nat) (v : Value) (vs : List Value) : Prop := v.ownBlock ≠ some g ∧ ∀ i (h : i < vs.length), vs[i].ownBlock ≠ some g
theorem GrpsOwn.lt {l u : Nat} {w : World} {v : Value} {vs : List Value} {xss : List (List Int)} (h : GrpsOwn l u w v vs xss) : ∀ g, u ≤ g → NotIn g v vs := fun g hg =>
  ⟨fun e => by have := h.hi g e; omega, fun i h1 e => by have := (h.each i (by have := h.len; omega) h1).2 g e; omega⟩
theorem GrpsOwn.grown {l u : Nat} {w w' : World} {v : Value} {vs : List Value} {xss : List (List Int)} {o : Option Nat} (h : GrpsOwn l u w v vs xss) (hg : w.grownBy w' o) (ho : ∀ g, o = some g → NotIn g v vs) : GrpsOwn l u w' v vs xss :=
  ⟨own_block h.row (fun g hg' => hg.block g (h.row.lt g hg').2 (fun e => (ho g e.symm).1 hg')), h.hi, h.len,
   fun i a b => ⟨own_block (h.each i a b).1 (fun g hg' => hg.block g ((h.each i a b).1.lt g hg').2 (fun e => (ho g e.symm).2 i b hg')), (h.each i a b).2⟩, h.out, h.apart⟩
theorem own_grown {w w' : World} {B : Nat} {e : TypeId} {sz n : Nat} {v : Value} {xs : List Value} {o : Option Nat} (h : w.ownsRow B e sz v n xs) (hg : w.grownBy w' o) (ho : ∀ g, v.ownBlock = some g → o ≠ some g) : w'.ownsRow B e sz v n xs :=
  own_block h (fun g hg' => hg.block g (h.lt g hg').2 (fun e => ho g hg' e.symm))
theorem lit_intsB {B : Nat} (w : World) (hB : B ≤ w.heap.size) : (w.alloc (.cells #[] 3)).ownsRow B 3 1 (.slice (some ⟨w.heap.size, 0, none⟩) 0 0) 0 (ints []) := by
  have h := World.ownsRow_lit (base := B) (e := 3) (size := 1) w #[] 0 hB (by decide) (by simp)
  simpa [ints] using h
theorem ints_app (xs ys : List Int) : ints (xs ++ ys) = ints xs ++ ints ys := by simp [ints]
theorem NotIn.snoc {g : Nat} {v v' x : Value} {vs : List Value} (h : NotIn g v vs) (hv : v'.ownBlock = v.ownBlock ∨ v'.ownBlock ≠ some g) (hx : x.ownBlock ≠ some g) : NotIn g v' (vs ++ [x]) := by
  refine ⟨fun e => ?_, fun i hi e => ?_⟩
  · rcases hv with h1 | h1
    · exact h.1 (h1 ▸ e)
    · exact h1 e
  · by_cases c : i < vs.length
    · rw [List.getElem_append_left c] at e; exact h.2 i c e
    · have e2 : i = vs.length := by simp at hi; omega
      subst e2
      simp at e; exact hx e

set_option maxRecDepth 100000 in
set_option maxHeartbeats 4000000 in
theorem specGroups_any (nv lv : Value) (n : NetD) (ws : List WlkD) (lim : Int) (w : World) (hr : NetAt w nv n) (hl : WalksAt w lv ws) (hf : NetFits n) :
    Calls Try.prog 44 #[nv, lv, .int .i64 lim] w fun e w' => GrpsB w.heap.size (grAns n ws lim) (grOk n ws lim) e w' ∧ Below w.heap.size w w' := by
  have HW := Lib.hid (fun W (h : Below w.heap.size w W) => l7Good_any0 nv lv n ws W (hr.below rfl h) (hl.below rfl h) hf)
  have HL := Lib.hid hl
  unfold grAns grOk
  cases hw : walksB n ws with
  | false =>
    rw [hw] at HW
    simp only [Bool.false_eq_true, if_false, Bool.false_and]
    obtain ⟨a, c, a', c', rfl, -, -⟩ := net_open hr
    obtain ⟨lb, ld, rfl⟩ := WalkS_open hl
    clear hw hr hl hf
    go_enter Try.func44, Try.ntmps44
    go_wp2_with fail
    obtain ⟨wa, hwa⟩ : ∃ wa : World, wa = (w.alloc (.cells #[.slice a n.stops.length c, .slice a' n.lines.length c'] 27)).alloc (.cells #[] 34) := ⟨_, rfl⟩
    have hba : Below w.heap.size w wa := by rw [hwa]; exact ((Below.refl _ _).alloc (Nat.le_refl _) _).alloc (by simp) _
    have HO : Hid (wa.ownsRow (w.heap.size + 1) 34 1 (.slice (some ⟨w.heap.size + 1, 0, none⟩) 0 0) 0 []) := by
      show World.ownsRow _ _ _ _ _ _ _
      rw [hwa]
      have := lit_grps (B := w.heap.size + 1) (w.alloc (.cells #[.slice a n.stops.length c, .slice a' n.lines.length c'] 27)) (by simp)
      simpa using this
    have p0 : wa.cell? ⟨w.heap.size, 0, none⟩ = some (.slice a n.stops.length c) := by rw [hwa]; go_simp
    have p1 : wa.cell? ⟨w.heap.size, 1, none⟩ = some (.slice a' n.lines.length c') := by rw [hwa]; go_simp
    have hza : w.heap.size + 1 < wa.heap.size := by rw [hwa]; simp
    rw [← hwa]
    clear hwa
    go_at_call 106
    refine (HW.out _ hba).mono ?_
    rintro e w1 ⟨rfl, hb1⟩
    have HO1 := Lib.hid (own_later HO.out hb1)
    have p0 := bkeep hb1 p0
    have p1 := bkeep hb1 p1
    have HB1 : Hid (Below w.heap.size w w1 ∧ w.heap.size + 1 < w1.heap.size) := ⟨hba.trans (hb1.mono hba.size), by have := hb1.size; omega⟩
    clear hb1 hba hza HO
    go_wp2_with fail
    go_ret2
    exact ⟨⟨_, rfl, ⟨[], GrpsOwn.none (own_base HO1.out (Nat.le_succ _))⟩⟩, HB1.out.1⟩
  | true =>
    rw [hw] at HW
    by_cases hin : 0 ≤ lim ∧ lim ≤ 120
    rotate_left
    · have HI := Lib.hid (fun W => l1In_no lim 0 120 W (by omega))
      rw [show (decide (0 ≤ lim) && decide (lim ≤ 120)) = false by rw [← Bool.decide_and]; exact decide_eq_false hin]
      simp only [Bool.false_eq_true, if_false, Bool.false_and, Bool.and_false]
      obtain ⟨a, c, a', c', rfl, -, -⟩ := net_open hr
      obtain ⟨lb, ld, rfl⟩ := WalkS_open hl
      clear hw hr hl hf hin
      go_enter Try.func44, Try.ntmps44
      go_wp2_with fail
      obtain ⟨wa, hwa⟩ : ∃ wa : World, wa = (w.alloc (.cells #[.slice a n.stops.length c, .slice a' n.lines.length c'] 27)).alloc (.cells #[] 34) := ⟨_, rfl⟩
      have hba : Below w.heap.size w wa := by rw [hwa]; exact ((Below.refl _ _).alloc (Nat.le_refl _) _).alloc (by simp) _
      have HO : Hid (wa.ownsRow (w.heap.size + 1) 34 1 (.slice (some ⟨w.heap.size + 1, 0, none⟩) 0 0) 0 []) := by
        show World.ownsRow _ _ _ _ _ _ _
        rw [hwa]
        have := lit_grps (B := w.heap.size + 1) (w.alloc (.cells #[.slice a n.stops.length c, .slice a' n.lines.length c'] 27)) (by simp)
        simpa using this
      have p0 : wa.cell? ⟨w.heap.size, 0, none⟩ = some (.slice a n.stops.length c) := by rw [hwa]; go_simp
      have p1 : wa.cell? ⟨w.heap.size, 1, none⟩ = some (.slice a' n.lines.length c') := by rw [hwa]; go_simp
      have hza : w.heap.size + 1 < wa.heap.size := by rw [hwa]; simp
      rw [← hwa]
      clear hwa
      go_at_call 106
      refine (HW.out _ hba).mono ?_
      rintro e w1 ⟨rfl, hb1⟩
      have HO1 := Lib.hid (own_later HO.out hb1)
      have p0 := bkeep hb1 p0
      have p1 := bkeep hb1 p1
      have HB1 : Hid (Below w.heap.size w w1 ∧ w.heap.size + 1 < w1.heap.size) := ⟨hba.trans (hb1.mono hba.size), by have := hb1.size; omega⟩
      clear hb1 hba hza HO
      go_wp2_with fail
      go_at_call 87
      refine (HI.out _).mono ?_
      rintro e wi ⟨rfl, rfl⟩
      go_wp2_with fail
      go_ret2
      exact ⟨⟨_, rfl, ⟨[], GrpsOwn.none (own_base HO1.out (Nat.le_succ _))⟩⟩, HB1.out.1⟩
    have HI := Lib.hid (fun W => l1In_yes lim 0 120 W hin)
    rw [show decide (0 ≤ lim) = true from decide_eq_true (by omega), show decide (lim ≤ 120) = true from decide_eq_true (by omega)]
    obtain ⟨hg, hv⟩ := walksB_iff hw
    have hn8 := netGood_stops hg
    have hwl := hv.len
    have HSW := Lib.hid (short_ok hv lim)
    have HTT := Lib.hid (fun s (hs : s < n.stops.length) W u (hu : WalksAt W u (shortW ws lim)) => l7Times_any u (shortW ws lim) n.stops.length s W hu HSW.out hn8 hs)
    have HTl := Lib.hid (fun s (hs : s < n.stops.length) => wt_len HSW.out hs)
    have HAll : Hid (shortW (ws.take ws.length) lim = shortW ws lim) := by show _ = _; rw [List.take_length]
    have HStep := Lib.hid (fun k (h : k < ws.length) => short_succ (lim := lim) h)
    simp only [Bool.true_and, if_true]
    obtain ⟨a, c, a', c', rfl, -, -⟩ := net_open hr
    obtain ⟨lb, ld, rfl⟩ := WalkS_open hl
    clear hw hr hl hf hg hv hin
    obtain ⟨i0, hi0, hz0, hz1, hz2⟩ := info_parts infoWalk
    obtain ⟨j0, hj0, hy0, hy1, hy2⟩ := info_parts infoIntS
    obtain ⟨k0, hk0, hx0, hx1, hx2⟩ := info_parts infoInt
    generalize hSWe : shortW ws lim = SW at *
    clear hSWe HSW
    go_enter Try.func44, Try.ntmps44
    go_wp2_with fail
    obtain ⟨wa, hwa⟩ : ∃ wa : World, wa = (w.alloc (.cells #[.slice a n.stops.length c, .slice a' n.lines.length c'] 27)).alloc (.cells #[] 34) := ⟨_, rfl⟩
    have hba : Below w.heap.size w wa := by rw [hwa]; exact ((Below.refl _ _).alloc (Nat.le_refl _) _).alloc (by simp) _
    have HO : Hid (wa.ownsRow (w.heap.size + 1) 34 1 (.slice (some ⟨w.heap.size + 1, 0, none⟩) 0 0) 0 []) := by
      show World.ownsRow _ _ _ _ _ _ _
      rw [hwa]
      have := lit_grps (B := w.heap.size + 1) (w.alloc (.cells #[.slice a n.stops.length c, .slice a' n.lines.length c'] 27)) (by simp)
      simpa using this
    have p0 : wa.cell? ⟨w.heap.size, 0, none⟩ = some (.slice a n.stops.length c) := by rw [hwa]; go_simp
    have p1 : wa.cell? ⟨w.heap.size, 1, none⟩ = some (.slice a' n.lines.length c') := by rw [hwa]; go_simp
    have hza : w.heap.size + 1 < wa.heap.size := by rw [hwa]; simp
    rw [← hwa]
    clear hwa
    go_at_call 106
    refine (HW.out _ hba).mono ?_
    rintro e w1 ⟨rfl, hb1⟩
    have HO1 := Lib.hid (own_later HO.out hb1)
    have p0 := bkeep hb1 p0
    have p1 := bkeep hb1 p1
    have HB1 : Hid (Below w.heap.size w w1 ∧ w.heap.size + 1 < w1.heap.size) := ⟨hba.trans (hb1.mono hba.size), by have := hb1.size; omega⟩
    clear hb1 hba hza HO
    go_wp2_with fail
    go_at_call 87
    refine (HI.out _).mono ?_
    rintro e wi ⟨rfl, rfl⟩
    go_wp2_with fail
    have HO2 := Lib.hid (lit_walks (B := w.heap.size + 2) w1 (by have := HB1.out.2; omega))
    have HG2 := Lib.hid (HO1.out.alloc (.cells #[] 52))
    have p0 := acell p0 (.cells #[] 52)
    have p1 := acell p1 (.cells #[] 52)
    have HB2 : Hid (Below w.heap.size w (w1.alloc (.cells #[] 52)) ∧ w.heap.size + 2 < (w1.alloc (.cells #[] 52)).heap.size) := ⟨HB1.out.1.alloc HB1.out.1.size _, by have := HB1.out.2; simp; omega⟩
    clear HB1 HO1 HI
    go_loopw [9, 10] (fun o i wr => ∃ k m : Nat, k ≤ ws.length ∧ i = .int .i64 k ∧ m ≤ k ∧ Hid (m = (shortW (ws.take k) lim).length) ∧ Hid (wr.ownsRow (w.heap.size + 2) 52 3 o m (wlkC (shortW (ws.take k) lim))) ∧ Hid (wr.ownsRow (w.heap.size + 1) 34 1 (.slice (some ⟨w.heap.size + 1, 0, none⟩) 0 0) 0 []) ∧ wr.cell? ⟨w.heap.size, 0, none⟩ = some (.slice a n.stops.length c) ∧ wr.cell? ⟨w.heap.size, 1, none⟩ = some (.slice a' n.lines.length c') ∧ Hid (Below w.heap.size w wr ∧ w.heap.size + 2 < wr.heap.size))
      (fun _ i _ => ws.length - (RowKit.intOf i).toNat)
    case atStart => exact ⟨0, 0, Nat.zero_le _, rfl, Nat.le_refl _, (by show _ = _; rfl), HO2, HG2, p0, p1, HB2⟩
    case round =>
      clear p0 p1 HO2 HG2 HB2
      obtain ⟨k, m, hk, rfl, hmk, HMl, HOwn, HG, p0, p1, HB⟩ := hrel
      obtain ⟨oa, oc, rfl⟩ := own_shape HOwn.out
      by_cases hlt : k < ws.length
      · obtain ⟨g, go, rfl, hgb, y0, y1, y2⟩ := walk_at (HL.out.below rfl HB.out.1) k hlt
        have hk1 : (k : Int) < (ws.length : Int) := by omega
        have HSucc := Lib.hid (HStep.out k hlt)
        obtain ⟨xa, hxa⟩ : ∃ m, ws[k].a = m := ⟨_, rfl⟩
        obtain ⟨xb, hxb⟩ : ∃ m, ws[k].b = m := ⟨_, rfl⟩
        obtain ⟨xm, hxm⟩ : ∃ m, ws[k].m = m := ⟨_, rfl⟩
        have hwk : ws[k] = ⟨xa, xb, xm⟩ := by rw [← hxa, ← hxb, ← hxm]
        rw [hxa] at y0
        rw [hxb] at y1
        rw [hxm] at y2
        rw [hwk] at HSucc
        clear hxa hxb hxm hwk
        by_cases hc : xm ≤ lim
        · have hdc : decide (xm ≤ lim) = true := decide_eq_true hc
          rw [if_pos hc] at HSucc
          go_wp2_with (at_builtin; refine wpList_append_own_at _ rfl _ _ 43 rfl (w.heap.size + 2) 52 i0 (.agg #[.int .i64 0, .int .i64 0, .int .i64 0]) 3 24 Try.underlying43 hi0 hz0 hz1 hz2 rfl (by decide) _ m _ rfl (HOwn.out.alloc _) ⟨wr.heap.size, 0, none⟩ 1 1 [.int .i64 xa, .int .i64 xb, .int .i64 xm] rfl rfl ?c1 ?c2 ?c3 ?c4 ?c5 ?_)
          case c1 => exact wlkC_one _ ⟨xa, xb, xm⟩ _
          case c2 => intro u hu; simp at hu; rcases hu with rfl | rfl | rfl <;> rfl
          case c3 => unfold maxLen; omega
          case c4 => omega
          case c5 => have := HB.out.2; simp; omega
          intro v' w3 hown' hgrow _ hat
          have HR : Hid (w3.ownsRow (w.heap.size + 2) 52 3 v' (m + 1) (wlkC (shortW (ws.take (k + 1)) lim))) := by
            show w3.ownsRow _ _ _ _ _ _
            rw [HSucc.out, wlkC_append]; exact hown'
          have hml2 : Hid (m + 1 = (shortW (ws.take (k + 1)) lim).length) := by show _ = _; have e := HMl.out; rw [HSucc.out, List.length_append, ← e]; rfl
          have hlo : ∀ g, Value.ownBlock (.slice oa m oc) = some g → w.heap.size + 2 ≤ g := fun g hg => (HOwn.out.lt g hg).1
          have z0 : w3.cell? ⟨w.heap.size, 0, none⟩ = some (.slice a n.stops.length c) := hgrow.cell (acell p0 _) (fun e => by have := hlo w.heap.size e.symm; omega)
          have z1 : w3.cell? ⟨w.heap.size, 1, none⟩ = some (.slice a' n.lines.length c') := hgrow.cell (acell p1 _) (fun e => by have := hlo w.heap.size e.symm; omega)
          have HG3 : Hid (w3.ownsRow (w.heap.size + 1) 34 1 (.slice (some ⟨w.heap.size + 1, 0, none⟩) 0 0) 0 []) := own_grown (HG.out.alloc _) hgrow (fun g hg e => by have := hlo _ e; simp [Value.ownBlock] at hg; omega)
          have HB3 : Hid (Below w.heap.size w w3 ∧ w.heap.size + 2 < w3.heap.size) := ⟨(HB.out.1.alloc (by have := HB.out.2; omega) _).grown hgrow (by have := HB.out.2; simp; omega) (fun g hg => by have := hlo g hg; omega), by have := hgrow.size; have := HB.out.2; simp at *; omega⟩
          clear hown' hgrow hlo hat p0 p1
          go_wp2_with fail
          go_roundw
          case rel => exact ⟨k + 1, m + 1, by omega, by go_num, by omega, hml2, HR, HG3, z0, z1, HB3⟩
          case measure => simp [RowKit.intOf]; omega
        · have hdc : decide (xm ≤ lim) = false := decide_eq_false hc
          rw [if_neg hc, List.append_nil] at HSucc
          go_wp2_with fail
          go_roundw
          case rel => exact ⟨k + 1, m, by omega, by go_num, by omega, (by show _ = _; rw [HSucc.out]; exact HMl.out), by show World.ownsRow _ _ _ _ _ _ _; rw [HSucc.out]; exact HOwn.out, HG.out, p0, p1, HB.out⟩
          case measure => simp [RowKit.intOf]; omega
      · obtain rfl : k = ws.length := by omega
        have HS : Hid (wr.ownsRow (w.heap.size + 2) 52 3 (.slice oa SW.length oc) SW.length (wlkC SW)) := by
          show World.ownsRow _ _ _ _ _ _ _
          have e := HMl.out
          have h := HOwn.out
          rw [HAll.out] at e h
          rw [← e]; exact h
        have hme : m = SW.length := by have e := HMl.out; rw [HAll.out] at e; exact e
        subst hme
        obtain ⟨sa, sc, hss⟩ : ∃ sa sc, sa = oa ∧ sc = oc := ⟨_, _, rfl, rfl⟩
        obtain ⟨rfl, rfl⟩ := hss
        clear HMl HOwn HAll HStep HL
        obtain ⟨m0, hm0⟩ : ∃ m0, m0 = wr.heap.size := ⟨_, rfl⟩
        have HSb : Hid (∀ g, (Value.slice sa SW.length sc).ownBlock = some g → g < m0) := fun g hg => by rw [hm0]; exact (HS.out.lt g hg).2
        have hbz := HB.out.2
        go_wp2_with fail
        have HQ0 := Lib.hid (lit_intsB (B := w.heap.size + 3) wr (by omega))
        have HGa := Lib.hid (HG.out.alloc (.cells #[] 3))
        have HSa := Lib.hid (HS.out.alloc (.cells #[] 3))
        have p0 := acell p0 (.cells #[] 3)
        have p1 := acell p1 (.cells #[] 3)
        have HBa : Hid (Below w.heap.size w (wr.alloc (.cells #[] 3)) ∧ w.heap.size + 3 < (wr.alloc (.cells #[] 3)).heap.size) := ⟨HB.out.1.alloc HB.out.1.size _, by simp; omega⟩
        have hm1 : m0 ≤ (wr.alloc (.cells #[] 3)).heap.size := by simp; omega
        clear HG HS HB
        go_loopw [8, 11, 12] (fun o qv i wr => ∃ s m mq u : Nat, ∃ vs : List Value, s ≤ n.stops.length ∧ i = .int .i64 s ∧ m ≤ s ∧ Hid (m = (gsF SW n.stops.length s).length) ∧ Hid (mq = (seenF SW n.stops.length s).length) ∧ Hid (GrpsOwn (w.heap.size + 1) u wr o vs (gsF SW n.stops.length s)) ∧ u ≤ wr.heap.size ∧ Hid (∀ g, o.ownBlock = some g → g = w.heap.size + 1 ∨ m0 ≤ g) ∧ Hid (wr.ownsRow (w.heap.size + 3) 3 1 qv mq (ints (seenF SW n.stops.length s))) ∧ Hid ((∀ g, qv.ownBlock = some g → NotIn g o vs) ∧ (∀ g, qv.ownBlock = some g → (Value.slice sa SW.length sc).ownBlock ≠ some g)) ∧ Hid (wr.ownsRow (w.heap.size + 2) 52 3 (.slice sa SW.length sc) SW.length (wlkC SW)) ∧ wr.cell? ⟨w.heap.size, 0, none⟩ = some (.slice a n.stops.length c) ∧ wr.cell? ⟨w.heap.size, 1, none⟩ = some (.slice a' n.lines.length c') ∧ Hid (Below w.heap.size w wr ∧ w.heap.size + 3 < wr.heap.size) ∧ m0 ≤ wr.heap.size)
          (fun _ _ i _ => n.stops.length - (RowKit.intOf i).toNat)
        case atStart => exact ⟨0, 0, 0, _, [], Nat.zero_le _, rfl, Nat.le_refl _, (by show _ = _; rfl), (by show _ = _; rfl), GrpsOwn.none HGa.out, Nat.le_refl _, fun g hg => .inl (by simp [Value.ownBlock] at hg; omega), HQ0, ⟨fun g hg => ⟨fun e => by simp [Value.ownBlock] at hg e; omega, fun i h => absurd h (Nat.not_lt_zero _)⟩, fun g hg e => by have := HSb.out g e; simp [Value.ownBlock] at hg; omega⟩, HSa, p0, p1, HBa, hm1⟩
        case round =>
          clear p0 p1 HGa HSa HBa hm0 hm1 HQ0 hbz
          obtain ⟨s, m, mq, u, vs, hs, rfl, hms, HMl, HMq, HOut, hu, HBlk, HSe, HQb, HS, p0, p1, HB, hm1⟩ := hrel
          obtain ⟨oa, oc, ho⟩ := own_shape HOut.out.row
          rw [← HMl.out] at ho
          subst ho
          obtain ⟨qa, qc, rfl⟩ := own_shape HSe.out
          have hbz := HB.out.2
          by_cases hlt : s < n.stops.length
          · have hk1 : (s : Int) < (n.stops.length : Int) := by omega
            have HH := Lib.hid (fun W h => l1Has_any (.slice qa mq qc) (seenF SW n.stops.length s) (s : Int) W h)
            by_cases hm : (s : Int) ∈ seenF SW n.stops.length s
            · rw [inB_yes hm] at HH
              have HGs : Hid (gsF SW n.stops.length (s + 1) = gsF SW n.stops.length s) := by show _ = _; rw [gsF, if_pos hm]
              have HSs : Hid (seenF SW n.stops.length (s + 1) = seenF SW n.stops.length s) := by show _ = _; rw [seenF, if_pos hm]
              clear hm
              go_wp2_with fail
              go_at_call 126
              refine (HH.out _ (rowAt_own HSe.out)).mono ?_
              rintro e wx ⟨rfl, rfl⟩
              clear HH
              go_wp2_with fail
              go_roundw
              case rel => exact ⟨s + 1, m, mq, u, vs, by omega, by go_num, by omega, (by show _ = _; rw [HGs.out]; exact HMl.out), (by show _ = _; rw [HSs.out]; exact HMq.out), (by show GrpsOwn _ _ _ _ _ _; rw [HGs.out]; exact HOut.out), hu, HBlk, (by show World.ownsRow _ _ _ _ _ _ _; rw [HSs.out]; exact HSe.out), HQb, HS, p0, p1, HB, hm1⟩
              case measure => simp [RowKit.intOf]; omega
            · rw [inB_no hm] at HH
              have HT := Lib.hid (fun W u hu => HTT.out s hlt W u hu)
              have hlenR := HTl.out s hlt
              have HGsY : Hid (gsF SW n.stops.length (s + 1) = gsF SW n.stops.length s ++ [grpF (wt SW n.stops.length s) n.stops.length]) := by show _ = _; rw [gsF, if_neg hm]; rfl
              have HSeenY : Hid (seenF SW n.stops.length (s + 1) = seenF SW n.stops.length s ++ grpF (wt SW n.stops.length s) n.stops.length) := by show _ = _; rw [seenF, if_neg hm]; rfl
              have hsq : mq ≤ 64 := by
                have h1 := seenF_len SW n.stops.length s
                have h2 : s * n.stops.length ≤ 8 * 8 := Nat.mul_le_mul (by omega) hn8
                rw [HMq.out]; omega
              have hn0 : 0 < n.stops.length := by omega
              clear hm
              generalize wt SW n.stops.length s = R at *
              go_wp2_with fail
              go_at_call 126
              refine (HH.out _ (rowAt_own HSe.out)).mono ?_
              rintro e wx ⟨rfl, rfl⟩
              clear HH
              have p0b := acell p0 (.cells #[] 3)
              have p1b := acell p1 (.cells #[] 3)
              go_wp2_with fail
              clear p0b p1b
              obtain ⟨wb, hwb⟩ : ∃ wb : World, wb = wr.alloc (.cells #[] 3) := ⟨_, rfl⟩
              obtain ⟨h0, hh0⟩ : ∃ h0, h0 = wr.heap.size := ⟨_, rfl⟩
              have hbb : Below wr.heap.size wr wb := by rw [hwb]; exact (Below.refl _ _).alloc (Nat.le_refl _) _
              have HGb0 : Hid (wb.ownsRow h0 3 1 (.slice (some ⟨h0, 0, none⟩) 0 0) 0 (ints [])) := by
                show World.ownsRow _ _ _ _ _ _ _
                rw [hwb, hh0]; exact lit_intsB wr (Nat.le_refl _)
              have p0 := bkeep hbb p0
              have p1 := bkeep hbb p1
              have HSeb := Lib.hid (own_later HSe.out hbb)
              have HSb2 := Lib.hid (own_later HS.out hbb)
              have HOutb := Lib.hid (HOut.out.at_later hbb)
              have HBb : Hid (Below w.heap.size w wb) := HB.out.1.trans (hbb.mono HB.out.1.size)
              have hzb : h0 < wb.heap.size := by rw [hwb, hh0]; simp
              have HQh : Hid (∀ g, (Value.slice qa mq qc).ownBlock = some g → g < h0) := fun g hg => by rw [hh0]; exact (HSe.out.lt g hg).2
              have hbz3 : w.heap.size + 3 < h0 := by omega
              rw [← hh0] at hu hm1
              rw [← hwb, ← hh0]
              clear hwb hbb HSe HS HOut HB hbz hh0
              go_at_call 107
              refine (HT.out _ _ (walksAt_own HSb2.out)).mono ?_
              rintro e w2 ⟨⟨a2, c2, rfl, ho2⟩, hb2⟩
              obtain ⟨g2, rfl, hg1, hg2, hc2⟩ := own_cells ho2 hn0 hlenR
              have HRow := Lib.hid hc2
              have HGr := Lib.hid (own_later HGb0.out hb2)
              have p0 := bkeep hb2 p0
              have p1 := bkeep hb2 p1
              have HSe := Lib.hid (own_later HSeb.out hb2)
              have HS := Lib.hid (own_later HSb2.out hb2)
              have HOut := Lib.hid (HOutb.out.at_later hb2)
              have HB2 : Hid (Below w.heap.size w w2 ∧ w.heap.size + 3 < w2.heap.size) := ⟨HBb.out.trans (hb2.mono HBb.out.size), by have := hb2.size; omega⟩
              obtain ⟨h2, hh2⟩ : ∃ h2, h2 = w2.heap.size := ⟨_, rfl⟩
              have hz2 : h2 ≤ w2.heap.size := by omega
              have hgg : h0 < g2 ∧ g2 < h2 := by omega
              have hh3 : h0 < h2 := by omega
              have HQb2 : Hid ((∀ g, (Value.slice qa mq qc).ownBlock = some g → NotIn g (.slice oa m oc) vs) ∧ (∀ g, (Value.slice qa mq qc).ownBlock = some g → (Value.slice sa SW.length sc).ownBlock ≠ some g) ∧ (∀ g, (Value.slice qa mq qc).ownBlock = some g → g < h0 ∨ h2 ≤ g)) := ⟨HQb.out.1, HQb.out.2, fun g hg => .inl (HQh.out g hg)⟩
              have HGb : Hid (∀ g, (Value.slice (some ⟨h0, 0, none⟩) 0 0).ownBlock = some g → g = h0 ∨ h2 ≤ g) := fun g hg => .inl (by simp [Value.ownBlock] at hg; omega)
              have HGQ : Hid (∀ g, (Value.slice qa mq qc).ownBlock = some g → (Value.slice (some ⟨h0, 0, none⟩) 0 0).ownBlock ≠ some g) := fun g hg e => by have := HQh.out g hg; simp [Value.ownBlock] at e; omega
              clear hc2 ho2 hb2 HT hlenR hg1 hg2 hh2 HGb0 HSeb HSb2 HOutb HBb hzb HQh HQb
              go_wp2_with fail
              go_loopw [11, 13, 15] (fun qv gv i wr => ∃ k mg mq : Nat, k ≤ n.stops.length ∧ i = .int .i64 k ∧ mg ≤ k ∧ mq ≤ 64 + k ∧ Hid (mg = (grpF R k).length) ∧ Hid (mq = (seenF SW n.stops.length s ++ grpF R k).length) ∧ Hid (wr.ownsRow h0 3 1 gv mg (ints (grpF R k))) ∧ Hid (wr.ownsRow (w.heap.size + 3) 3 1 qv mq (ints (seenF SW n.stops.length s ++ grpF R k))) ∧ Hid (∀ g, gv.ownBlock = some g → g = h0 ∨ h2 ≤ g) ∧ Hid ((∀ g, qv.ownBlock = some g → NotIn g (.slice oa m oc) vs) ∧ (∀ g, qv.ownBlock = some g → (Value.slice sa SW.length sc).ownBlock ≠ some g) ∧ (∀ g, qv.ownBlock = some g → g < h0 ∨ h2 ≤ g)) ∧ Hid (∀ g, qv.ownBlock = some g → gv.ownBlock ≠ some g) ∧ Hid (GrpsOwn (w.heap.size + 1) u wr (.slice oa m oc) vs (gsF SW n.stops.length s)) ∧ Hid (wr.ownsRow (w.heap.size + 2) 52 3 (.slice sa SW.length sc) SW.length (wlkC SW)) ∧ Hid (∀ q, q < n.stops.length → wr.cell? ⟨g2, q, none⟩ = some (.int .i64 (wat R q))) ∧ wr.cell? ⟨w.heap.size, 0, none⟩ = some (.slice a n.stops.length c) ∧ wr.cell? ⟨w.heap.size, 1, none⟩ = some (.slice a' n.lines.length c') ∧ Hid (Below w.heap.size w wr ∧ w.heap.size + 3 < wr.heap.size) ∧ h2 ≤ wr.heap.size)
                (fun _ _ i _ => n.stops.length - (RowKit.intOf i).toNat)
              case atStart => exact ⟨0, 0, mq, Nat.zero_le _, rfl, Nat.le_refl _, by omega, (by show _ = _; rfl), (by show _ = _; simp only [grpF, List.append_nil]; exact HMq.out), HGr, (by show World.ownsRow _ _ _ _ _ _ _; simp only [grpF, List.append_nil]; exact HSe.out), HGb, HQb2, HGQ, HOut, HS, HRow, p0, p1, HB2, hz2⟩
              case round =>
                clear p0 p1 HSe HS HGr HRow HGb HQb2 HGQ HOut HB2 hz2 HMq hsq
                obtain ⟨k, mg, mq, hk, rfl, hmg, hmq, HMg, HMq, HGr, HSe, HGb, HQb, HGQ, HOut, HS, HRow, p0, p1, HB, hzz⟩ := hrel
                obtain ⟨ga, gc, rfl⟩ := own_shape HGr.out
                obtain ⟨qa, qc, rfl⟩ := own_shape HSe.out
                by_cases hlt2 : k < n.stops.length
                · have hq := HRow.out k hlt2
                  have hk2 : (k : Int) < (n.stops.length : Int) := by omega
                  have HYes : Hid (0 ≤ wat R k → grpF R (k + 1) = grpF R k ++ [(k : Int)]) := fun h => grpF_yes h
                  have HNo : Hid (¬ 0 ≤ wat R k → grpF R (k + 1) = grpF R k) := fun h => grpF_no h
                  have hkb := HB.out.2
                  generalize wat R k = D at *
                  by_cases hc : 0 ≤ D
                  · have hdc : decide (0 ≤ D) = true := decide_eq_true hc
                    have HSucc := Lib.hid (HYes.out hc)
                    clear HYes HNo
                    go_wp2_with (at_builtin; refine wpList_append_own_at _ rfl _ _ 34 rfl h0 3 k0 (.int .i64 0) 1 8 Try.underlying34 hk0 hx0 hx1 hx2 rfl (by decide) _ mg _ rfl (HGr.out.alloc _) ⟨wr.heap.size, 0, none⟩ 1 1 [.int .i64 (k : Int)] rfl rfl ?c1 ?c2 ?c3 ?c4 ?c5 ?_)
                    case c1 => exact one_new _ _
                    case c2 => intro u hu; simp at hu; subst hu; rfl
                    case c3 => unfold maxLen; omega
                    case c4 => omega
                    case c5 => simp; omega
                    intro gv w3 hownG hgrowG _ hatG
                    have HG3 : Hid (w3.ownsRow h0 3 1 gv (mg + 1) (ints (grpF R (k + 1)))) := by
                      show w3.ownsRow _ _ _ _ _ _
                      rw [HSucc.out, ints_app]; exact hownG
                    have HMg3 : Hid (mg + 1 = (grpF R (k + 1)).length) := by show _ = _; have e := HMg.out; rw [HSucc.out, List.length_append, ← e]; rfl
                    have hgl : ∀ g, Value.ownBlock (.slice ga mg gc) = some g → h0 ≤ g := fun g hg => (HGr.out.lt g hg).1
                    have hsz3 : wr.heap.size ≤ w3.heap.size := by have := hgrowG.size; simp at this; omega
                    have z0 := hgrowG.cell (acell p0 (.cells #[.int .i64 (k : Int)] 3)) (fun e => by have := hgl w.heap.size e.symm; omega)
                    have z1 := hgrowG.cell (acell p1 (.cells #[.int .i64 (k : Int)] 3)) (fun e => by have := hgl w.heap.size e.symm; omega)
                    have HSe3 := Lib.hid (own_grown (HSe.out.alloc (.cells #[.int .i64 (k : Int)] 3)) hgrowG (fun g hg e => HGQ.out g hg e))
                    have HOut3 := Lib.hid (GrpsOwn.grown (HOut.out.at_later ((Below.refl _ _).alloc (Nat.le_refl _) _)) hgrowG (fun g e => HOut.out.lt g (by have := hgl g e; omega)))
                    have HS3 := Lib.hid (own_grown (HS.out.alloc (.cells #[.int .i64 (k : Int)] 3)) hgrowG (fun g hg e => by have := HSb.out g hg; have := hgl g e; omega))
                    have HRow3 : Hid (∀ q, q < n.stops.length → w3.cell? ⟨g2, q, none⟩ = some (.int .i64 (wat R q))) := fun q hq => hgrowG.cell (acell (HRow.out q hq) _) (fun e => by rcases HGb.out g2 e.symm with h | h <;> omega)
                    have HGb3 : Hid (∀ g, gv.ownBlock = some g → g = h0 ∨ h2 ≤ g) := fun g hg => by
                      rcases hatG with h | h
                      · rw [h] at hg; exact HGb.out g hg
                      · rw [h] at hg; simp at hg; omega
                    have HGQ3 : Hid (∀ g, (Value.slice qa mq qc).ownBlock = some g → gv.ownBlock ≠ some g) := fun g hg e => by
                      rcases hatG with h | h
                      · rw [h] at e; exact HGQ.out g hg e
                      · rw [h] at e; simp at e; have := (HSe.out.lt g hg).2; omega
                    have HB3 : Hid (Below w.heap.size w w3 ∧ w.heap.size + 3 < w3.heap.size) := ⟨(HB.out.1.alloc (by omega) _).grown hgrowG (by simp; omega) (fun g hg => by have := hgl g hg; omega), by omega⟩
                    clear hownG hgrowG hatG HGr HSe HOut HS HRow HGb HGQ hgl p0 p1 hq HMg
                    go_wp2_with (at_builtin; refine wpList_append_own_at _ rfl _ _ 34 rfl (w.heap.size + 3) 3 k0 (.int .i64 0) 1 8 Try.underlying34 hk0 hx0 hx1 hx2 rfl (by decide) _ mq _ rfl (HSe3.out.alloc _) ⟨w3.heap.size, 0, none⟩ 1 1 [.int .i64 (k : Int)] rfl rfl ?c1 ?c2 ?c3 ?c4 ?c5 ?_)
                    case c1 => exact one_new _ _
                    case c2 => intro u hu; simp at hu; subst hu; rfl
                    case c3 => unfold maxLen; omega
                    case c4 => omega
                    case c5 => simp; omega
                    intro qv w4 hownQ hgrowQ _ hatQ
                    have HSe4 : Hid (w4.ownsRow (w.heap.size + 3) 3 1 qv (mq + 1) (ints (seenF SW n.stops.length s ++ grpF R (k + 1)))) := by
                      show w4.ownsRow _ _ _ _ _ _
                      rw [HSucc.out, ← List.append_assoc, ints_app]; exact hownQ
                    have HMq4 : Hid (mq + 1 = (seenF SW n.stops.length s ++ grpF R (k + 1)).length) := by show _ = _; have e := HMq.out; rw [HSucc.out, ← List.append_assoc, List.length_append, ← e]; rfl
                    have hql : ∀ g, Value.ownBlock (.slice qa mq qc) = some g → w.heap.size + 3 ≤ g := fun g hg => (HSe3.out.lt g hg).1
                    have hsz4 : w3.heap.size ≤ w4.heap.size := by have := hgrowQ.size; simp at this; omega
                    have z0 : w4.cell? ⟨w.heap.size, 0, none⟩ = some (.slice a n.stops.length c) := hgrowQ.cell (acell z0 _) (fun e => by have := hql w.heap.size e.symm; omega)
                    have z1 : w4.cell? ⟨w.heap.size, 1, none⟩ = some (.slice a' n.lines.length c') := hgrowQ.cell (acell z1 _) (fun e => by have := hql w.heap.size e.symm; omega)
                    have HG4 := Lib.hid (own_grown (HG3.out.alloc (.cells #[.int .i64 (k : Int)] 3)) hgrowQ (fun g hg e => HGQ3.out g e hg))
                    have HOut4 := Lib.hid (GrpsOwn.grown (HOut3.out.at_later ((Below.refl _ _).alloc (Nat.le_refl _) _)) hgrowQ (fun g e => HQb.out.1 g e))
                    have HS4 := Lib.hid (own_grown (HS3.out.alloc (.cells #[.int .i64 (k : Int)] 3)) hgrowQ (fun g hg e => HQb.out.2.1 g e hg))
                    have HRow4 : Hid (∀ q, q < n.stops.length → w4.cell? ⟨g2, q, none⟩ = some (.int .i64 (wat R q))) := fun q hq => hgrowQ.cell (acell (HRow3.out q hq) _) (fun e => by rcases HQb.out.2.2 g2 e.symm with h | h <;> omega)
                    have HQb4 : Hid ((∀ g, qv.ownBlock = some g → NotIn g (.slice oa m oc) vs) ∧ (∀ g, qv.ownBlock = some g → (Value.slice sa SW.length sc).ownBlock ≠ some g) ∧ (∀ g, qv.ownBlock = some g → g < h0 ∨ h2 ≤ g)) := by
                      rcases hatQ with h | h
                      · rw [h]; exact HQb.out
                      · rw [h]
                        refine ⟨fun g hg => HOut3.out.lt g (by simp at hg; omega), fun g hg e => ?_, fun g hg => ?_⟩
                        · have := HSb.out g e; simp at hg; omega
                        · simp at hg; omega
                    have HGQ4 : Hid (∀ g, qv.ownBlock = some g → gv.ownBlock ≠ some g) := fun g hg e => by
                      rcases hatQ with h | h
                      · rw [h] at hg; exact HGQ3.out g hg e
                      · rw [h] at hg; simp at hg; have := (HG3.out.lt g e).2; omega
                    have HB4 : Hid (Below w.heap.size w w4 ∧ w.heap.size + 3 < w4.heap.size) := ⟨(HB3.out.1.alloc (by omega) _).grown hgrowQ (by simp; omega) (fun g hg => by have := hql g hg; omega), by omega⟩
                    clear hownQ hgrowQ hatQ HSe3 HOut3 HS3 HRow3 HGQ3 hql HG3 HMq HQb HB3 HB
                    go_wp2_with fail
                    go_roundw
                    case rel => exact ⟨k + 1, mg + 1, mq + 1, by omega, by go_num, by omega, by omega, HMg3, HMq4, HG4, HSe4, HGb3, HQb4, HGQ4, HOut4, HS4, HRow4, z0, z1, HB4, by omega⟩
                    case measure => simp [RowKit.intOf]; omega
                  · have hdc : decide (0 ≤ D) = false := decide_eq_false hc
                    have HSucc := Lib.hid (HNo.out hc)
                    clear HYes HNo
                    go_wp2_with fail
                    go_roundw
                    case rel => exact ⟨k + 1, mg, mq, by omega, by go_num, by omega, by omega, (by show _ = _; rw [HSucc.out]; exact HMg.out), (by show _ = _; rw [HSucc.out]; exact HMq.out), (by show World.ownsRow _ _ _ _ _ _ _; rw [HSucc.out]; exact HGr.out), (by show World.ownsRow _ _ _ _ _ _ _; rw [HSucc.out]; exact HSe.out), HGb, HQb, HGQ, HOut, HS, HRow, p0, p1, HB, hzz⟩
                    case measure => simp [RowKit.intOf]; omega
                · have hke : k = n.stops.length := by omega
                  rw [hke] at HMg HMq HGr HSe
                  have hk2 : ¬ (k : Int) < (n.stops.length : Int) := by omega
                  have hsl : (seenF SW n.stops.length (s + 1)) = seenF SW n.stops.length s ++ grpF R n.stops.length := HSeenY.out
                  have hkb := HB.out.2
                  have HX : Hid (IntsIn h0 wr.heap.size wr (.slice ga (grpF R n.stops.length).length gc) (grpF R n.stops.length)) := by
                    have e := HMg.out
                    have h := HGr.out
                    rw [e] at h
                    exact IntsIn.mk h
                  obtain ⟨G, hG⟩ : ∃ G, grpF R n.stops.length = G := ⟨_, rfl⟩
                  rw [hG] at HX HMg
                  have hme : mg = G.length := HMg.out
                  subst hme
                  have HRw : Hid (wr.ownsRow (w.heap.size + 1) 34 1 (.slice oa m oc) m vs) := by
                    show World.ownsRow _ _ _ _ _ _ _
                    have h := HOut.out.row
                    rw [← HMl.out] at h; exact h
                  go_wp2_with (at_builtin; refine wpList_append_own_at _ rfl _ _ 69 rfl (w.heap.size + 1) 34 j0 (.slice none 0 0) 1 24 Try.underlying69 hj0 hy0 hy1 hy2 rfl (by decide) _ m _ rfl (HRw.out.alloc _) ⟨wr.heap.size, 0, none⟩ 1 1 [.slice ga G.length gc] rfl rfl ?c1 ?c2 ?c3 ?c4 ?c5 ?_)
                  case c2 => rfl
                  case c3 => unfold maxLen; omega
                  case c4 => omega
                  case c5 => omega
                  intro v' w3 hown' hgrow _ hat
                  have HO3 : Hid (GrpsOwn (w.heap.size + 1) w3.heap.size w3 v' (vs ++ [.slice ga G.length gc]) (gsF SW n.stops.length (s + 1))) := by
                    show GrpsOwn _ _ _ _ _ _
                    rw [HGsY.out, hG]
                    refine GrpsOwn.snoc HOut.out hu (by omega) HX.out (Nat.le_refl _) (by omega) ((Below.refl _ _).alloc (Nat.le_refl _) _) hgrow ?_ ?_
                    · have e := HMl.out; rw [← e]; exact hown'
                    · simpa using hat
                  have hml2 : Hid (m + 1 = (gsF SW n.stops.length (s + 1)).length) := by show _ = _; have e := HMl.out; rw [HGsY.out, List.length_append, ← e]; rfl
                  have hg1 : ∀ g, Value.ownBlock (.slice oa m oc) = some g → w.heap.size + 1 ≤ g := fun g hg => (HRw.out.lt g hg).1
                  have z0 : w3.cell? ⟨w.heap.size, 0, none⟩ = some (.slice a n.stops.length c) := hgrow.cell (acell p0 _) (fun e => by have := hg1 w.heap.size e.symm; omega)
                  have z1 : w3.cell? ⟨w.heap.size, 1, none⟩ = some (.slice a' n.lines.length c') := hgrow.cell (acell p1 _) (fun e => by have := hg1 w.heap.size e.symm; omega)
                  have HS3 := Lib.hid (own_grown (HS.out.alloc (.cells #[.slice ga G.length gc] 34)) hgrow (fun g hg e => by have := HSb.out g hg; have := (HS.out.lt g hg).1; rcases HBlk.out g e with h | h <;> omega))
                  have HSe3 : Hid (w3.ownsRow (w.heap.size + 3) 3 1 (.slice qa mq qc) mq (ints (seenF SW n.stops.length (s + 1)))) := by
                    show World.ownsRow _ _ _ _ _ _ _
                    rw [hsl]
                    exact own_grown (HSe.out.alloc (.cells #[.slice ga G.length gc] 34)) hgrow (fun g hg e => (HQb.out.1 g hg).1 e)
                  have HMq3 : Hid (mq = (seenF SW n.stops.length (s + 1)).length) := by show _ = _; rw [hsl]; exact HMq.out
                  have HBlk3 : Hid (∀ g, v'.ownBlock = some g → g = w.heap.size + 1 ∨ m0 ≤ g) := fun g hg => by
                    rcases hat with h | h
                    · rw [h] at hg; exact HBlk.out g hg
                    · rw [h] at hg; simp at hg; omega
                  have HQb3 : Hid ((∀ g, (Value.slice qa mq qc).ownBlock = some g → NotIn g v' (vs ++ [.slice ga G.length gc])) ∧ (∀ g, (Value.slice qa mq qc).ownBlock = some g → (Value.slice sa SW.length sc).ownBlock ≠ some g)) := by
                    refine ⟨fun g hg => NotIn.snoc (HQb.out.1 g hg) ?_ (HGQ.out g hg), fun g hg => HQb.out.2.1 g hg⟩
                    rcases hat with h | h
                    · exact .inl h
                    · refine .inr (fun e => ?_)
                      rw [h] at e; simp at e; have := (HSe.out.lt g hg).2; omega
                  have HB3 : Hid (Below w.heap.size w w3 ∧ w.heap.size + 3 < w3.heap.size) := ⟨(HB.out.1.alloc (by omega) _).grown hgrow (by simp; omega) (fun g hg => by have := hg1 g hg; omega), by have := hgrow.size; simp at this; omega⟩
                  have hm3 : m0 ≤ w3.heap.size := by have := hgrow.size; simp at this; omega
                  clear hown' hgrow hg1 hat p0 p1 hG hsl hke
                  go_wp2_with fail
                  exact ⟨⟨s + 1, m + 1, mq, w3.heap.size, _, by omega, by go_num, by omega, hml2, HMq3, HO3, Nat.le_refl _, HBlk3, HSe3, HQb3, HS3, z0, z1, HB3, hm3⟩, by simp [RowKit.intOf]; omega⟩
          · obtain rfl : s = n.stops.length := by omega
            go_wp2_with fail
            go_ret2
            exact ⟨⟨_, rfl, GrpsIn.base ⟨vs, HOut.out⟩ (Nat.le_succ _) hu⟩, HB.out.1⟩

theorem gsF_each (ws : List WlkD) (n : Nat) : ∀ s, ∀ xs ∈ gsF ws n s, xs.length ≤ n
  | 0, xs, h => by cases h
  | s + 1, xs, h => by
    rw [gsF] at h
    split at h
    · exact gsF_each ws n s xs h
    · rcases List.mem_append.1 h with h | h
      · exact gsF_each ws n s xs h
      · rw [List.mem_singleton.1 h, grp]; exact grpF_len _ _
theorem totL_le {xss : List (List Int)} {b : Nat} (h : ∀ xs ∈ xss, xs.length ≤ b) : totL xss ≤ xss.length * b := by
  have : ∀ i, i ≤ xss.length → preL xss i ≤ i * b := by
    intro i
    induction i with
    | zero => intro _; exact Nat.zero_le _
    | succ i ih =>
      intro hi
      rw [preL_succ (by omega), Nat.succ_mul]
      have := ih (by omega)
      have := h xss[i] (List.getElem_mem _)
      omega
  exact this _ (Nat.le_refl _)
theorem grAns_small (n : NetD) (ws : List WlkD) (lim : Int) : GrpsSmall (grAns n ws lim) := by
  unfold grAns
  split
  · rename_i h
    unfold grOk at h
    simp only [Bool.and_eq_true] at h
    have hn8 := netGood_stops (walksB_iff h.1).1
    have h1 := gsF_len (shortW ws lim) n.stops.length n.stops.length
    have h2 := totL_le (gsF_each (shortW ws lim) n.stops.length n.stops.length)
    have h3 : (gsF (shortW ws lim) n.stops.length n.stops.length).length * n.stops.length ≤ 8 * 8 := Nat.mul_le_mul (by omega) hn8
    exact ⟨by omega, by omega⟩
  · exact ⟨by simp, by simp [totL, preL]⟩
theorem bothWalkGroups (n : NetD) (hf : NetFits n) (hs : NetSmall n) (ws : List WlkD) (hwf : WalksFit ws) (hws : WalksSmall ws) (lim : Int) (w2 : (Lit.int .i64 lim).wf = true) : ∃ (r : List (List Int)) (b : Bool), GrpsSmall r ∧ ∀ (v v' : Value) (w : World), NetAt w v n → WalksAt w v' ws →
    Calls Try.prog 44 #[v, v', .int .i64 lim] w (fun e w' => ∃ u, e = .returned (.tuple #[u, .bool b]) ∧ GrpsIn w.heap.size w'.heap.size w' u r ∧ Below w.heap.size w w') ∧ Calls Try.prog 43 #[v, v', .int .i64 lim] w (fun e w' => ∃ u, e = .returned (.tuple #[u, .bool b]) ∧ GrpsIn w.heap.size w'.heap.size w' u r ∧ Below w.heap.size w w') :=
  ⟨grAns n ws lim, grOk n ws lim, grAns_small n ws lim, fun v v' w h h' => ⟨(specGroups_any v v' n ws lim w h h' hf).mono fun e w' ⟨⟨u, h1, h2⟩, h3⟩ => ⟨u, h1, h2, h3⟩, (implGroups_any v v' n ws lim w h h' hf).mono fun e w' ⟨⟨u, h1, h2⟩, h3⟩ => ⟨u, h1, h2, h3⟩⟩⟩
end Go.Proofs.Ytmbpkdplgfgheaa
