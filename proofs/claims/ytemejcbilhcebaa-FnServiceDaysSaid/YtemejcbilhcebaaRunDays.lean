import Derived.Test.YtemejcbilhcebaaCalValid
import Derived.Test.YtemejcbilhcebaaIntsLaw
import Derived.Test.YtemejcbilhcebaaCal
import Derived.RangeFuncNested
import Derived.RangeFuncBound
import Derived.RangeFuncCalls
import Derived.RangeFuncLeaves
import Derived.Shelf.Abstract
import Derived.Shelf.RegionOpen
import Derived.WalkKit
import Derived.OwnWalkIn
import Derived.TacticsInMore
import Derived.LoopNIn
import Derived.LoopIn
namespace Go.Proofs.Ytemejcbilhcebaa
open Go.RowKit Go.Shelf
set_option linter.unusedVariables false
attribute [local go_sem] Oper.semAt_some

def daysN (c : CalD) (fr : Int) : Nat := (c.too + 1 - fr).toNat
def daysOf (c : CalD) (fr : Int) : List Int := dayRow (runsB c) fr (daysN c fr)

def CalBlk (W : World) (bc : Nat) (c : CalD) (av rv : Value) : Prop := W.heap[bc]? = some (.cells #[.int .i64 c.frm, .int .i64 c.too, .int .i64 c.wd, av, rv] 46 (0, 0))
theorem CalBlk.box {W : World} {bc : Nat} {c : CalD} {av rv : Value} (h : CalBlk W bc c av rv) : CalBox W bc c av rv := by
  have h' : W.heap[bc]? = _ := h
  exact ⟨by simp [World.cell?, h'], by simp [World.cell?, h'], by simp [World.cell?, h'], by simp [World.cell?, h'], by simp [World.cell?, h']⟩
theorem CalBlk.lt {W : World} {bc : Nat} {c : CalD} {av rv : Value} (h : CalBlk W bc c av rv) : bc < W.heap.size := (Array.getElem?_eq_some_iff.1 h).1
theorem CalBlk.kept {W W' : World} {bc : Nat} {c : CalD} {av rv : Value} {row : Option Nat} (h : CalBlk W bc c av rv) (hg : W.grownBy W' row) (hne : row ≠ some bc) : CalBlk W' bc c av rv := (hg.block bc h.lt (fun e => hne e.symm)).trans h
theorem below_grown {W W' : World} (hb : Below W.heap.size W W') : W.grownBy W' none := ⟨hb.os, hb.tape, hb.output, hb.size, fun k hk _ => hb.block k hk⟩
theorem CalBlk.keep {W W' : World} {bc : Nat} {c : CalD} {av rv : Value} (hb : Below W.heap.size W W') (h : CalBlk W bc c av rv) : CalBlk W' bc c av rv := h.kept (below_grown hb) (fun e => by cases e)
theorem CalBlk.set {W : World} {bc : Nat} {c : CalD} {av rv : Value} (h : CalBlk W bc c av rv) {cb i : Nat} (hne : cb ≠ bc) (u : Value) : CalBlk (W.setCell ⟨cb, i, none⟩ u) bc c av rv :=
  (Below.heap_setCell W ⟨cb, i, none⟩ u bc hne.symm).trans h
theorem calBlk_own {β : Type} (bc : Nat) (c : CalD) (av rv : Value) : Own (fun (_ : β) W => CalBlk W bc c av rv) := fun _ X Y row hs hg hrow =>
  hs.kept hg (fun e => by obtain ⟨o, ho, hc⟩ := hrow bc e; rw [show X.heap[bc]? = _ from hs] at ho; cases ho; cases hc)
theorem CalBlk.not_row {W : World} {bc : Nat} {c : CalD} {av rv : Value} (h : CalBlk W bc c av rv) {B n sz : Nat} {v : Value} {xs : List Value} (hr : W.ownsRow B 3 sz v n xs) : v.ownBlock ≠ some bc := by
  intro e
  rcases hr.2 with ⟨rfl, _⟩ | ⟨g, cap, cur, rfl, _, hh, _⟩
  · simp [Value.ownBlock] at e
  · obtain rfl : g = bc := by simpa [Value.ownBlock] using e
    rw [show W.heap[g]? = _ from h] at hh
    cases hh

theorem runDays_any (v : Value) (c : CalD) (fr : Int) (w : World) (hr : CalAt w v c) :
    Calls Try.prog 76 #[v, .int .i64 fr] w fun e w' => e = .returned (.func (.func 105) #[] #[.pointer (some ⟨w.heap.size + 1, 0, none⟩), .pointer (some ⟨w.heap.size, 0, none⟩)]) ∧
      Below w.heap.size w w' ∧ w'.heap.size = w.heap.size + 2 ∧ w'.cell? ⟨w.heap.size + 1, 0, none⟩ = some (.int .i64 fr) ∧ (∃ av rv, v = .agg #[.int .i64 c.frm, .int .i64 c.too, .int .i64 c.wd, av, rv] ∧ CalBlk w' w.heap.size c av rv) ∧ CalAt w' v c := by
  have HAt := Lib.hid (fun W (h : Below w.heap.size w W) => hr.below rfl h)
  obtain ⟨a1, c1, a2, c2, rfl⟩ := Calendar_open hr
  clear hr
  go_enter Try.func76, Try.ntmps76
  go_wp2_with fail
  go_ret
  have hb : Below w.heap.size w ((w.alloc (.cells #[.int .i64 c.frm, .int .i64 c.too, .int .i64 c.wd, .slice a1 c.added.length c1, .slice a2 c.removed.length c2] 46)).alloc (.cells #[.int .i64 fr] 3)) := ((Below.refl _ _).alloc (Nat.le_refl _) _).alloc (by simp) _
  exact ⟨rfl, hb, by simp, by go_simp, ⟨_, _, rfl, CalBlk.keep ((Below.refl _ _).alloc (Nat.le_refl _) _) (World.alloc_heap_new w _)⟩, HAt.out _ hb⟩

def DInv (w0 : World) (bc : Nat) (c : CalD) (av rv : Value) (W : World) : Prop := CalBlk W bc c av rv ∧ Below w0.heap.size w0 W
def KpD (w0 : World) (bc : Nat) (c : CalD) (av rv : Value) (A B : World) : Prop := DInv w0 bc c av rv A → DInv w0 bc c av rv B
theorem kpD_t {w0 : World} {bc : Nat} {c : CalD} {av rv : Value} {A B C : World} (h : KpD w0 bc c av rv A B) (k : KpD w0 bc c av rv B C) : KpD w0 bc c av rv A C := fun g => k (h g)
theorem cell_put {W : World} {l : Nat} {o o' : Obj} (hl : W.heap[l]? = some o) (ho : o.isCells = false) {p : Addr} {x : Value} (h : W.cell? p = some x) : (W.putObj l o').cell? p = some x :=
  cell_kept h (grownBy_putObj' W l o') (fun r e => by cases e; exact ⟨o, hl, ho⟩)
theorem kpD_grown {w0 : World} {bc : Nat} {c : CalD} {av rv : Value} {W W' : World} {row : Option Nat} (hg : W.grownBy W' row) (hr : ∀ g, row = some g → w0.heap.size ≤ g ∧ g ≠ bc) : KpD w0 bc c av rv W W' := fun ⟨h, hb⟩ =>
  ⟨h.kept hg (fun e => (hr bc e).2 rfl), hb.grown hg hb.size (fun k e => (hr k e).1)⟩
theorem kpD_b {w0 : World} {bc : Nat} {c : CalD} {av rv : Value} {w : World} (hn : w0.heap.size ≤ w.heap.size) (W : World) (l : Nat) (o o' : Obj) (hl : w.heap.size ≤ l) (h : W.heap[l]? = some o) (h1 : o.isCells = false) (h2 : o.isWalk = false) : KpD w0 bc c av rv W (W.putObj l o') := fun hd =>
  kpD_grown (grownBy_putObj' W l o') (fun g e => by
    cases e
    refine ⟨by omega, fun e => ?_⟩
    subst e
    have := hd.1
    rw [show W.heap[l]? = _ from this] at h
    cases h; cases h1) hd
theorem kpD_set {w0 : World} {bc : Nat} {c : CalD} {av rv : Value} {W : World} {cb i : Nat} (hn : w0.heap.size ≤ cb) (hne : cb ≠ bc) (u : Value) : KpD w0 bc c av rv W (W.setCell ⟨cb, i, none⟩ u) := fun ⟨h, hb⟩ =>
  ⟨h.set hne u, hb.setCell (p := ⟨cb, i, none⟩) hn u⟩
theorem kpD_below {w0 : World} {bc : Nat} {c : CalD} {av rv : Value} {W W' : World} (hb : Below W.heap.size W W') : KpD w0 bc c av rv W W' := kpD_grown (below_grown hb) (fun g e => by cases e)

set_option maxRecDepth 100000 in
set_option maxHeartbeats 2000000 in
theorem runDays1_stops (n : Nat) (hn : 1 ≤ n) (bf bc : Nat) (c : CalD) (fr : Int) (av rv : Value) (w0 w : World) (hw : Below w0.heap.size w0 w) (hf : w.cell? ⟨bf, 0, none⟩ = some (.int .i64 fr)) (hc : CalBlk w bc c av rv)
    (hr : CalAt w0 (.agg #[.int .i64 c.frm, .int .i64 c.too, .int .i64 c.wd, av, rv]) c) (hg : CalNum c) (h0 : 0 ≤ fr) (h1 : fr ≤ 3651) :
    SeqStopsK Fence.wide n Try.prog 105 #[.pointer (some ⟨bf, 0, none⟩), .pointer (some ⟨bc, 0, none⟩)] (fun x : Int => #[Value.int .i64 x]) (KpD w0 bc c av rv) (fun ys => ys = daysOf c fr) (fun pre => pre <+: daysOf c fr) 3651 w := fun l J Jx W hW hJ hJx hY hs0 => by
  have HW0 : Hid (DInv w0 bc c av rv W) := ⟨hc.keep hW, hw.trans (hW.mono hw.size)⟩
  have HDo := Lib.hid (fun W' (h : Below w0.heap.size w0 W') d => doesRun_any _ c d W' (hr.below rfl h) hg)
  have f0 := bkeep hW hf
  have HJ := Lib.hid hJ
  have HY := Lib.hid hY
  obtain ⟨a1, c1, a2, c2, hvv⟩ := Calendar_open hr
  obtain ⟨rfl, rfl⟩ : av = .slice a1 c.added.length c1 ∧ rv = .slice a2 c.removed.length c2 := by simpa using hvv
  clear hvv hr hf hc hJ hJx hY hW hw
  obtain ⟨n1, n2, n3, n4, n5⟩ := hg
  have hNle : daysN c fr ≤ 3651 := by unfold daysN; omega
  have HN : Hid ((daysN c fr : Int) = max 0 (c.too + 1 - fr)) := by show _ = _; unfold daysN; omega
  refine callsIn_of_wp Try.func105 rfl trivial ?_ rfl
  simp only [Try.ntmps105, List.size_toArray, List.length_cons, List.length_nil, Nat.reduceAdd, Nat.reduceSub, Array.replicate_succ, Array.replicate_zero, List.push_toArray, List.append_toArray, List.nil_append, List.cons_append]
  gi_wp2_with fail
  gi_loopw [4] (fun i wr => ∃ k : Nat, k ≤ daysN c fr ∧ i = .int .i64 (fr + (k : Int)) ∧ Hid (J (dayRow (runsB c) fr k) wr) ∧ Hid (DInv w0 bc c (.slice a1 c.added.length c1) (.slice a2 c.removed.length c2) wr)) (fun i _ => (3651 - RowKit.intOf i).toNat)
  case atStart => exact ⟨0, Nat.zero_le _, by simp, hs0, HW0.out⟩
  case round =>
    clear f0
    obtain ⟨k, hk, rfl, HJs, HB⟩ := hrel
    obtain ⟨c0, c1', c2', c3, c4⟩ := HB.out.1.box
    by_cases hlt : k < daysN c fr
    · have hle : fr + (k : Int) ≤ c.too := by have := HN.out; omega
      have hx0 : 0 ≤ fr + (k : Int) := by omega
      have HDr := Lib.hid (HDo.out _ HB.out.2 (fr + (k : Int)))
      have Hlen : Hid ((dayRow (runsB c) fr k).length < 3651) := by have := dayRow_len (runsB c) fr k; show _ < _; omega
      by_cases hrun : runsB c (fr + (k : Int)) = true
      · have HD1 := Lib.hid (dayRow_yes (p := runsB c) (lo := fr) (n := k) hrun)
        rw [hrun] at HDr
        clear hrun
        gi_wp2_with fail
        refine ⟨trivial, ?_⟩
        gi_at_call 79
        refine (callsIn_wide.2 HDr.out).mono ?_
        rintro e w1 ⟨rfl, hb1⟩
        have HB1 : Hid (DInv w0 bc c (.slice a1 c.added.length c1) (.slice a2 c.removed.length c2) w1) := kpD_below hb1 HB.out
        have HJ1 := Lib.hid (HJ.out _ _ _ none HJs.out ⟨hb1.os, hb1.tape, hb1.output, hb1.size, fun k hk _ => hb1.block k hk⟩ (fun r e => by cases e))
        clear hb1 c0 c1' c2' c3 c4 HB HJs HDr
        obtain ⟨fn, tmps, assign, body, hy, hR⟩ := HY.out _ (fr + (k : Int)) w1 HJ1.out Hlen.out
        gi_wp2_with fail
        refine hR.mono ?_
        clear hy hR
        rintro e W3 (⟨rfl, hJ3, hk3⟩ | ⟨rfl, hJx3⟩)
        · rw [← HD1.out] at hJ3
          have HJ3 := Lib.hid hJ3
          have HB3 : Hid (DInv w0 bc c (.slice a1 c.added.length c1) (.slice a2 c.removed.length c2) W3) := hk3 HB1.out
          clear hJ3 hk3
          gi_wp2_with fail
          go_roundw
          case rel => exact ⟨k + 1, by omega, by rw [show fr + ((k + 1 : Nat) : Int) = fr + (k : Int) + 1 by omega], HJ3.out, HB3.out⟩
          case measure => simp [RowKit.intOf]; omega
        · have HX : Hid (∃ pre, pre <+: daysOf c fr ∧ Jx pre W3) := ⟨_, by
            unfold daysOf
            rw [← HD1.out]
            exact dayRow_prefix _ _ _ _ (by omega), hJx3⟩
          clear hJx3
          gi_wp2_with fail
          refine bodyPost_ret (results_none rfl _ _ _) rfl ?_
          exact ⟨⟨_, rfl⟩, .inr HX.out⟩
      · have hrun' : runsB c (fr + (k : Int)) = false := by simpa using hrun
        have HD1 := Lib.hid (dayRow_no (p := runsB c) (lo := fr) (n := k) hrun')
        rw [hrun'] at HDr
        clear hrun hrun'
        gi_wp2_with fail
        refine ⟨trivial, ?_⟩
        gi_at_call 79
        refine (callsIn_wide.2 HDr.out).mono ?_
        rintro e w1 ⟨rfl, hb1⟩
        have HB1 : Hid (DInv w0 bc c (.slice a1 c.added.length c1) (.slice a2 c.removed.length c2) w1) := kpD_below hb1 HB.out
        have HJ1 := Lib.hid (HJ.out _ _ _ none HJs.out ⟨hb1.os, hb1.tape, hb1.output, hb1.size, fun k hk _ => hb1.block k hk⟩ (fun r e => by cases e))
        clear hb1 c0 c1' c2' c3 c4 HB HJs HDr
        gi_wp2_with fail
        refine ⟨fun _ h => (by cases h), ?_⟩
        gi_wp2_with fail
        go_roundw
        case rel => exact ⟨k + 1, by omega, by rw [show fr + ((k + 1 : Nat) : Int) = fr + (k : Int) + 1 by omega], by rw [HD1.out]; exact HJ1.out, HB1.out⟩
        case measure => simp [RowKit.intOf]; omega
    · have hgt : c.too < fr + (k : Int) := by have := HN.out; omega
      have hkn : k = daysN c fr := by omega
      have HX : Hid (∃ ys, ys = daysOf c fr ∧ J ys wr) := ⟨_, by unfold daysOf; rw [hkn], HJs.out⟩
      clear hkn
      gi_wp2_with fail
      go_end0
      exact ⟨⟨_, rfl⟩, .inl HX.out⟩
end Go.Proofs.Ytemejcbilhcebaa
