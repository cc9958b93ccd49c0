/-
  JOINED TEXTS, each under its own namespace line: SpanX, Peak, StepRun.
-/
import Derived.Test.YtehpeifaknbcnaaRows
import Derived.Test.YtehpeifaknbcnaaMk43
import Derived.LoopTactic
import Derived.WalkLawsBesides
import Derived.BigQuiet
import Derived.Deep.RegionHeld3
import Derived.Deep.QuietTactic
import Derived.Laws.Entries
import Derived.Test.YtehpeifaknbcnaaSpanOf
import Derived.Test.YtehpeifaknbcnaaMk28
import Derived.Test.YtehpeifaknbcnaaInts
import Derived.Test.YtehpeifaknbcnaaL5Good
import Derived.Test.YtehpeifaknbcnaaFoll
import Derived.WalkKit
import Derived.Deep.AppendLies
import Derived.Deep.Upon
import Derived.OrdersHeld
namespace Go.Proofs.Ytehpeifaknbcnaa
open Go.RowKit
set_option linter.unusedVariables false

theorem infoSpan : (Try.prog.info? 104).map (fun i => (i.zero, i.size, i.bytes)) = some (some (.agg #[.int .i64 0, .int .i64 0]), 2, 16) := by kernel_rfl
def SpansSmall (xs : List SpanD) : Prop := xs.length ≤ 1048576
theorem eqSpan_any (s : SpanD) (w : World) : Calls Try.prog 79 #[.agg #[.int .i64 s.1, .int .i64 s.2], .agg #[.int .i64 s.1, .int .i64 s.2]] w fun e w' => e = .returned (.bool true) ∧ Below w.heap.size w w' := by
  have h0 : (s.1 != s.1) = false := by simp
  have h1 : (s.2 != s.2) = false := by simp
  go_enter Try.func79, Try.ntmps79
  go_wp2_with fail
  go_ret
  exact ⟨rfl, ((Below.refl _ _).alloc (by simp <;> omega) _).alloc (by simp <;> omega) _⟩

theorem keepE4 {W w w' : World} {p0 p1 p2 p3 : Addr} {x0 x1 x2 x3 : Value} (hb : Below w.heap.size w w') (h : w.cell? p0 = some x0 ∧ w.cell? p1 = some x1 ∧ w.cell? p2 = some x2 ∧ w.cell? p3 = some x3 ∧ Below W.heap.size W w) : w'.cell? p0 = some x0 ∧ w'.cell? p1 = some x1 ∧ w'.cell? p2 = some x2 ∧ w'.cell? p3 = some x3 ∧ Below W.heap.size W w' := by
  obtain ⟨h0, h1, h2, h3, hl⟩ := h
  exact ⟨bkeep hb h0, bkeep hb h1, bkeep hb h2, bkeep hb h3, hl.trans (hb.mono hl.size)⟩
set_option maxHeartbeats 1000000 in
theorem eqSpanS_x (v v' : Value) (xs : List SpanD) (w : World) (hr : SpansAt w v xs) (hr' : SpansAt w v' xs) (hs : SpansSmall xs) :
    Calls Try.prog 35 #[v, v'] w fun e w' => e = .returned (.bool true) ∧ Below w.heap.size w w' := by
  obtain ⟨a, c, rfl, hc, hm, HC⟩ := spans_open hr
  obtain ⟨a', c', rfl, hc', hm', HC'⟩ := spans_open hr'
  clear hr hr'
  go_enter Try.func35, Try.ntmps35
  go_wp2
  go_loopw [5] (fun i wr => ∃ k : Nat, k ≤ xs.length ∧ i = .int .i64 k ∧ Hid (Below w.heap.size w wr))
    (fun i _ => xs.length - (RowKit.intOf i).toNat)
  case atStart => exact ⟨0, Nat.zero_le _, rfl, Below.refl _ _⟩
  case round =>
    obtain ⟨k, hk, rfl, HB⟩ := hrel
    by_cases hlt : k < xs.length
    · obtain ⟨b, off, rfl, hbl, y0, y1⟩ := HC.out k hlt
      obtain ⟨b', off', rfl, hbl', z0, z1⟩ := HC'.out k hlt
      have hx0 := HB.out.cell (p := ⟨b, off + k * 2, none⟩) hbl
      rw [y0] at hx0
      have hx1 := HB.out.cell (p := ⟨b, off + k * 2 + 1, none⟩) hbl
      rw [y1] at hx1
      have hu0 := HB.out.cell (p := ⟨b', off' + k * 2, none⟩) hbl'
      rw [z0] at hu0
      have hu1 := HB.out.cell (p := ⟨b', off' + k * 2 + 1, none⟩) hbl'
      rw [z1] at hu1
      have HEq := Lib.hid (eqSpan_any xs[k])
      clear y0 y1 z0 z1
      have hk1 : (k : Int) < (xs.length : Int) := by omega
      generalize xs[k] = y at *
      have hbel := HB.out
      go_wp2_with fail
      go_region_held3 (fun w' => w'.cell? ⟨b, off + k * 2, none⟩ = some (.int .i64 y.1) ∧ w'.cell? ⟨b, off + k * 2 + 1, none⟩ = some (.int .i64 y.2) ∧ w'.cell? ⟨b', off' + k * 2, none⟩ = some (.int .i64 y.1) ∧ w'.cell? ⟨b', off' + k * 2 + 1, none⟩ = some (.int .i64 y.2) ∧ Below w.heap.size w w')
        (first | (exact ⟨hx0, hx1, hu0, hu1, hbel.drew⟩) | (exact keepE4 hb (by assumption)))
        ((go_at_call 79; refine (HEq.out _).mono ?_; rintro e w' ⟨rfl, hb⟩))
      obtain ⟨_, _, _, _, qb⟩ := (by assumption : _ ∧ _)
      clear hx0 hx1 hu0 hu1 hbel HB
      go_wp2_with fail
      go_roundw
      case rel => exact ⟨k + 1, by omega, by go_num, qb⟩
      case measure => simp [RowKit.intOf]; omega
    · go_wp2
      go_ret
      exact ⟨rfl, HB.out⟩

def upSpans (k : Int) : Nat → List SpanD
  | 0 => []
  | n + 1 => upSpans k n ++ [(k + 2 * (n : Int), k + 2 * (n : Int) + 1)]
theorem upSpans_len (k : Int) : ∀ n, (upSpans k n).length = n
  | 0 => rfl
  | n + 1 => by simp [upSpans, upSpans_len k n]
theorem upSpans_get (k : Int) : ∀ n j (h : j < (upSpans k n).length), (upSpans k n)[j] = (k + 2 * (j : Int), k + 2 * (j : Int) + 1)
  | 0, j, h => by simp [upSpans] at h
  | n + 1, j, h => by
    simp only [upSpans]
    rw [List.getElem_append]
    have hl := upSpans_len k n
    split
    · exact upSpans_get k n j (by assumption)
    · have : j = n := by simp [upSpans, hl] at h; omega
      subst this
      simp

def SpansMk (k : Int) (w : World) (v : Value) (xs : List SpanD) : Prop := SpansAt w v (upSpans k xs.length)
theorem SpansMk.later {k : Int} {w w' : World} {v : Value} {xs : List SpanD} (h : SpansMk k w v xs) (hb : Below w.heap.size w w') : SpansMk k w' v xs := SpansAt.below h rfl hb

set_option maxHeartbeats 2000000 in
theorem markSpanS_own (v : Value) (xs : List SpanD) (k : Int) (B : Nat) (w : World) (hr : w.ownsRow B 104 2 v xs.length (spanC xs)) (hn : xs.length ≤ 1048576) (hk0 : 0 ≤ k) (hk : k ≤ 1073741824) :
    Calls Try.prog 39 #[v, .int .i64 k] w fun e w' => e = .returned (.int .i64 (k + 2 * (xs.length : Int))) ∧ w'.ownsRow B 104 2 v xs.length (spanC (upSpans k xs.length)) ∧ w.grownBy w' v.ownBlock := by
  obtain ⟨a, c, rfl⟩ := own_shape hr
  have HO := Lib.hid hr
  clear hr
  go_enter Try.func39, Try.ntmps39
  go_wp2
  go_loopw [1, 5] (fun q i wr => ∃ j : Nat, j ≤ xs.length ∧ i = .int .i64 j ∧ q = .int .i64 (k + 2 * (j : Int)) ∧ (∃ ys : List SpanD, ys.length = xs.length ∧ Hid (ys.take j = (upSpans k xs.length).take j) ∧ Hid (wr.ownsRow B 104 2 (.slice a xs.length c) xs.length (spanC ys))) ∧ Hid (w.grownBy wr (Value.ownBlock (.slice a xs.length c))))
    (fun _ i _ => xs.length - (RowKit.intOf i).toNat)
  case atStart => exact ⟨0, Nat.zero_le _, rfl, by simp, ⟨_, rfl, rfl, HO.out⟩, World.grownBy.refl _ _⟩
  case round =>
    obtain ⟨j, hj, rfl, rfl, ⟨ys, hys, HT, HOwn⟩, HG⟩ := hrel
    by_cases hlt : j < xs.length
    · obtain ⟨_, h2⟩ := HOwn.out
      rcases h2 with ⟨hv, h0⟩ | ⟨g, cap, cur, hv, hg, hblk, h3, h4, h5, h6⟩
      · omega
      simp at hv
      obtain ⟨rfl, rfl⟩ := hv
      have hown := HOwn.out
      have hjl : j < ys.length := by omega
      have q0 : wr.cell? ⟨g, j * 2, none⟩ = some (.int .i64 ys[j].1) := by rw [hown.cellAt (j * 2) (by omega)]; exact spanC_get0 ys j hjl
      have q1 : wr.cell? ⟨g, j * 2 + 1, none⟩ = some (.int .i64 ys[j].2) := by rw [hown.cellAt (j * 2 + 1) (by omega)]; exact spanC_get1 ys j hjl
      have hf := fun o => hown.frozenAt o
      have HOwn2 : Hid (((wr.setCell ⟨g, j * 2, none⟩ (.int .i64 (k + 2 * (j : Int)))).setCell ⟨g, j * 2 + 1, none⟩ (.int .i64 (k + 2 * (j : Int) + 1))).ownsRow B 104 2 (.slice (some ⟨g, 0, none⟩) xs.length c) xs.length (spanC (ys.set j (k + 2 * (j : Int), k + 2 * (j : Int) + 1)))) := by
        have := ((hown.stored (j * 2) (.int .i64 (k + 2 * (j : Int)))).1.stored (j * 2 + 1) (.int .i64 (k + 2 * (j : Int) + 1))).1
        rw [spanC_set ys j (k + 2 * (j : Int), k + 2 * (j : Int) + 1) hjl] at this
        exact this
      have HT2 : Hid ((ys.set j (k + 2 * (j : Int), k + 2 * (j : Int) + 1)).take (j + 1) = (upSpans k xs.length).take (j + 1)) := by
        have hl2 : j < (upSpans k xs.length).length := by rw [upSpans_len]; exact hlt
        have := take_set_succ ys (upSpans k xs.length) j hjl hl2 HT.out
        rw [upSpans_get] at this; exact this
      have hset : ∀ (W : World) (o : Nat) (u : Value), w.grownBy W (some g) → w.grownBy (W.setCell ⟨g, o, none⟩ u) (some g) := fun W o u h =>
        ⟨h.os, h.tape, h.output, by have := h.size; simp [World.setCell]; omega, fun q hq hne => by
          rw [Below.heap_setCell _ _ _ _ (fun e => hne (by rw [e]))]; exact h.block q hq hne⟩
      have HG2 : Hid (w.grownBy ((wr.setCell ⟨g, j * 2, none⟩ (.int .i64 (k + 2 * (j : Int)))).setCell ⟨g, j * 2 + 1, none⟩ (.int .i64 (k + 2 * (j : Int) + 1))) (some g)) := hset _ _ _ (hset _ _ _ HG.out)
      clear HG hset
      clear hown hblk h4 h5 h6
      generalize ys[j] = old at *
      go_wp2
      go_roundw
      case rel => exact ⟨j + 1, by omega, by go_num, by go_num, ⟨_, by simpa using hys, HT2, HOwn2⟩, HG2⟩
      case measure => simp [RowKit.intOf]; omega
    · have hjl : j = xs.length := by omega
      subst hjl
      go_wp2
      go_ret
      refine ⟨rfl, ?_, HG.out⟩
      have := HT.out
      rw [List.take_of_length_le (by omega), List.take_of_length_le (by rw [upSpans_len]; omega)] at this
      rw [← this]; exact HOwn.out
theorem markSpanS_x (v : Value) (xs : List SpanD) (k : Int) (l u : Nat) (w : World) (hr : SpansIn l u w v xs) (hl : l ≤ w.heap.size) (hs : SpansSmall xs) (hk0 : 0 ≤ k) (hk : k ≤ 1073741824) :
    Calls Try.prog 39 #[v, .int .i64 k] w fun e w' => e = .returned (.int .i64 (k + 2 * (xs.length : Int))) ∧ SpansMk k w' v xs ∧ w.grownBy w' v.ownBlock ∧ Out l u w w' :=
  (markSpanS_own v xs k l w hr.1 hs hk0 hk).mono fun e w' ⟨he, ho, hg⟩ => ⟨he, spansAt_own (by rw [upSpans_len]; exact ho), hg, Out.of_grown hg hl (fun g hg' => ⟨hr.lo g hg', hr.2 g hg'⟩)⟩

theorem heldSpanS_x (v : Value) (xs : List SpanD) (k : Int) (w : World) (hr : SpansMk k w v xs) (hs : SpansSmall xs) (hk0 : 0 ≤ k) (hk : k ≤ 1073741824) :
    Calls Try.prog 40 #[v, .int .i64 k] w fun e w' => e = .returned (.int .i64 (k + 2 * (xs.length : Int))) ∧ Below w.heap.size w w' := by
  unfold SpansMk at hr
  unfold SpansSmall at hs
  generalize hn : xs.length = n at *
  obtain ⟨a, c, rfl, hc, hm, HC⟩ := spans_open hr
  rw [upSpans_len] at *
  clear hr hn
  go_enter Try.func40, Try.ntmps40
  go_wp2
  go_loop [1, 5] (fun q i => ∃ j : Nat, j ≤ n ∧ i = .int .i64 j ∧ q = .int .i64 (k + 2 * (j : Int))) (fun _ i => n - (RowKit.intOf i).toNat)
  case atStart => exact ⟨0, Nat.zero_le _, rfl, by simp⟩
  case round =>
    obtain ⟨j, hj, rfl, rfl⟩ := hrel
    by_cases hlt : j < n
    · obtain ⟨b, off, rfl, _, c0, c1⟩ := HC.out j (by rw [upSpans_len]; exact hlt)
      rw [upSpans_get] at c0 c1
      have hne : (k + 2 * (j : Int) != k + 2 * (j : Int)) = false := by simp
      have hne2 : (k + 2 * (j : Int) + 1 != k + 2 * (j : Int) + 1) = false := by simp
      simp only at c0 c1
      go_wp2
      go_round
      case rel => exact ⟨j + 1, by omega, by go_num, by go_num⟩
      case measure => simp [RowKit.intOf]; omega
    · have hjl : j = n := by omega
      subst hjl
      go_wp2
      go_ret
      exact ⟨rfl, Below.refl _ _⟩
end Go.Proofs.Ytehpeifaknbcnaa

namespace Go.Proofs.Ytehpeifaknbcnaa
open Go.RowKit
set_option linter.unusedVariables false
set_option linter.unusedSimpArgs false

theorem l5EndF_any (v : Value) (t : TTD) (i : Nat) (w : World) (hr : TTAt w v t) (hg : TTGood t) (hi : i < t.trips.length) :
    ∀ W : World, Below w.heap.size w W → Calls Try.prog 73 #[v, .int .i64 i] W fun e w' => e = .returned (.int .i64 (arrF t.net t.trips[i])) ∧ Below W.heap.size W w' := by
  obtain ⟨k, hk, hx, hl, hok, ha⟩ := line_of hg.1 (hg.lineIn i hi)
  rw [ha]
  have hlf := line_facts hg.1 k hk
  have hst := (hg.step i hi).2.2.1
  exact l5End_any v t i w hr hi k hx hk hlf.1 hlf.2.1 hlf.2.2 hst.2.1.1 hst.2.1.2

end Go.Proofs.Ytehpeifaknbcnaa

namespace Go.Proofs.Ytehpeifaknbcnaa
open Go.RowKit
set_option linter.unusedVariables false

theorem step_append_run {P : Program} {ops : Array Oper} {o : Oper} {a : Act} {K : Act → World → Prop} {Q : Exit → Act → World → Prop} {E : Prop} {w w' : World} {v y v' : Value} (hgd : o.guard = none) (s x : Operand) (t : TypeId)
    (ho : o.op = .call { callee := .builtin .append, args := #[s, x], argTypes := #[t, t] }) (hs : a.eval s = v) (hx : a.eval x = y) (hr : (Builtin.append_ #[t, t] o.type #[v, y]).run P w = .ok v' w') (h : K (a.put o.dst v') w') :
    if Region.wanted o (yielded ops a.tmps) = true then Oper.wp P o a w K Q else E := by
  have hw : Region.wanted o (yielded ops a.tmps) = true := by simp [Region.wanted, hgd]
  rw [if_pos hw]
  unfold Oper.wp execOp
  simp only [ho, resolve, invoke, builtin, Sem.run_bind, Sem.run_pure, Result.andThen_ok, List.map_toArray, List.map_cons, List.map_nil, hs, hx, hr]
  exact h
end Go.Proofs.Ytehpeifaknbcnaa
