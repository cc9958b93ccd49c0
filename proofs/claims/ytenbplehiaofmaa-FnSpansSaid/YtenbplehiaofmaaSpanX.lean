/-
  THE LAWS' HELPERS on spans, in the one form that the laws' walks take (szSpanS, toSpan, toSpanS, eqSpan, eqSpanS, markSpanS, heldSpanS).
-/
import Derived.Test.YtenbplehiaofmaaRows
import Derived.Test.YtenbplehiaofmaaSpan
import Derived.LoopTactic
import Derived.WalkLawsBesides
import Derived.BigQuiet
import Derived.Deep.RegionHeld3
import Derived.Deep.QuietTactic
import Derived.Laws.Entries
namespace Go.Proofs.Ytenbplehiaofmaa
open Go.RowKit
set_option linter.unusedVariables false

theorem infoSpan : (Try.prog.info? 26).map (fun i => (i.zero, i.size, i.bytes)) = some (some (.agg #[.int .i64 0, .int .i64 0]), 2, 16) := by kernel_rfl
def SpansSmall (xs : List SpanD) : Prop := xs.length ≤ 1048576
def SpansFit (xs : List SpanD) : Prop := ∀ s ∈ xs, SpanWf s

def SpanSmall (_ : SpanD) : Prop := True
/-- a span by value, in the words that the laws' walks take -/
def SpanAt (_ : World) (v : Value) (s : SpanD) : Prop := v = .agg #[.int .i64 s.1, .int .i64 s.2]
theorem SpanAt.below {w w' : World} {v : Value} {s : SpanD} (h : SpanAt w v s) {B : Nat} (_hB : B = w.heap.size) (_hb : Below B w w') : SpanAt w' v s := h
def SpanIn (_ _ : Nat) (w : World) (v : Value) (s : SpanD) : Prop := SpanAt w v s
theorem SpanIn.at {l u : Nat} {w : World} {v : Value} {s : SpanD} (h : SpanIn l u w v s) : SpanAt w v s := h
theorem SpanIn.later {l u : Nat} {w w' : World} {v : Value} {s : SpanD} (h : SpanIn l u w v s) (_hb : Below w.heap.size w w') : SpanIn l u w' v s := h
theorem SpanIn.out {l u lo hi : Nat} {w w' : World} {v : Value} {s : SpanD} (h : SpanIn l u w v s) (_ho : Out lo hi w w') (_hs : True) : SpanIn l u w' v s := h
theorem SpanIn.base {l l' u u' : Nat} {w : World} {v : Value} {s : SpanD} (h : SpanIn l u w v s) (_hl : l' ≤ l) (_hu : u ≤ u') : SpanIn l' u' w v s := h
theorem Span_open {w : World} {v : Value} {s : SpanD} (h : SpanAt w v s) : v = .agg #[.int .i64 s.1, .int .i64 s.2] := h
set_option maxRecDepth 100000 in
theorem span_of {H : Type} {enc : TypeId × Value → H} {W : World} {base base' : Nat} {spare : Nat → Bool} {held : Bool} {v : Value} {d : DataW H} {p : List MemPlace}
    (hv : Value.okWide Try.prog W .any base 46 v) (h : DataW.Trod enc Try.prog W base' spare held 46 v d p) : ∃ s, SpanAt W v s ∧ SpanWf s :=
  span_trod Try.underlying46 (by kernel_rfl) (by kernel_rfl) Try.underlying3 Try.underlying3 hv h
set_option maxRecDepth 100000 in
theorem spans_of {H : Type} {enc : TypeId × Value → H} {W : World} {base base' : Nat} {spare : Nat → Bool} {held : Bool} {v : Value} {d : DataW H} {p : List MemPlace}
    (hv : Value.okWide Try.prog W .any base 50 v) (h : DataW.Trod enc Try.prog W base' spare held 50 v d p) : ∃ xs, SpansAt W v xs ∧ SpansFit xs :=
  spansAt_of Try.underlying50 Try.underlying46 (by kernel_rfl) (by kernel_rfl) Try.underlying3 Try.underlying3 hv h

theorem szSpanS_x (v : Value) (xs : List SpanD) (left : Int) (w : World) (hr : SpansAt w v xs) (_hf : SpansFit xs) (h0 : 0 ≤ left) (h1 : left ≤ 1048576) :
    Calls Try.prog 34 #[v, .int .i64 left] w fun e w' => (∃ r : Int, e = .returned (.int .i64 r) ∧ (r = -1 ∨ (0 ≤ r ∧ r ≤ 1048576 ∧ SpansSmall xs))) ∧ Below w.heap.size w w' := by
  obtain ⟨a, c, rfl, hc, hm, HC⟩ := spans_open hr
  clear hr _hf
  by_cases hneg : left - (xs.length : Int) < 0
  · go_enter Try.func34, Try.ntmps34
    go_wp2
    go_ret
    exact ⟨⟨-1, rfl, .inl rfl⟩, Below.refl _ _⟩
  · go_enter Try.func34, Try.ntmps34
    go_wp2
    go_ret
    exact ⟨⟨_, rfl, .inr ⟨by omega, by omega, by unfold SpansSmall; omega⟩⟩, Below.refl _ _⟩

theorem toSpan_any (s : SpanD) (w : World) : Calls Try.prog 32 #[.agg #[.int .i64 s.1, .int .i64 s.2]] w fun e w' => e = .returned (.agg #[.int .i64 s.1, .int .i64 s.2]) ∧ Below w.heap.size w w' := by
  go_enter Try.func32, Try.ntmps32
  go_wp2_with fail
  refine bodyPost_ret (v := .agg #[.int .i64 s.1, .int .i64 s.2]) (by simp only [results, Try.results32]; go_simp) rfl ⟨rfl, ?_⟩
  exact (((Below.refl _ _).alloc (by simp <;> omega) _).alloc (by simp <;> omega) _).alloc (by simp <;> omega) _

theorem toSpan_x (v : Value) (s : SpanD) (w : World) (hr : SpanAt w v s) (_hs : SpanSmall s) : Calls Try.prog 32 #[v] w fun e w' => e = .returned (.agg #[.int .i64 s.1, .int .i64 s.2]) ∧ SpanIn w.heap.size w'.heap.size w' (.agg #[.int .i64 s.1, .int .i64 s.2]) s ∧ Below w.heap.size w w' := by
  rw [Span_open hr]; exact (toSpan_any s w).mono fun e w' ⟨he, hb⟩ => ⟨he, rfl, hb⟩
theorem eqSpan_any (s : SpanD) (w : World) : Calls Try.prog 33 #[.agg #[.int .i64 s.1, .int .i64 s.2], .agg #[.int .i64 s.1, .int .i64 s.2]] w fun e w' => e = .returned (.bool true) ∧ Below w.heap.size w w' := by
  have h0 : (s.1 != s.1) = false := by simp
  have h1 : (s.2 != s.2) = false := by simp
  go_enter Try.func33, Try.ntmps33
  go_wp2_with fail
  go_ret
  exact ⟨rfl, ((Below.refl _ _).alloc (by simp <;> omega) _).alloc (by simp <;> omega) _⟩

set_option maxHeartbeats 1000000 in
theorem toSpanS_x (v : Value) (xs : List SpanD) (w : World) (hr : SpansAt w v xs) (hn : SpansSmall xs) :
    Calls Try.prog 35 #[v] w fun e w' => ∃ a c, e = .returned (.slice a xs.length c) ∧ SpansIn w.heap.size w'.heap.size w' (.slice a xs.length c) xs ∧ Below w.heap.size w w' := by
  unfold SpansSmall at hn
  obtain ⟨a, c, rfl, hc, hm, HC⟩ := spans_open hr
  clear hr
  obtain ⟨i0, hi, hz0, hz1, hz2⟩ := info_parts infoSpan
  go_enter Try.func35, Try.ntmps35
  go_wp2_with (at_make; refine wpList_make_full _ rfl _ _ 24 rfl w.heap.size 26 i0 _ 2 Try.underlying24 hi hz0 hz1 .i64 .i64 (xs.length : Int) (xs.length : Int) xs.length rfl rfl rfl rfl ?c1 ?c2 ?c3 ?_)
  case c1 => rw [hz2]; omega
  case c2 => unfold maxLen; omega
  case c3 => exact Nat.le_refl _
  intro w1 hown hgrow
  have hbel : Below w.heap.size w w1 := (Below.refl _ _).grown hgrow (Nat.le_refl _) (fun k hk => by cases hk)
  have hzl := hown.1
  generalize Array.toList (madeCells _ _) = z0 at *
  clear hgrow
  go_wp2
  go_loopw [4] (fun i wr => ∃ k : Nat, k ≤ xs.length ∧ i = .int .i64 k ∧ (∃ zs : List Value, zs.length = xs.length * 2 ∧ Hid (zs.take (k * 2) = (spanC xs).take (k * 2)) ∧ Hid (wr.ownsRow w.heap.size 26 2 (.slice (some ⟨w.heap.size, 0, none⟩) xs.length xs.length) xs.length zs)) ∧ Hid (Below w.heap.size w wr))
    (fun i _ => xs.length - (RowKit.intOf i).toNat)
  case atStart => exact ⟨0, Nat.zero_le _, rfl, ⟨z0, hzl, rfl, hown⟩, hbel⟩
  case round =>
    obtain ⟨k, hk, rfl, ⟨zs, hzs, HT, HOwn⟩, HBel⟩ := hrel
    by_cases hlt : k < xs.length
    · obtain ⟨b, off, rfl, hbl, y0, y1⟩ := HC.out k hlt
      have hx0 := HBel.out.cell (p := ⟨b, off + k * 2, none⟩) hbl
      rw [y0] at hx0
      have hx1 := HBel.out.cell (p := ⟨b, off + k * 2 + 1, none⟩) hbl
      rw [y1] at hx1
      have HTo := Lib.hid (toSpan_any xs[k] wr)
      clear y0 y1 hbel hown
      go_wp2_with fail
      go_at_call 32
      refine HTo.out.mono ?_
      rintro e w2 ⟨rfl, hb1⟩
      have hown1 := own_later HOwn.out hb1
      have hgl := (HOwn.out.lt w.heap.size rfl).2
      have q0 : w2.cell? ⟨w.heap.size, k * 2, none⟩ = some (zs[k * 2]'(by omega)) := by rw [hown1.cellAt (k * 2) (by omega)]; exact List.getElem?_eq_getElem _
      have q1 : w2.cell? ⟨w.heap.size, k * 2 + 1, none⟩ = some (zs[k * 2 + 1]'(by omega)) := by rw [hown1.cellAt (k * 2 + 1) (by omega)]; exact List.getElem?_eq_getElem _
      have hf := fun o => hown1.frozenAt o
      have HOwn2 := Lib.hid ((hown1.stored (k * 2) (.int .i64 xs[k].1)).1.stored (k * 2 + 1) (.int .i64 xs[k].2)).1
      have HT2 : Hid (((zs.set (k * 2) (.int .i64 xs[k].1)).set (k * 2 + 1) (.int .i64 xs[k].2)).take ((k + 1) * 2) = (spanC xs).take ((k + 1) * 2)) := by
        have hl := spanC_len xs
        have e0 : (spanC xs)[k * 2]'(by omega) = .int .i64 xs[k].1 := by
          have := spanC_get0 xs k hlt; rw [List.getElem?_eq_getElem (by omega)] at this; exact Option.some.inj this
        have e1 : (spanC xs)[k * 2 + 1]'(by omega) = .int .i64 xs[k].2 := by
          have := spanC_get1 xs k hlt; rw [List.getElem?_eq_getElem (by omega)] at this; exact Option.some.inj this
        have s1 := take_set_succ zs (spanC xs) (k * 2) (by omega) (by omega) HT.out
        have s2 := take_set_succ (zs.set (k * 2) (.int .i64 xs[k].1)) (spanC xs) (k * 2 + 1) (by simp; omega) (by omega) (by rw [← e0]; exact s1)
        rw [e1] at s2
        rw [show (k + 1) * 2 = k * 2 + 1 + 1 by omega]
        exact s2
      have HB1 : Hid (Below w.heap.size w w2) := HBel.out.trans (hb1.mono (by omega))
      generalize zs[k * 2] = o0 at *
      generalize zs[k * 2 + 1] = o1 at *
      clear hown1 hb1 hx0 hx1 HOwn HT HBel
      go_wp2_with fail
      go_roundw
      case rel =>
        exact ⟨k + 1, by omega, by go_num, ⟨_, by simpa using hzs, HT2, HOwn2⟩, (HB1.out.setCell (p := ⟨w.heap.size, _, none⟩) (Nat.le_refl _) _).setCell (p := ⟨w.heap.size, _, none⟩) (Nat.le_refl _) _⟩
      case measure => simp [RowKit.intOf]; omega
    · go_wp2
      go_ret
      have hkl : k = xs.length := by omega
      have := HT.out
      rw [List.take_of_length_le (by omega), List.take_of_length_le (by rw [spanC_len]; omega)] at this
      refine ⟨some ⟨w.heap.size, 0, none⟩, xs.length, rfl, SpansIn.mk ?_, HBel.out⟩
      rw [← this]; exact HOwn.out

theorem keepE4 {W w w' : World} {p0 p1 p2 p3 : Addr} {x0 x1 x2 x3 : Value} (hb : Below w.heap.size w w') (h : w.cell? p0 = some x0 ∧ w.cell? p1 = some x1 ∧ w.cell? p2 = some x2 ∧ w.cell? p3 = some x3 ∧ Below W.heap.size W w) : w'.cell? p0 = some x0 ∧ w'.cell? p1 = some x1 ∧ w'.cell? p2 = some x2 ∧ w'.cell? p3 = some x3 ∧ Below W.heap.size W w' := by
  obtain ⟨h0, h1, h2, h3, hl⟩ := h
  exact ⟨bkeep hb h0, bkeep hb h1, bkeep hb h2, bkeep hb h3, hl.trans (hb.mono hl.size)⟩
set_option maxHeartbeats 1000000 in
theorem eqSpanS_x (v v' : Value) (xs : List SpanD) (w : World) (hr : SpansAt w v xs) (hr' : SpansAt w v' xs) (hs : SpansSmall xs) :
    Calls Try.prog 36 #[v, v'] w fun e w' => e = .returned (.bool true) ∧ Below w.heap.size w w' := by
  obtain ⟨a, c, rfl, hc, hm, HC⟩ := spans_open hr
  obtain ⟨a', c', rfl, hc', hm', HC'⟩ := spans_open hr'
  clear hr hr'
  go_enter Try.func36, Try.ntmps36
  go_wp2
  go_loopw [5] (fun i wr => ∃ k : Nat, k ≤ xs.length ∧ i = .int .i64 k ∧ Hid (Below w.heap.size w wr))
    (fun i _ => xs.length - (RowKit.intOf i).toNat)
  case atStart => exact ⟨0, Nat.zero_le _, rfl, Below.refl _ _⟩
  case round =>
    obtain ⟨k, hk, rfl, HB⟩ := hrel
    by_cases hlt : k < xs.length
    · obtain ⟨b, off, rfl, hbl, y0, y1⟩ := HC.out k hlt
      obtain ⟨b', off', rfl, hbl', z0, z1⟩ := HC'.out k hlt
      have hx0 := HB.out.cell (p := ⟨b, off + k * 2, none⟩) hbl
      rw [y0] at hx0
      have hx1 := HB.out.cell (p := ⟨b, off + k * 2 + 1, none⟩) hbl
      rw [y1] at hx1
      have hu0 := HB.out.cell (p := ⟨b', off' + k * 2, none⟩) hbl'
      rw [z0] at hu0
      have hu1 := HB.out.cell (p := ⟨b', off' + k * 2 + 1, none⟩) hbl'
      rw [z1] at hu1
      have HEq := Lib.hid (eqSpan_any xs[k])
      clear y0 y1 z0 z1
      have hk1 : (k : Int) < (xs.length : Int) := by omega
      generalize xs[k] = y at *
      have hbel := HB.out
      go_wp2_with fail
      go_region_held3 (fun w' => w'.cell? ⟨b, off + k * 2, none⟩ = some (.int .i64 y.1) ∧ w'.cell? ⟨b, off + k * 2 + 1, none⟩ = some (.int .i64 y.2) ∧ w'.cell? ⟨b', off' + k * 2, none⟩ = some (.int .i64 y.1) ∧ w'.cell? ⟨b', off' + k * 2 + 1, none⟩ = some (.int .i64 y.2) ∧ Below w.heap.size w w')
        (first | (exact ⟨hx0, hx1, hu0, hu1, hbel.drew⟩) | (exact keepE4 hb (by assumption)))
        ((go_at_call 33; refine (HEq.out _).mono ?_; rintro e w' ⟨rfl, hb⟩))
      obtain ⟨_, _, _, _, qb⟩ := (by assumption : _ ∧ _)
      clear hx0 hx1 hu0 hu1 hbel HB
      go_wp2_with fail
      go_roundw
      case rel => exact ⟨k + 1, by omega, by go_num, qb⟩
      case measure => simp [RowKit.intOf]; omega
    · go_wp2
      go_ret
      exact ⟨rfl, HB.out⟩

/-- the marks from k on -/
def upSpans (k : Int) : Nat → List SpanD
  | 0 => []
  | n + 1 => upSpans k n ++ [(k + 2 * (n : Int), k + 2 * (n : Int) + 1)]
theorem upSpans_len (k : Int) : ∀ n, (upSpans k n).length = n
  | 0 => rfl
  | n + 1 => by simp [upSpans, upSpans_len k n]
theorem upSpans_get (k : Int) : ∀ n j (h : j < (upSpans k n).length), (upSpans k n)[j] = (k + 2 * (j : Int), k + 2 * (j : Int) + 1)
  | 0, j, h => by simp [upSpans] at h
  | n + 1, j, h => by
    simp only [upSpans]
    rw [List.getElem_append]
    have hl := upSpans_len k n
    split
    · exact upSpans_get k n j (by assumption)
    · have : j = n := by simp [upSpans, hl] at h; omega
      subst this
      simp

/-- spans that hold marks from k on -/
def SpansMk (k : Int) (w : World) (v : Value) (xs : List SpanD) : Prop := SpansAt w v (upSpans k xs.length)
theorem SpansMk.later {k : Int} {w w' : World} {v : Value} {xs : List SpanD} (h : SpansMk k w v xs) (hb : Below w.heap.size w w') : SpansMk k w' v xs := SpansAt.below h rfl hb

set_option maxHeartbeats 2000000 in
theorem markSpanS_own (v : Value) (xs : List SpanD) (k : Int) (B : Nat) (w : World) (hr : w.ownsRow B 26 2 v xs.length (spanC xs)) (hn : xs.length ≤ 1048576) (hk0 : 0 ≤ k) (hk : k ≤ 1073741824) :
    Calls Try.prog 37 #[v, .int .i64 k] w fun e w' => e = .returned (.int .i64 (k + 2 * (xs.length : Int))) ∧ w'.ownsRow B 26 2 v xs.length (spanC (upSpans k xs.length)) ∧ w.grownBy w' v.ownBlock := by
  obtain ⟨a, c, rfl⟩ := own_shape hr
  have HO := Lib.hid hr
  clear hr
  go_enter Try.func37, Try.ntmps37
  go_wp2
  go_loopw [1, 5] (fun q i wr => ∃ j : Nat, j ≤ xs.length ∧ i = .int .i64 j ∧ q = .int .i64 (k + 2 * (j : Int)) ∧ (∃ ys : List SpanD, ys.length = xs.length ∧ Hid (ys.take j = (upSpans k xs.length).take j) ∧ Hid (wr.ownsRow B 26 2 (.slice a xs.length c) xs.length (spanC ys))) ∧ Hid (w.grownBy wr (Value.ownBlock (.slice a xs.length c))))
    (fun _ i _ => xs.length - (RowKit.intOf i).toNat)
  case atStart => exact ⟨0, Nat.zero_le _, rfl, by simp, ⟨_, rfl, rfl, HO.out⟩, World.grownBy.refl _ _⟩
  case round =>
    obtain ⟨j, hj, rfl, rfl, ⟨ys, hys, HT, HOwn⟩, HG⟩ := hrel
    by_cases hlt : j < xs.length
    · obtain ⟨_, h2⟩ := HOwn.out
      rcases h2 with ⟨hv, h0⟩ | ⟨g, cap, cur, hv, hg, hblk, h3, h4, h5, h6⟩
      · omega
      simp at hv
      obtain ⟨rfl, rfl⟩ := hv
      have hown := HOwn.out
      have hjl : j < ys.length := by omega
      have q0 : wr.cell? ⟨g, j * 2, none⟩ = some (.int .i64 ys[j].1) := by rw [hown.cellAt (j * 2) (by omega)]; exact spanC_get0 ys j hjl
      have q1 : wr.cell? ⟨g, j * 2 + 1, none⟩ = some (.int .i64 ys[j].2) := by rw [hown.cellAt (j * 2 + 1) (by omega)]; exact spanC_get1 ys j hjl
      have hf := fun o => hown.frozenAt o
      have HOwn2 : Hid (((wr.setCell ⟨g, j * 2, none⟩ (.int .i64 (k + 2 * (j : Int)))).setCell ⟨g, j * 2 + 1, none⟩ (.int .i64 (k + 2 * (j : Int) + 1))).ownsRow B 26 2 (.slice (some ⟨g, 0, none⟩) xs.length c) xs.length (spanC (ys.set j (k + 2 * (j : Int), k + 2 * (j : Int) + 1)))) := by
        have := ((hown.stored (j * 2) (.int .i64 (k + 2 * (j : Int)))).1.stored (j * 2 + 1) (.int .i64 (k + 2 * (j : Int) + 1))).1
        rw [spanC_set ys j (k + 2 * (j : Int), k + 2 * (j : Int) + 1) hjl] at this
        exact this
      have HT2 : Hid ((ys.set j (k + 2 * (j : Int), k + 2 * (j : Int) + 1)).take (j + 1) = (upSpans k xs.length).take (j + 1)) := by
        have hl2 : j < (upSpans k xs.length).length := by rw [upSpans_len]; exact hlt
        have := take_set_succ ys (upSpans k xs.length) j hjl hl2 HT.out
        rw [upSpans_get] at this; exact this
      have hset : ∀ (W : World) (o : Nat) (u : Value), w.grownBy W (some g) → w.grownBy (W.setCell ⟨g, o, none⟩ u) (some g) := fun W o u h =>
        ⟨h.os, h.tape, h.output, by have := h.size; simp [World.setCell]; omega, fun q hq hne => by
          rw [Below.heap_setCell _ _ _ _ (fun e => hne (by rw [e]))]; exact h.block q hq hne⟩
      have HG2 : Hid (w.grownBy ((wr.setCell ⟨g, j * 2, none⟩ (.int .i64 (k + 2 * (j : Int)))).setCell ⟨g, j * 2 + 1, none⟩ (.int .i64 (k + 2 * (j : Int) + 1))) (some g)) := hset _ _ _ (hset _ _ _ HG.out)
      clear HG hset
      clear hown hblk h4 h5 h6
      generalize ys[j] = old at *
      go_wp2
      go_roundw
      case rel => exact ⟨j + 1, by omega, by go_num, by go_num, ⟨_, by simpa using hys, HT2, HOwn2⟩, HG2⟩
      case measure => simp [RowKit.intOf]; omega
    · have hjl : j = xs.length := by omega
      subst hjl
      go_wp2
      go_ret
      refine ⟨rfl, ?_, HG.out⟩
      have := HT.out
      rw [List.take_of_length_le (by omega), List.take_of_length_le (by rw [upSpans_len]; omega)] at this
      rw [← this]; exact HOwn.out
theorem markSpanS_x (v : Value) (xs : List SpanD) (k : Int) (l u : Nat) (w : World) (hr : SpansIn l u w v xs) (hl : l ≤ w.heap.size) (hs : SpansSmall xs) (hk0 : 0 ≤ k) (hk : k ≤ 1073741824) :
    Calls Try.prog 37 #[v, .int .i64 k] w fun e w' => e = .returned (.int .i64 (k + 2 * (xs.length : Int))) ∧ SpansMk k w' v xs ∧ w.grownBy w' v.ownBlock ∧ Out l u w w' :=
  (markSpanS_own v xs k l w hr.1 hs hk0 hk).mono fun e w' ⟨he, ho, hg⟩ => ⟨he, spansAt_own (by rw [upSpans_len]; exact ho), hg, Out.of_grown hg hl (fun g hg' => ⟨hr.lo g hg', hr.2 g hg'⟩)⟩

theorem heldSpanS_x (v : Value) (xs : List SpanD) (k : Int) (w : World) (hr : SpansMk k w v xs) (hs : SpansSmall xs) (hk0 : 0 ≤ k) (hk : k ≤ 1073741824) :
    Calls Try.prog 38 #[v, .int .i64 k] w fun e w' => e = .returned (.int .i64 (k + 2 * (xs.length : Int))) ∧ Below w.heap.size w w' := by
  unfold SpansMk at hr
  unfold SpansSmall at hs
  generalize hn : xs.length = n at *
  obtain ⟨a, c, rfl, hc, hm, HC⟩ := spans_open hr
  rw [upSpans_len] at *
  clear hr hn
  go_enter Try.func38, Try.ntmps38
  go_wp2
  go_loop [1, 5] (fun q i => ∃ j : Nat, j ≤ n ∧ i = .int .i64 j ∧ q = .int .i64 (k + 2 * (j : Int))) (fun _ i => n - (RowKit.intOf i).toNat)
  case atStart => exact ⟨0, Nat.zero_le _, rfl, by simp⟩
  case round =>
    obtain ⟨j, hj, rfl, rfl⟩ := hrel
    by_cases hlt : j < n
    · obtain ⟨b, off, rfl, _, c0, c1⟩ := HC.out j (by rw [upSpans_len]; exact hlt)
      rw [upSpans_get] at c0 c1
      have hne : (k + 2 * (j : Int) != k + 2 * (j : Int)) = false := by simp
      have hne2 : (k + 2 * (j : Int) + 1 != k + 2 * (j : Int) + 1) = false := by simp
      simp only at c0 c1
      go_wp2
      go_round
      case rel => exact ⟨j + 1, by omega, by go_num, by go_num⟩
      case measure => simp [RowKit.intOf]; omega
    · have hjl : j = n := by omega
      subst hjl
      go_wp2
      go_ret
      exact ⟨rfl, Below.refl _ _⟩
end Go.Proofs.Ytenbplehiaofmaa
