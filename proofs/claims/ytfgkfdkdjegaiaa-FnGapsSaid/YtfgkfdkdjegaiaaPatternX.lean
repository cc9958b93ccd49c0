/-
  THE LAWS' HELPERS on Pattern (written by gen_struct.py), in the one form that the laws' walks take.
-/
import Derived.Test.YtfgkfdkdjegaiaaRows
import Derived.Test.YtfgkfdkdjegaiaaMk34
import Derived.LoopTactic
import Derived.WalkLawsBesides
import Derived.BigQuiet
import Derived.Deep.RegionHeld3
import Derived.Deep.QuietTactic
import Derived.Laws.Entries
namespace Go.Proofs.Ytfgkfdkdjegaiaa
open Go.RowKit
set_option linter.unusedVariables false

theorem infoPattern : (Try.prog.info? 45).map (fun i => (i.zero, i.size, i.bytes)) = some (some (.agg #[.int .i64 0, .int .i64 0]), 2, 16) := by kernel_rfl
def PatternsSmall (xs : List PatternD) : Prop := xs.length ≤ 1048576
def PatternsFit (xs : List PatternD) : Prop := ∀ s ∈ xs, PatternWf s

def PatternSmall (_ : PatternD) : Prop := True
def PatternAt (_ : World) (v : Value) (s : PatternD) : Prop := v = .agg #[.int .i64 s.line, .int .i64 s.offs]
theorem PatternAt.below {w w' : World} {v : Value} {s : PatternD} (h : PatternAt w v s) {B : Nat} (_hB : B = w.heap.size) (_hb : Below B w w') : PatternAt w' v s := h
def PatternIn (_ _ : Nat) (w : World) (v : Value) (s : PatternD) : Prop := PatternAt w v s
theorem PatternIn.at {l u : Nat} {w : World} {v : Value} {s : PatternD} (h : PatternIn l u w v s) : PatternAt w v s := h
theorem PatternIn.later {l u : Nat} {w w' : World} {v : Value} {s : PatternD} (h : PatternIn l u w v s) (_hb : Below w.heap.size w w') : PatternIn l u w' v s := h
theorem PatternIn.out {l u lo hi : Nat} {w w' : World} {v : Value} {s : PatternD} (h : PatternIn l u w v s) (_ho : Out lo hi w w') (_hs : True) : PatternIn l u w' v s := h
theorem PatternIn.base {l l' u u' : Nat} {w : World} {v : Value} {s : PatternD} (h : PatternIn l u w v s) (_hl : l' ≤ l) (_hu : u ≤ u') : PatternIn l' u' w v s := h
theorem Pattern_open {w : World} {v : Value} {s : PatternD} (h : PatternAt w v s) : v = .agg #[.int .i64 s.line, .int .i64 s.offs] := h

theorem szPatternS_x2 (v : Value) (xs : List PatternD) (left : Int) (w : World) (hr : PatternsAt w v xs) (_hf : PatternsFit xs) (h0 : 0 ≤ left) (h1 : left ≤ 1048576) :
    Calls Try.prog 41 #[v, .int .i64 left] w fun e w' => (∃ r : Int, e = .returned (.int .i64 r) ∧ (r = -1 ∨ (0 ≤ r ∧ r ≤ left ∧ PatternsSmall xs))) ∧ Below w.heap.size w w' := by
  obtain ⟨a, c, rfl, hc, hm, HC⟩ := pats_open hr
  clear hr _hf
  by_cases hneg : left - (xs.length : Int) < 0
  · go_enter Try.func41, Try.ntmps41
    go_wp2
    go_ret
    exact ⟨⟨-1, rfl, .inl rfl⟩, Below.refl _ _⟩
  · go_enter Try.func41, Try.ntmps41
    go_wp2
    go_ret
    exact ⟨⟨_, rfl, .inr ⟨by omega, by omega, by unfold PatternsSmall; omega⟩⟩, Below.refl _ _⟩

set_option maxHeartbeats 1000000 in
theorem toPattern_any (s : PatternD) (w : World) : Calls Try.prog 88 #[.agg #[.int .i64 s.line, .int .i64 s.offs]] w fun e w' => e = .returned (.agg #[.int .i64 s.line, .int .i64 s.offs]) ∧ Below w.heap.size w w' := by
  go_enter Try.func88, Try.ntmps88
  go_wp2_with fail
  refine bodyPost_ret (v := .agg #[.int .i64 s.line, .int .i64 s.offs]) (by simp only [results, Try.results88]; go_simp) rfl ⟨rfl, ?_⟩
  exact ((((Below.refl _ _).alloc (by simp <;> omega) _).alloc (by simp <;> omega) _).alloc (by simp <;> omega) _)

theorem toPattern_x (v : Value) (s : PatternD) (w : World) (hr : PatternAt w v s) (_hs : PatternSmall s) : Calls Try.prog 88 #[v] w fun e w' => e = .returned (.agg #[.int .i64 s.line, .int .i64 s.offs]) ∧ PatternIn w.heap.size w'.heap.size w' (.agg #[.int .i64 s.line, .int .i64 s.offs]) s ∧ Below w.heap.size w w' := by
  rw [Pattern_open hr]; exact (toPattern_any s w).mono fun e w' ⟨he, hb⟩ => ⟨he, rfl, hb⟩
set_option maxHeartbeats 1000000 in
theorem eqPattern_any (s : PatternD) (w : World) : Calls Try.prog 91 #[.agg #[.int .i64 s.line, .int .i64 s.offs], .agg #[.int .i64 s.line, .int .i64 s.offs]] w fun e w' => e = .returned (.bool true) ∧ Below w.heap.size w w' := by
  have h0 : (s.line != s.line) = false := by simp
  have h1 : (s.offs != s.offs) = false := by simp
  go_enter Try.func91, Try.ntmps91
  go_wp2_with fail
  go_ret
  exact ⟨rfl, (((Below.refl _ _).alloc (by simp <;> omega) _).alloc (by simp <;> omega) _)⟩
theorem eqPattern_x (v v' : Value) (s : PatternD) (w : World) (hr : PatternAt w v s) (hr' : PatternAt w v' s) (_hs : PatternSmall s) : Calls Try.prog 91 #[v, v'] w fun e w' => e = .returned (.bool true) ∧ Below w.heap.size w w' := by
  rw [Pattern_open hr, Pattern_open hr']; exact eqPattern_any s w

set_option maxHeartbeats 2000000 in
theorem toPatternS_x (v : Value) (xs : List PatternD) (w : World) (hr : PatternsAt w v xs) (hn : PatternsSmall xs) :
    Calls Try.prog 44 #[v] w fun e w' => ∃ a c, e = .returned (.slice a xs.length c) ∧ PatternsIn w.heap.size w'.heap.size w' (.slice a xs.length c) xs ∧ Below w.heap.size w w' := by
  unfold PatternsSmall at hn
  obtain ⟨a, c, rfl, hc, hm, HC⟩ := pats_open hr
  clear hr
  obtain ⟨i0, hi, hz0, hz1, hz2⟩ := info_parts infoPattern
  go_enter Try.func44, Try.ntmps44
  go_wp2_with (at_make; refine wpList_make_full _ rfl _ _ 28 rfl w.heap.size 45 i0 _ 2 Try.underlying28 hi hz0 hz1 .i64 .i64 (xs.length : Int) (xs.length : Int) xs.length rfl rfl rfl rfl ?c1 ?c2 ?c3 ?_)
  case c1 => rw [hz2]; omega
  case c2 => unfold maxLen; omega
  case c3 => exact Nat.le_refl _
  intro w1 hown hgrow
  have hbel : Below w.heap.size w w1 := (Below.refl _ _).grown hgrow (Nat.le_refl _) (fun k hk => by cases hk)
  have hzl := hown.1
  generalize Array.toList (madeCells _ _) = z0 at *
  clear hgrow
  go_wp2
  go_loopw [4] (fun i wr => ∃ k : Nat, k ≤ xs.length ∧ i = .int .i64 k ∧ (∃ zs : List Value, zs.length = xs.length * 2 ∧ Hid (zs.take (k * 2) = (patC xs).take (k * 2)) ∧ Hid (wr.ownsRow w.heap.size 45 2 (.slice (some ⟨w.heap.size, 0, none⟩) xs.length xs.length) xs.length zs)) ∧ Hid (Below w.heap.size w wr))
    (fun i _ => xs.length - (RowKit.intOf i).toNat)
  case atStart => exact ⟨0, Nat.zero_le _, rfl, ⟨z0, hzl, rfl, hown⟩, hbel⟩
  case round =>
    obtain ⟨k, hk, rfl, ⟨zs, hzs, HT, HOwn⟩, HBel⟩ := hrel
    by_cases hlt : k < xs.length
    · obtain ⟨b, off, rfl, hbl, y0, y1⟩ := HC.out k hlt
      have hx0 := HBel.out.cell (p := ⟨b, off + k * 2, none⟩) hbl
      rw [y0] at hx0
      have hx1 := HBel.out.cell (p := ⟨b, off + k * 2 + 1, none⟩) hbl
      rw [y1] at hx1
      have HTo := Lib.hid (toPattern_any xs[k] wr)
      clear y0 y1 hbel hown
      go_wp2_with fail
      go_at_call 88
      refine HTo.out.mono ?_
      rintro e w2 ⟨rfl, hb1⟩
      have hown1 := own_later HOwn.out hb1
      have hgl := (HOwn.out.lt w.heap.size rfl).2
      have q0 : w2.cell? ⟨w.heap.size, k * 2, none⟩ = some (zs[k * 2]'(by omega)) := by rw [hown1.cellAt (k * 2) (by omega)]; exact List.getElem?_eq_getElem _
      have q1 : w2.cell? ⟨w.heap.size, k * 2 + 1, none⟩ = some (zs[k * 2 + 1]'(by omega)) := by rw [hown1.cellAt (k * 2 + 1) (by omega)]; exact List.getElem?_eq_getElem _
      have hf := fun o => hown1.frozenAt o
      have HOwn2 := Lib.hid (((hown1.stored (k * 2) (.int .i64 xs[k].line)).1.stored (k * 2 + 1) (.int .i64 xs[k].offs)).1)
      have HT2 : Hid (((zs.set (k * 2) (.int .i64 xs[k].line)).set (k * 2 + 1) (.int .i64 xs[k].offs)).take ((k + 1) * 2) = (patC xs).take ((k + 1) * 2)) := by
        have hl := patC_len xs
        have e0 : (patC xs)[k * 2]'(by omega) = .int .i64 xs[k].line := by
          have := patC_get0 xs k hlt; rw [List.getElem?_eq_getElem (by omega)] at this; exact Option.some.inj this
        have e1 : (patC xs)[k * 2 + 1]'(by omega) = .int .i64 xs[k].offs := by
          have := patC_get1 xs k hlt; rw [List.getElem?_eq_getElem (by omega)] at this; exact Option.some.inj this
        have s1 := take_set_succ zs (patC xs) (k * 2) (by omega) (by omega) HT.out
        have s2 := take_set_succ (zs.set (k * 2) (.int .i64 xs[k].line)) (patC xs) (k * 2 + 1) (by simp; omega) (by omega) (by rw [← e0]; exact s1)
        rw [e1] at s2
        rw [show (k + 1) * 2 = k * 2 + 1 + 1 by omega]
        exact s2
      have HB1 : Hid (Below w.heap.size w w2) := HBel.out.trans (hb1.mono (by omega))
      generalize zs[k * 2] = o0 at *
      generalize zs[k * 2 + 1] = o1 at *
      clear hown1 hb1 hx0 hx1 HOwn HT HBel
      go_wp2_with fail
      go_roundw
      case rel =>
        exact ⟨k + 1, by omega, by go_num, ⟨_, by simpa using hzs, HT2, HOwn2⟩, ((HB1.out.setCell (p := ⟨w.heap.size, _, none⟩) (Nat.le_refl _) _).setCell (p := ⟨w.heap.size, _, none⟩) (Nat.le_refl _) _)⟩
      case measure => simp [RowKit.intOf]; omega
    · go_wp2
      go_ret
      have hkl : k = xs.length := by omega
      have := HT.out
      rw [List.take_of_length_le (by omega), List.take_of_length_le (by rw [patC_len]; omega)] at this
      refine ⟨some ⟨w.heap.size, 0, none⟩, xs.length, rfl, PatternsIn.mk ?_, HBel.out⟩
      rw [← this]; exact HOwn.out

theorem keepPattern2 {W w w' : World} {p0 p1 p2 p3 : Addr} {x0 x1 x2 x3 : Value} (hb : Below w.heap.size w w') (h : w.cell? p0 = some x0 ∧ w.cell? p1 = some x1 ∧ w.cell? p2 = some x2 ∧ w.cell? p3 = some x3 ∧ Below W.heap.size W w) : w'.cell? p0 = some x0 ∧ w'.cell? p1 = some x1 ∧ w'.cell? p2 = some x2 ∧ w'.cell? p3 = some x3 ∧ Below W.heap.size W w' := by
  obtain ⟨h0, h1, h2, h3, hl⟩ := h
  exact ⟨bkeep hb h0, bkeep hb h1, bkeep hb h2, bkeep hb h3, hl.trans (hb.mono hl.size)⟩
set_option maxHeartbeats 2000000 in
theorem eqPatternS_x (v v' : Value) (xs : List PatternD) (w : World) (hr : PatternsAt w v xs) (hr' : PatternsAt w v' xs) (hs : PatternsSmall xs) :
    Calls Try.prog 46 #[v, v'] w fun e w' => e = .returned (.bool true) ∧ Below w.heap.size w w' := by
  obtain ⟨a, c, rfl, hc, hm, HC⟩ := pats_open hr
  obtain ⟨a', c', rfl, hc', hm', HC'⟩ := pats_open hr'
  clear hr hr'
  go_enter Try.func46, Try.ntmps46
  go_wp2
  go_loopw [5] (fun i wr => ∃ k : Nat, k ≤ xs.length ∧ i = .int .i64 k ∧ Hid (Below w.heap.size w wr))
    (fun i _ => xs.length - (RowKit.intOf i).toNat)
  case atStart => exact ⟨0, Nat.zero_le _, rfl, Below.refl _ _⟩
  case round =>
    obtain ⟨k, hk, rfl, HB⟩ := hrel
    by_cases hlt : k < xs.length
    · obtain ⟨b, off, rfl, hbl, y0, y1⟩ := HC.out k hlt
      obtain ⟨b', off', rfl, hbl', z0, z1⟩ := HC'.out k hlt
      have hx0 := HB.out.cell (p := ⟨b, off + k * 2, none⟩) hbl
      rw [y0] at hx0
      have hx1 := HB.out.cell (p := ⟨b, off + k * 2 + 1, none⟩) hbl
      rw [y1] at hx1
      have hu0 := HB.out.cell (p := ⟨b', off' + k * 2, none⟩) hbl'
      rw [z0] at hu0
      have hu1 := HB.out.cell (p := ⟨b', off' + k * 2 + 1, none⟩) hbl'
      rw [z1] at hu1
      have HEq := Lib.hid (eqPattern_any xs[k])
      clear y0 z0 y1 z1
      have hk1 : (k : Int) < (xs.length : Int) := by omega
      generalize xs[k] = y at *
      have hbel := HB.out
      go_wp2_with fail
      go_region_held3 (fun w' => w'.cell? ⟨b, off + k * 2, none⟩ = some (.int .i64 y.line) ∧ w'.cell? ⟨b, off + k * 2 + 1, none⟩ = some (.int .i64 y.offs) ∧ w'.cell? ⟨b', off' + k * 2, none⟩ = some (.int .i64 y.line) ∧ w'.cell? ⟨b', off' + k * 2 + 1, none⟩ = some (.int .i64 y.offs) ∧ Below w.heap.size w w')
        (first | (exact ⟨hx0, hx1, hu0, hu1, hbel.drew⟩) | (exact keepPattern2 hb (by assumption)))
        ((go_at_call 91; refine (HEq.out _).mono ?_; rintro e w' ⟨rfl, hb⟩))
      obtain ⟨_, _, _, _, qb⟩ := (by assumption : _ ∧ _)
      clear hx0 hu0 hx1 hu1 hbel HB
      go_wp2_with fail
      go_roundw
      case rel => exact ⟨k + 1, by omega, by go_num, qb⟩
      case measure => simp [RowKit.intOf]; omega
    · go_wp2
      go_ret
      exact ⟨rfl, HB.out⟩

def upPatterns (k : Int) : Nat → List PatternD
  | 0 => []
  | n + 1 => upPatterns k n ++ [⟨k + 2 * (n : Int), k + 2 * (n : Int) + 1⟩]
theorem upPatterns_len (k : Int) : ∀ n, (upPatterns k n).length = n
  | 0 => rfl
  | n + 1 => by simp [upPatterns, upPatterns_len k n]
theorem upPatterns_get (k : Int) : ∀ n j (h : j < (upPatterns k n).length), (upPatterns k n)[j] = ⟨k + 2 * (j : Int), k + 2 * (j : Int) + 1⟩
  | 0, j, h => by simp [upPatterns] at h
  | n + 1, j, h => by
    simp only [upPatterns]
    rw [List.getElem_append]
    have hl := upPatterns_len k n
    split
    · exact upPatterns_get k n j (by assumption)
    · have : j = n := by simp [upPatterns, hl] at h; omega
      subst this
      simp

def PatternsMk (k : Int) (w : World) (v : Value) (xs : List PatternD) : Prop := PatternsAt w v (upPatterns k xs.length)
theorem PatternsMk.later {k : Int} {w w' : World} {v : Value} {xs : List PatternD} (h : PatternsMk k w v xs) (hb : Below w.heap.size w w') : PatternsMk k w' v xs := PatternsAt.below h rfl hb

set_option maxHeartbeats 4000000 in
theorem markPatternS_own (v : Value) (xs : List PatternD) (k : Int) (B : Nat) (w : World) (hr : w.ownsRow B 45 2 v xs.length (patC xs)) (hn : xs.length ≤ 1048576) (hk0 : 0 ≤ k) (hk : k ≤ 1073741824) :
    Calls Try.prog 50 #[v, .int .i64 k] w fun e w' => e = .returned (.int .i64 (k + 2 * (xs.length : Int))) ∧ w'.ownsRow B 45 2 v xs.length (patC (upPatterns k xs.length)) ∧ w.grownBy w' v.ownBlock := by
  obtain ⟨a, c, rfl⟩ := own_shape hr
  have HO := Lib.hid hr
  clear hr
  go_enter Try.func50, Try.ntmps50
  go_wp2
  go_loopw [1, 5] (fun q i wr => ∃ j : Nat, j ≤ xs.length ∧ i = .int .i64 j ∧ q = .int .i64 (k + 2 * (j : Int)) ∧ (∃ ys : List PatternD, ys.length = xs.length ∧ Hid (ys.take j = (upPatterns k xs.length).take j) ∧ Hid (wr.ownsRow B 45 2 (.slice a xs.length c) xs.length (patC ys))) ∧ Hid (w.grownBy wr (Value.ownBlock (.slice a xs.length c))))
    (fun _ i _ => xs.length - (RowKit.intOf i).toNat)
  case atStart => exact ⟨0, Nat.zero_le _, rfl, by simp, ⟨_, rfl, rfl, HO.out⟩, World.grownBy.refl _ _⟩
  case round =>
    obtain ⟨j, hj, rfl, rfl, ⟨ys, hys, HT, HOwn⟩, HG⟩ := hrel
    by_cases hlt : j < xs.length
    · obtain ⟨_, h2⟩ := HOwn.out
      rcases h2 with ⟨hv, h0⟩ | ⟨g, cap, cur, hv, hg, hblk, h3, h4, h5, h6⟩
      · omega
      simp at hv
      obtain ⟨rfl, rfl⟩ := hv
      have hown := HOwn.out
      have hjl : j < ys.length := by omega
      have q0 : wr.cell? ⟨g, j * 2, none⟩ = some (.int .i64 ys[j].line) := by rw [hown.cellAt (j * 2) (by omega)]; exact patC_get0 ys j hjl
      have q1 : wr.cell? ⟨g, j * 2 + 1, none⟩ = some (.int .i64 ys[j].offs) := by rw [hown.cellAt (j * 2 + 1) (by omega)]; exact patC_get1 ys j hjl
      have hf := fun o => hown.frozenAt o
      have HOwn2 : Hid (((wr.setCell ⟨g, j * 2, none⟩ (.int .i64 (k + 2 * (j : Int)))).setCell ⟨g, j * 2 + 1, none⟩ (.int .i64 (k + 2 * (j : Int) + 1))).ownsRow B 45 2 (.slice (some ⟨g, 0, none⟩) xs.length c) xs.length (patC (ys.set j ⟨k + 2 * (j : Int), k + 2 * (j : Int) + 1⟩))) := by
        have := ((hown.stored (j * 2) (.int .i64 (k + 2 * (j : Int)))).1.stored (j * 2 + 1) (.int .i64 (k + 2 * (j : Int) + 1))).1
        rw [patC_set ys j ⟨k + 2 * (j : Int), k + 2 * (j : Int) + 1⟩ hjl] at this
        exact this
      have HT2 : Hid ((ys.set j ⟨k + 2 * (j : Int), k + 2 * (j : Int) + 1⟩).take (j + 1) = (upPatterns k xs.length).take (j + 1)) := by
        have hl2 : j < (upPatterns k xs.length).length := by rw [upPatterns_len]; exact hlt
        have := take_set_succ ys (upPatterns k xs.length) j hjl hl2 HT.out
        rw [upPatterns_get] at this; exact this
      have hset : ∀ (W : World) (o : Nat) (u : Value), w.grownBy W (some g) → w.grownBy (W.setCell ⟨g, o, none⟩ u) (some g) := fun W o u h =>
        ⟨h.os, h.tape, h.output, by have := h.size; simp [World.setCell]; omega, fun q hq hne => by
          rw [Below.heap_setCell _ _ _ _ (fun e => hne (by rw [e]))]; exact h.block q hq hne⟩
      have HG2 : Hid (w.grownBy ((wr.setCell ⟨g, j * 2, none⟩ (.int .i64 (k + 2 * (j : Int)))).setCell ⟨g, j * 2 + 1, none⟩ (.int .i64 (k + 2 * (j : Int) + 1))) (some g)) := hset _ _ _ (hset _ _ _ (HG.out))
      clear HG hset
      clear hown hblk h4 h5 h6
      generalize ys[j] = old at *
      go_wp2
      go_roundw
      case rel => exact ⟨j + 1, by omega, by go_num, by go_num, ⟨_, by simpa using hys, HT2, HOwn2⟩, HG2⟩
      case measure => simp [RowKit.intOf]; omega
    · have hjl : j = xs.length := by omega
      subst hjl
      go_wp2
      go_ret
      refine ⟨rfl, ?_, HG.out⟩
      have := HT.out
      rw [List.take_of_length_le (by omega), List.take_of_length_le (by rw [upPatterns_len]; omega)] at this
      rw [← this]; exact HOwn.out
theorem markPatternS_x (v : Value) (xs : List PatternD) (k : Int) (l u : Nat) (w : World) (hr : PatternsIn l u w v xs) (hl : l ≤ w.heap.size) (hs : PatternsSmall xs) (hk0 : 0 ≤ k) (hk : k ≤ 1073741824) :
    Calls Try.prog 50 #[v, .int .i64 k] w fun e w' => e = .returned (.int .i64 (k + 2 * (xs.length : Int))) ∧ PatternsMk k w' v xs ∧ w.grownBy w' v.ownBlock ∧ Out l u w w' :=
  (markPatternS_own v xs k l w hr.1 hs hk0 hk).mono fun e w' ⟨he, ho, hg⟩ => ⟨he, patsAt_own (by rw [upPatterns_len]; exact ho), hg, Out.of_grown hg hl (fun g hg' => ⟨hr.lo g hg', hr.2 g hg'⟩)⟩
set_option maxRecDepth 100000 in
theorem pats_of {H : Type} {enc : TypeId × Value → H} {W : World} {base base' : Nat} {spare : Nat → Bool} {held : Bool} {v : Value} {d : DataW H} {p : List MemPlace}
    (hv : Value.okWide Try.prog W .any base 58 v) (h : DataW.Trod enc Try.prog W base' spare held 58 v d p) : ∃ xs, PatternsAt W v xs ∧ PatternsFit xs :=
  patsAt_of Try.underlying58 Try.underlying106 (by kernel_rfl) (by kernel_rfl) Try.underlying3 Try.underlying3 hv h
theorem szPatternS_x (v : Value) (xs : List PatternD) (left : Int) (w : World) (hr : PatternsAt w v xs) (hf : PatternsFit xs) (h0 : 0 ≤ left) (h1 : left ≤ 1048576) :
    Calls Try.prog 41 #[v, .int .i64 left] w fun e w' => (∃ r : Int, e = .returned (.int .i64 r) ∧ (r = -1 ∨ (0 ≤ r ∧ r ≤ 1048576 ∧ PatternsSmall xs))) ∧ Below w.heap.size w w' :=
  (szPatternS_x2 v xs left w hr hf h0 h1).mono fun e w' ⟨⟨r, he, h⟩, hb⟩ => ⟨⟨r, he, h.imp id (fun ⟨h0', h1', h2'⟩ => ⟨h0', by omega, h2'⟩)⟩, hb⟩
end Go.Proofs.Ytfgkfdkdjegaiaa
