/-
  JOINED TEXTS, each under its own namespace line: NetS, NetX, TripX.
-/
import Derived.Test.YtfgkfdkdjegaiaaLinesMk
import Derived.Test.YtfgkfdkdjegaiaaRows
import Derived.Test.YtfgkfdkdjegaiaaMk09
import Derived.LoopTactic
import Derived.WalkLawsBesides
import Derived.BigQuiet
import Derived.Deep.RegionHeld3
import Derived.Deep.QuietTactic
import Derived.Laws.Entries
namespace Go.Proofs.Ytfgkfdkdjegaiaa
open Go.RowKit
set_option linter.unusedVariables false

/-- the block x is none of those in which lines lie -/
def LinesClear (w : World) (v : Value) (x : Nat) : Prop := ∀ g n c, v = .slice (some ⟨g, 0, none⟩) n c → x ≠ g ∧ ∀ j i v', j < n → (i = 1 ∨ i = 2) → w.cell? ⟨g, j * 3 + i, none⟩ = some v' → v'.ownBlock ≠ some x
theorem LineShape.base {B hi B' hi' : Nat} {w : World} {g o p q : Nat} (h : LineShape B hi w g o p q) (hB : B' ≤ B) (hh : hi ≤ hi') : LineShape B' hi' w g o p q := by
  obtain ⟨nm, sv, rv, s, r, c0, c1, c2, e1, e2, r1, r2, n1, n2, b1, b2⟩ := h
  exact ⟨nm, sv, rv, s, r, c0, c1, c2, e1, e2, own_base r1 hB, own_base r2 hB, n1, n2, fun b hb => Nat.lt_of_lt_of_le (b1 b hb) hh, fun b hb => Nat.lt_of_lt_of_le (b2 b hb) hh⟩
theorem LinesShape.base {B hi B' hi' : Nat} {w : World} {v : Value} {ls : List LineD} (h : LinesShape B hi w v ls) (hB : B' ≤ B) (hh : hi ≤ hi') : LinesShape B' hi' w v ls := by
  obtain ⟨g, c, cur, hv, hg, hgh, hblk, h1, h2, h3, h4⟩ := h
  exact ⟨g, c, cur, hv, by omega, by omega, hblk, h1, h2, fun j hj => (h3 j hj).base hB hh, h4⟩
theorem LinesShape.grownC {B hi : Nat} {w w' : World} {v : Value} {ls : List LineD} {row : Option Nat} (h : LinesShape B hi w v ls) (hg : w.grownBy w' row) (hr : ∀ b, row = some b → LinesClear w v b) : LinesShape B hi w' v ls := by
  obtain ⟨g, c, cur, hv, hgB, hgh, hh, h1, h2, h4, h5⟩ := h
  have hglt := (Array.getElem?_eq_some_iff.1 hh).1
  have hne : row ≠ some g := fun e => (hr g e g _ _ hv).1 rfl
  refine ⟨g, c, cur, hv, hgB, hgh, (hg.block g hglt (fun e => hne e.symm)).trans hh, h1, h2, fun j hj => (h4 j hj).grown hg hne (fun x i hi hc => ?_), h5.grown hg hne hglt⟩
  by_cases hx : x.ownBlock = none
  · exact .inl hx
  · refine .inr fun e => ?_
    obtain ⟨b, hb⟩ := Option.ne_none_iff_exists'.1 hx
    rw [hb] at e
    exact (hr b e.symm g _ _ hv).2 j i x hj hi hc hb
theorem LinesAt.keepIn {B hi : Nat} {w W : World} {v : Value} {ls : List LineD} (h : LinesAt w v ls) (hs : LinesShape B hi w v ls) (hz : w.heap.size ≤ W.heap.size) (hq : ∀ q, B ≤ q → q < hi → q < w.heap.size → W.heap[q]? = w.heap[q]?) : LinesAt W v ls := by
  obtain ⟨a, c, hv, h1, h2, h3⟩ := h
  obtain ⟨g, c', cur, hv', hg, hgh, hblk, _, _, hsh, _⟩ := hs
  have hgw := (Array.getElem?_eq_some_iff.1 hblk).1
  rw [hv] at hv'
  simp at hv'
  obtain ⟨rfl, rfl⟩ := hv'
  refine ⟨_, c, hv, h1, h2, fun k l hl => ?_⟩
  obtain ⟨b, off, ha, hlt, hla⟩ := h3 k l hl
  simp at ha
  obtain ⟨rfl, rfl⟩ := ha
  have hk := (List.getElem?_eq_some_iff.1 hl).1
  rw [Nat.zero_add] at hla
  exact ⟨g, 0, rfl, Nat.lt_of_lt_of_le hlt hz, by rw [Nat.zero_add]; exact hla.keepIn (hsh k hk) hg hgh hgw hz hq⟩

/-- a network of the call's own -/
def NetS (l u : Nat) (w : World) (v : Value) (n : NetD) : Prop := ∃ s lv, v = .agg #[s, lv] ∧ w.ownsRow l 9 1 s n.stops.length (strs n.stops) ∧ (∀ b, s.ownBlock = some b → b < u) ∧ LinesShape l u w lv n.lines ∧ LinesAt w lv n.lines ∧ ∀ b, s.ownBlock = some b → LinesClear w lv b
theorem NetS.at {l u : Nat} {w : World} {v : Value} {n : NetD} (h : NetS l u w v n) : NetAt w v n := by
  obtain ⟨s, lv, hv, h1, _, _, h2, _⟩ := h
  exact ⟨s, lv, hv, rowAt_own h1, h2⟩
theorem NetS.keep {l u : Nat} {w w' : World} {v : Value} {n : NetD} (h : NetS l u w v n) (hz : w.heap.size ≤ w'.heap.size) (hq : ∀ q, l ≤ q → q < u → q < w.heap.size → w'.heap[q]? = w.heap[q]?) : NetS l u w' v n := by
  obtain ⟨s, lv, hv, h1, h2, h3, h4, h5⟩ := h
  refine ⟨s, lv, hv, own_block h1 (fun g hg => hq g (h1.lt g hg).1 (h2 g hg) (h1.lt g hg).2), h2, h3.blocks hq, h4.keepIn h3 hz hq, fun b hb g n' c hc => ?_⟩
  obtain ⟨e1, e2⟩ := h5 b hb g n' c hc
  refine ⟨e1, fun j i v' hj hi hcell => e2 j i v' hj hi ?_⟩
  obtain ⟨g', c', cur, hv', hg, hgh, hblk, _⟩ := h3
  rw [hc] at hv'
  simp at hv'
  obtain ⟨rfl, _, _⟩ := hv'
  rw [← World.cell?_of_block (w := w) (a := ⟨g, j * 3 + i, none⟩) (hq g hg hgh (Array.getElem?_eq_some_iff.1 hblk).1)]
  exact hcell
theorem NetS.base {l u l' u' : Nat} {w : World} {v : Value} {n : NetD} (h : NetS l u w v n) (hl : l' ≤ l) (hu : u ≤ u') : NetS l' u' w v n := by
  obtain ⟨s, lv, hv, h1, h2, h3, h4, h5⟩ := h
  exact ⟨s, lv, hv, own_base h1 hl, fun b hb => Nat.lt_of_lt_of_le (h2 b hb) hu, h3.base hl hu, h4, h5⟩
theorem NetOwn.s {B : Nat} {w : World} {v : Value} {n : NetD} (h : NetOwn B w v n) : NetS B w.heap.size w v n := by
  obtain ⟨s, lv, B1, hv, h1, h2, h3, h4⟩ := h
  refine ⟨s, lv, hv, h1, fun b hb => (h1.lt b hb).2, (h2.shape (Nat.le_refl _)).base h3 (Nat.le_refl _), h2.at, fun b hb g n' c hc => ?_⟩
  obtain ⟨g', c', cur, hv', hg, hblk, _, _, _, hall, _⟩ := h2
  rw [hc] at hv'
  simp at hv'
  obtain ⟨rfl, hn, _⟩ := hv'
  have hbB := h4 b hb
  refine ⟨by omega, fun j i v' hj hi hcell e => ?_⟩
  obtain ⟨sv, rv, c0, c1, c2, r1, r2, _⟩ := hall j _ (List.getElem?_eq_getElem (show j < n.lines.length by omega))
  rcases hi with rfl | rfl
  · rw [c1] at hcell; cases hcell; have := (r1.lt b e).1; omega
  · rw [c2] at hcell; cases hcell; have := (r2.lt b e).1; omega

/-- a network in blocks from l to u, or the zero value -/
def NetIn (l u : Nat) (w : World) (v : Value) (n : NetD) : Prop := NetS l u w v n ∨ (v = .agg #[.slice none 0 0, .slice none 0 0] ∧ n = ⟨[], []⟩)
theorem netAt_zero (w : World) : NetAt w (.agg #[.slice none 0 0, .slice none 0 0]) ⟨[], []⟩ :=
  ⟨_, _, rfl, ⟨none, 0, rfl, Nat.le_refl _, by decide, fun k u hu => by simp [strs] at hu⟩, ⟨none, 0, rfl, Nat.le_refl _, by decide, fun k u hu => by simp at hu⟩⟩
theorem NetIn.at {l u : Nat} {w : World} {v : Value} {n : NetD} (h : NetIn l u w v n) : NetAt w v n := by
  rcases h with h | ⟨rfl, rfl⟩
  · exact h.at
  · exact netAt_zero w
theorem NetIn.mk {l : Nat} {w : World} {v : Value} {n : NetD} (h : NetOwn l w v n) : NetIn l w.heap.size w v n := .inl h.s
theorem NetIn.zero (l u : Nat) (w : World) : NetIn l u w (.agg #[.slice none 0 0, .slice none 0 0]) ⟨[], []⟩ := .inr ⟨rfl, rfl⟩
theorem NetIn.keep {l u : Nat} {w w' : World} {v : Value} {n : NetD} (h : NetIn l u w v n) (hz : w.heap.size ≤ w'.heap.size) (hq : ∀ q, l ≤ q → q < u → q < w.heap.size → w'.heap[q]? = w.heap[q]?) : NetIn l u w' v n := h.imp (·.keep hz hq) id
theorem NetIn.later {l u : Nat} {w w' : World} {v : Value} {n : NetD} (h : NetIn l u w v n) (hb : Below w.heap.size w w') : NetIn l u w' v n := h.keep hb.size fun q _ _ h3 => hb.block q h3
theorem NetIn.out {l u lo hi : Nat} {w w' : World} {v : Value} {n : NetD} (h : NetIn l u w v n) (ho : Out lo hi w w') (hs : u ≤ lo ∨ hi ≤ l) : NetIn l u w' v n :=
  h.keep ho.below.size fun q h1 h2 h3 => ho.block (by omega) h3
theorem NetIn.base {l l' u u' : Nat} {w : World} {v : Value} {n : NetD} (h : NetIn l u w v n) (hl : l' ≤ l) (hu : u ≤ u') : NetIn l' u' w v n := h.imp (·.base hl hu) id
end Go.Proofs.Ytfgkfdkdjegaiaa

namespace Go.Proofs.Ytfgkfdkdjegaiaa
open Go.RowKit
set_option linter.unusedVariables false

theorem szNetwork_x (v : Value) (n : NetD) (left : Int) (w : World) (hr : NetAt w v n) (hf : NetFits n) (h0 : 0 ≤ left) (h1 : left ≤ 1048576) :
    Calls Try.prog 40 #[v, .int .i64 left] w fun e w' => (∃ r : Int, e = .returned (.int .i64 r) ∧ (r = -1 ∨ (0 ≤ r ∧ r ≤ left ∧ NetSmall n))) ∧ Below w.heap.size w w' := by
  obtain ⟨sv, lv, rfl, hs, hrr⟩ := hr
  have HS := Lib.hid (fun W (hW : Below w.heap.size w W) => szStringS_any sv n.stops left W (hs.below rfl hW) hf.1 (by omega) (by omega))
  have HR := Lib.hid (fun W (hW : Below w.heap.size w W) r (g0 : 0 ≤ r) (g1 : r ≤ 1048576) => szLineS_any lv n.lines r W (hrr.below rfl hW) hf.2 g0 g1)
  obtain ⟨a, c, rfl, hc, hm, _⟩ := strs_open hs
  obtain ⟨a', c', rfl, hc', hm', _⟩ := lines_open hrr
  clear hs hrr hf
  go_enter Try.func40, Try.ntmps40
  go_wp2_with fail
  go_at_call 84
  refine (HS.out _ ((Below.refl _ _).alloc (Nat.le_refl _) _)).mono ?_
  rintro e w1 ⟨⟨r1, rfl, hr1⟩, rfl⟩
  rcases hr1 with rfl | ⟨hp1, he1⟩
  · go_wp2_with fail
    go_ret
    exact ⟨⟨-1, rfl, .inl rfl⟩, (Below.refl _ _).alloc (Nat.le_refl _) _⟩
  · have hb1 : r1 ≤ 1048576 ∧ n.stops.length ≤ 1048576 := by omega
    have hb3 : (n.stops.length : Int) + r1 ≤ left := by omega
    obtain ⟨hb1, hb2⟩ := hb1
    clear he1
    go_wp2_with fail
    go_at_call 85
    refine (HR.out _ ((Below.refl _ _).alloc (Nat.le_refl _) _) _ hp1 hb1).mono ?_
    rintro e w2 ⟨⟨r2, rfl, hr2⟩, hbw⟩
    have HBW : Hid (Below w.heap.size w w2) := ((Below.refl _ _).alloc (Nat.le_refl _) _).trans (hbw.mono (by simp))
    clear hbw
    rcases hr2 with rfl | ⟨hp2, hsm⟩
    · go_wp2_with fail
      go_ret
      exact ⟨⟨-1, rfl, .inl rfl⟩, HBW.out⟩
    · have HSm := Lib.hid hsm
      clear hsm
      go_wp2_with fail
      go_ret
      exact ⟨⟨r2, rfl, .inr ⟨hp2, by have := HSm.out.1; omega, hb2, by have := HSm.out.1; omega, HSm.out.2, by have := HSm.out.1; omega⟩⟩, HBW.out⟩

theorem Network_open {w : World} {v : Value} {n : NetD} (h : NetAt w v n) : ∃ a c a' c', v = .agg #[.slice a n.stops.length c, .slice a' n.lines.length c'] := by
  obtain ⟨a, c, a', c', hv, _⟩ := net_open h
  exact ⟨a, c, a', c', hv⟩
theorem toNetwork_x (v : Value) (n : NetD) (w : World) (hr : NetAt w v n) (hs : NetSmall n) :
    Calls Try.prog 43 #[v] w fun e w' => ∃ a c a' c', e = .returned (.agg #[.slice a n.stops.length c, .slice a' n.lines.length c']) ∧ NetIn w.heap.size w'.heap.size w' (.agg #[.slice a n.stops.length c, .slice a' n.lines.length c']) n ∧ Below w.heap.size w w' :=
  (toNetwork_any v n w hr hs.1 hs.2.1 (fun l hl => (hs.2.2.1 l hl).2)).mono fun e w' ⟨a, c, a', c', he, ho, hb⟩ => ⟨a, c, a', c', he, .mk ho, hb⟩
theorem eqNetwork_x (v v' : Value) (n : NetD) (w : World) (hr : NetAt w v n) (hr' : NetAt w v' n) (hs : NetSmall n) :
    Calls Try.prog 45 #[v, v'] w fun e w' => e = .returned (.bool true) ∧ Below w.heap.size w w' := eqNetwork_same v v' n w hr hr' hs.1

/-- a network that holds marks from k on -/
def netTot (n : NetD) : Int := (n.stops.length : Int) + (rowTot n.lines : Int)
def NetMk (k : Int) (w : World) (v : Value) (n : NetD) : Prop := ∃ s l, v = .agg #[s, l] ∧ StrsMk k w s n.stops ∧ LinesAt w l (markedLs (k.toNat + n.stops.length) n.lines)
theorem NetMk.later {k : Int} {w w' : World} {v : Value} {n : NetD} (h : NetMk k w v n) (hb : Below w.heap.size w w') : NetMk k w' v n := by
  obtain ⟨s, l, hv, h1, h2⟩ := h
  exact ⟨s, l, hv, h1.later hb, h2.below rfl hb⟩
/-- .. and lies in blocks from l to u -/
def NetMkIn (k : Int) (l u : Nat) (w : World) (v : Value) (n : NetD) : Prop := ∀ W : World, w.heap.size ≤ W.heap.size → (∀ q, l ≤ q → q < u → q < w.heap.size → W.heap[q]? = w.heap[q]?) → NetMk k W v n
theorem NetMkIn.at {k : Int} {l u : Nat} {w : World} {v : Value} {n : NetD} (h : NetMkIn k l u w v n) : NetMk k w v n := h w (Nat.le_refl _) (fun _ _ _ _ => rfl)
theorem netTot_le {n : NetD} (h : NetSmall n) : 0 ≤ netTot n ∧ netTot n ≤ 1048576 := by
  have h1 := rowTot_le n.lines
  have h2 := h.2.2.2
  unfold netTot; omega

theorem markStringS_nil (k : Int) (w : World) (hk0 : 0 < k) (hk : k ≤ 4194304) : Calls Try.prog 92 #[.slice none 0 0, .int .i64 k] w fun e w' => e = .returned (.int .i64 k) ∧ Below w.heap.size w w' := by
  go_enter Try.func92, Try.ntmps92
  go_wp2
  go_loop [1, 5] (fun q i => i = .int .i64 0 ∧ q = .int .i64 k) (fun _ i => 0)
  case atStart => exact ⟨rfl, rfl⟩
  case round =>
    obtain ⟨rfl, rfl⟩ := hrel
    go_wp2
    go_ret
    exact ⟨rfl, Below.refl _ _⟩
theorem markLineS_nil (k : Int) (w : World) (hk0 : 0 < k) (hk : k ≤ 4194304) : Calls Try.prog 93 #[.slice none 0 0, .int .i64 k] w fun e w' => e = .returned (.int .i64 k) ∧ Below w.heap.size w w' := by
  go_enter Try.func93, Try.ntmps93
  go_wp2
  go_loop [1, 5] (fun q i => i = .int .i64 0 ∧ q = .int .i64 k) (fun _ i => 0)
  case atStart => exact ⟨rfl, rfl⟩
  case round =>
    obtain ⟨rfl, rfl⟩ := hrel
    go_wp2
    go_ret
    exact ⟨rfl, Below.refl _ _⟩

set_option maxRecDepth 100000 in
set_option maxHeartbeats 1000000 in
theorem markNetwork_in (v : Value) (n : NetD) (k : Int) (l u : Nat) (w : World) (hr : NetIn l u w v n) (hl : l ≤ w.heap.size) (hu : u ≤ w.heap.size) (hs : NetSmall n) (hk0 : 0 < k) (hk : k ≤ 1048576) :
    Calls Try.prog 49 #[v, .int .i64 k] w fun e w' => e = .returned (.int .i64 (k + netTot n)) ∧ NetMkIn k l u w' v n ∧ Out l u w w' := by
  rcases hr with hr | ⟨rfl, rfl⟩
  · obtain ⟨K, rfl⟩ := Int.eq_ofNat_of_zero_le (Int.le_of_lt hk0)
    obtain ⟨sv, lv, rfl, hss, hlt, hll, hla, hcl⟩ := hr
    obtain ⟨a, c, rfl⟩ := own_shape hss
    obtain ⟨g, c', he⟩ : ∃ g c', lv = .slice (some ⟨g, 0, none⟩) n.lines.length c' := by obtain ⟨g, c', cur, hv, _⟩ := hll; exact ⟨_, _, hv⟩
    subst he
    have hgw : g < w.heap.size := by obtain ⟨g', c', cur, hv, _, _, hblk, _⟩ := hll; simp at hv; obtain ⟨rfl, _⟩ := hv; exact (Array.getElem?_eq_some_iff.1 hblk).1
    have hsz := hs.2.2.2
    have HB := Lib.hid (And.intro hs.1 (show n.lines.length + lineTot n.lines ≤ 1048576 by omega))
    have HS := Lib.hid hss
    have HL := Lib.hid hll
    have HLt := Lib.hid hlt
    have HCl := Lib.hid hcl
    have HW : Hid (l ≤ w.heap.size) := hl
    have HU : Hid (u ≤ w.heap.size) := hu
    have hab := (Below.refl w.heap.size w).alloc (Nat.le_refl _) (.cells #[.slice a n.stops.length c, .slice (some ⟨g, 0, none⟩) n.lines.length c'] 27 (0, 0))
    have HAb := Lib.hid hab
    clear hss hll hs hsz hlt hl hu hla hcl hab
    go_enter Try.func49, Try.ntmps49
    go_wp2_with fail
    go_at_call 92
    refine (markStringS_own _ n.stops K l _ (HS.out.alloc _) HB.out.1 (by omega) (by omega)).mono ?_
    rintro e w1 ⟨rfl, hx1, hg1⟩
    have HO1' : Hid (w1.ownsRow l 9 1 (.slice a n.stops.length c) n.stops.length (strs (marksL K n.stops.length))) := hx1
    have hcl1 : ∀ b, (Value.slice a n.stops.length c).ownBlock = some b → LinesClear (w.alloc (.cells #[.slice a n.stops.length c, .slice (some ⟨g, 0, none⟩) n.lines.length c'] 27 (0, 0))) (.slice (some ⟨g, 0, none⟩) n.lines.length c') b := fun b hb g' n' c'' hc => by
      have h1 := HCl.out b hb g' n' c'' hc
      simp at hc
      obtain ⟨rfl, rfl, rfl⟩ := hc
      exact ⟨h1.1, fun j i v' hj hi hcell => h1.2 j i v' hj hi (by rw [← HAb.out.cell (p := ⟨g, j * 3 + i, none⟩) hgw]; exact hcell)⟩
    have HL1 := Lib.hid ((HL.out.later HAb.out).grownC hg1 hcl1)
    have HX : Hid (∀ x, (Value.slice a n.stops.length c).ownBlock = some x → x ≠ g ∧ ∀ j i v', j < n.lines.length → (i = 1 ∨ i = 2) → w1.cell? ⟨g, j * 3 + i, none⟩ = some v' → v'.ownBlock ≠ some x) := fun x hx => by
      have h1 := hcl1 x hx g _ _ rfl
      refine ⟨h1.1, fun j i v' hj hi hcell => h1.2 j i v' hj hi ?_⟩
      rw [← World.cell?_of_block (a := ⟨g, j * 3 + i, none⟩) (hg1.block g (by simp; omega) (fun e => h1.1 (Option.some.inj (hx.symm.trans e.symm))))]
      exact hcell
    have HO1 : Hid (Out l u w w1) := (Out.of_below HAb.out HW.out).trans
      (Out.of_grown hg1 (by have := HW.out; simp; omega) (fun b hb => ⟨(HS.out.lt b hb).1, HLt.out b hb⟩))
    have p1 : w1.cell? ⟨w.heap.size, 1, none⟩ = some (.slice (some ⟨g, 0, none⟩) n.lines.length c') := gcell hg1 (by go_simp) (fun e => by have := (HS.out.lt _ e).2; omega)
    have hst := HB.out.1
    clear hg1 hx1 hcl1
    go_wp2_with fail
    go_at_call 93
    refine (markLineS_mk _ n.lines (K + n.stops.length) l u _ HL1.out HB.out.2 (by omega) (by omega)).mono ?_
    rintro e w2 ⟨rfl, hm2, ho2, hkp⟩
    have HO2 : Hid (Out l u w w2) := HO1.out.trans ho2
    have hkp' := hkp g _ _ rfl
    have HS2 : Hid (w2.ownsRow l 9 1 (.slice a n.stops.length c) n.stops.length (strs (marksL K n.stops.length))) := own_block HO1'.out (fun x hx => hkp'.2 x (HX.out x hx).1 (HX.out x hx).2 (HO1'.out.lt x hx).2)
    have HM2 := Lib.hid hm2
    clear ho2 hm2 hkp hkp'
    go_wp2_with fail
    go_ret
    refine ⟨ret_int (by unfold netTot; omega), fun W hz hq => ⟨_, _, rfl, ?_, by rw [Int.toNat_natCast]; exact HM2.out W hz hq⟩, HO2.out⟩
    show RowAt _ _ _
    rw [Int.toNat_natCast]
    exact row_keep (rowAt_own HS2.out) hz (fun b hb hlt => hq b (HS2.out.lt b hb).1 (HLt.out b hb) hlt)
  · clear hs hu
    have HL := Lib.hid hl
    clear hl
    go_enter Try.func49, Try.ntmps49
    go_wp2_with fail
    go_at_call 92
    refine (markStringS_nil k _ hk0 (by omega)).mono ?_
    rintro e w1 ⟨rfl, hb1⟩
    have HB1 : Hid (Below w.heap.size w w1) := ((Below.refl _ _).alloc (Nat.le_refl _) _).trans (hb1.mono (by simp))
    have p1 : w1.cell? ⟨w.heap.size, 1, none⟩ = some (.slice none 0 0) := bkeep hb1 (by go_simp)
    clear hb1
    go_wp2_with fail
    go_at_call 93
    refine (markLineS_nil k _ hk0 (by omega)).mono ?_
    rintro e w2 ⟨rfl, hb2⟩
    have HB2 : Hid (Below w.heap.size w w2) := HB1.out.trans (hb2.mono HB1.out.size)
    clear hb2
    go_wp2_with fail
    go_ret
    refine ⟨ret_int (by simp [netTot, rowTot]), fun W hz hq => ⟨_, _, rfl, ?_, ?_⟩, Out.of_below HB2.out HL.out⟩
    · exact ⟨none, 0, rfl, Nat.le_refl _, by decide, fun k u hu => by simp [strs, marksL] at hu⟩
    · exact ⟨none, 0, rfl, Nat.le_refl _, by decide, fun k u hu => by simp [markedLs] at hu⟩

theorem markNetwork_x (v : Value) (n : NetD) (k : Int) (l u : Nat) (w : World) (hr : NetIn l u w v n) (hl : l ≤ w.heap.size) (hu : u ≤ w.heap.size) (hs : NetSmall n) (hk0 : 0 < k) (hk : k ≤ 1048576) :
    Calls Try.prog 49 #[v, .int .i64 k] w fun e w' => e = .returned (.int .i64 (k + netTot n)) ∧ NetMk k w' v n ∧ Out l u w w' :=
  (markNetwork_in v n k l u w hr hl hu hs hk0 hk).mono fun e w' ⟨he, hm, ho⟩ => ⟨he, hm.at, ho⟩
theorem keepH3 {W w w' : World} {p0 p1 p2 : Addr} {x0 x1 x2 : Value} (hb : Below w.heap.size w w') (h : w.cell? p0 = some x0 ∧ w.cell? p1 = some x1 ∧ w.cell? p2 = some x2 ∧ Below W.heap.size W w) : w'.cell? p0 = some x0 ∧ w'.cell? p1 = some x1 ∧ w'.cell? p2 = some x2 ∧ Below W.heap.size W w' := by
  obtain ⟨h0, h1, h2, hl⟩ := h
  exact ⟨bkeep hb h0, bkeep hb h1, bkeep hb h2, hl.trans (hb.mono hl.size)⟩
end Go.Proofs.Ytfgkfdkdjegaiaa

namespace Go.Proofs.Ytfgkfdkdjegaiaa
open Go.RowKit
set_option linter.unusedVariables false

def TripsSmall (xs : List TripD) : Prop := xs.length ≤ 1048576
def TripsFit (xs : List TripD) : Prop := ∀ s ∈ xs, TripWf s

/-! a trip by value -/
def TripSmall (_ : TripD) : Prop := True
def TripAt (_ : World) (v : Value) (s : TripD) : Prop := v = .agg #[.int .i64 s.id, .int .i64 s.line, .int .i64 s.start]
theorem TripAt.below {w w' : World} {v : Value} {s : TripD} (h : TripAt w v s) {B : Nat} (_hB : B = w.heap.size) (_hb : Below B w w') : TripAt w' v s := h
def TripIn (_ _ : Nat) (w : World) (v : Value) (s : TripD) : Prop := TripAt w v s
theorem TripIn.at {l u : Nat} {w : World} {v : Value} {s : TripD} (h : TripIn l u w v s) : TripAt w v s := h
theorem TripIn.later {l u : Nat} {w w' : World} {v : Value} {s : TripD} (h : TripIn l u w v s) (_hb : Below w.heap.size w w') : TripIn l u w' v s := h
theorem TripIn.out {l u lo hi : Nat} {w w' : World} {v : Value} {s : TripD} (h : TripIn l u w v s) (_ho : Out lo hi w w') (_hs : True) : TripIn l u w' v s := h
theorem TripIn.base {l l' u u' : Nat} {w : World} {v : Value} {s : TripD} (h : TripIn l u w v s) (_hl : l' ≤ l) (_hu : u ≤ u') : TripIn l' u' w v s := h
theorem Trip_open {w : World} {v : Value} {s : TripD} (h : TripAt w v s) : v = .agg #[.int .i64 s.id, .int .i64 s.line, .int .i64 s.start] := h

theorem keepE6 {W w w' : World} {p0 p1 p2 p3 p4 p5 : Addr} {x0 x1 x2 x3 x4 x5 : Value} (hb : Below w.heap.size w w') (h : w.cell? p0 = some x0 ∧ w.cell? p1 = some x1 ∧ w.cell? p2 = some x2 ∧ w.cell? p3 = some x3 ∧ w.cell? p4 = some x4 ∧ w.cell? p5 = some x5 ∧ Below W.heap.size W w) : w'.cell? p0 = some x0 ∧ w'.cell? p1 = some x1 ∧ w'.cell? p2 = some x2 ∧ w'.cell? p3 = some x3 ∧ w'.cell? p4 = some x4 ∧ w'.cell? p5 = some x5 ∧ Below W.heap.size W w' := by
  obtain ⟨h0, h1, h2, h3, h4, h5, hl⟩ := h
  exact ⟨bkeep hb h0, bkeep hb h1, bkeep hb h2, bkeep hb h3, bkeep hb h4, bkeep hb h5, hl.trans (hb.mono hl.size)⟩
/-- the marks from k on -/
def upTrips (k : Int) : Nat → List TripD
  | 0 => []
  | n + 1 => upTrips k n ++ [⟨k + 3 * (n : Int), k + 3 * (n : Int) + 1, k + 3 * (n : Int) + 1 + 1⟩]
theorem upTrips_len (k : Int) : ∀ n, (upTrips k n).length = n
  | 0 => rfl
  | n + 1 => by simp [upTrips, upTrips_len k n]
theorem upTrips_get (k : Int) : ∀ n j (h : j < (upTrips k n).length), (upTrips k n)[j] = ⟨k + 3 * (j : Int), k + 3 * (j : Int) + 1, k + 3 * (j : Int) + 1 + 1⟩
  | 0, j, h => by simp [upTrips] at h
  | n + 1, j, h => by
    simp only [upTrips]
    rw [List.getElem_append]
    have hl := upTrips_len k n
    split
    · exact upTrips_get k n j (by assumption)
    · have : j = n := by simp [upTrips, hl] at h; omega
      subst this
      simp

/-- trips that hold marks from k on -/
def TripsMk (k : Int) (w : World) (v : Value) (xs : List TripD) : Prop := TripsAt w v (upTrips k xs.length)
theorem TripsMk.later {k : Int} {w w' : World} {v : Value} {xs : List TripD} (h : TripsMk k w v xs) (hb : Below w.heap.size w w') : TripsMk k w' v xs := TripsAt.below h rfl hb

end Go.Proofs.Ytfgkfdkdjegaiaa
