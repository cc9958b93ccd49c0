/-
  JOINED TEXTS, each under its own namespace line: Concat, GrpOwn.
-/
import Derived.Test.YtehpeifaknbcnaaMk45
import Derived.Test.YtehpeifaknbcnaaIntsX
import Derived.Test.YtehpeifaknbcnaaValidBlocksS
import Derived.Test.YtehpeifaknbcnaaGrpX
namespace Go.Proofs.Ytehpeifaknbcnaa
open Go.RowKit Go.Shelf
set_option linter.unusedVariables false
set_option linter.unusedSimpArgs false

set_option maxRecDepth 100000 in
theorem growNil_any (n : Nat) (w : World) (hn : 0 < n) (hs : n ≤ 1048576) :
    Calls Try.prog 115 #[.slice none 0 0, .int .i64 n] w fun e w' => ∃ c, e = .returned (.slice (some ⟨w.heap.size, 0, none⟩) 0 c) ∧ w'.ownsRow w.heap.size 3 1 (.slice (some ⟨w.heap.size, 0, none⟩) 0 c) 0 (ints []) ∧ Below w.heap.size w w' := by
  obtain ⟨i0, hi, hz0, hz1, hz2⟩ := info_parts infoInt
  refine (Any8.slices_Grow_grow Try.growInt i0 (.int .i64 0) hi hz0 (by rw [hz1]; decide) none 0 0 n [] w (Nat.le_refl _) (by omega) (by rw [hz2]; omega) (by omega) (by simp) (fun _ => rfl) (fun a h => by cases h)).mono ?_
  rintro e w' ⟨rfl, rfl⟩
  obtain ⟨G, hG⟩ : ∃ G, G = grownCap w (0 + n) 0 (Try.growInt_ren.t 25) := ⟨_, rfl⟩
  have hG2 := grownCap_le_maxLen w (0 + n) 0 (Try.growInt_ren.t 25) (by unfold maxLen; omega)
  have hG3 := grownCap_ge w (0 + n) 0 (Try.growInt_ren.t 25)
  rw [← hG] at hG2 hG3 ⊢
  clear hG
  refine ⟨_, rfl, ?_, (Below.refl _ _).drew.alloc (Nat.le_refl _) _⟩
  have h := World.ownsRow_made (base := w.heap.size) (size := 1) (e := 3) w.drew (#[] ++ Builtin.zeroCells (Value.int IntKind.i64 0).cells (0 + n - 0) ++ Builtin.zeroCells (Value.int IntKind.i64 0).cells (G - (0 + n))) G (Nat.le_refl _) hG2 (by simp [Builtin.zeroCells, Value.cells]; omega)
  exact h

def twoL (a b : Nat) : Nat → Nat
  | 0 => 0
  | 1 => a
  | _ => a + b
set_option maxRecDepth 100000 in
set_option maxHeartbeats 2000000 in
theorem concat2_any (g gc b1 o1 c1 b2 o2 c2 : Nat) (xs ys : List Int) (w : World) (u1 : w.cell? ⟨g, 0, none⟩ = some (.slice (some ⟨b1, o1, none⟩) xs.length c1)) (u2 : w.cell? ⟨g, 1, none⟩ = some (.slice (some ⟨b2, o2, none⟩) ys.length c2))
    (h1 : RowAt w (.slice (some ⟨b1, o1, none⟩) xs.length c1) (ints xs)) (h2 : RowAt w (.slice (some ⟨b2, o2, none⟩) ys.length c2) (ints ys)) (hx : 0 < xs.length) (hs : xs.length + ys.length ≤ 1048576) :
    Calls Try.prog 87 #[.slice (some ⟨g, 0, none⟩) 2 gc] w fun e w' => ∃ v', e = .returned v' ∧ w'.ownsRow w.heap.size 3 1 v' (xs.length + ys.length) (ints (xs ++ ys)) ∧ Below w.heap.size w w' := by
  have HGr := Lib.hid (fun W => growNil_any (xs.length + ys.length) W (by omega) hs)
  have HU : Hid (∀ W, Below w.heap.size w W → W.cell? ⟨g, 0, none⟩ = some (.slice (some ⟨b1, o1, none⟩) xs.length c1) ∧ W.cell? ⟨g, 1, none⟩ = some (.slice (some ⟨b2, o2, none⟩) ys.length c2)) := fun W h => ⟨bkeep h u1, bkeep h u2⟩
  have HC1 : Hid (∀ W, Below w.heap.size w W → ∀ j u, (ints xs)[j]? = some u → W.cell? ((⟨b1, o1, none⟩ : Addr).add j) = some u) := fun W h j u hu => by
    rw [addr_add]
    have hj : j < xs.length := by have := (List.getElem?_eq_some_iff.1 hu).1; rwa [ints_len] at this
    rw [row_cells (h1.below rfl h) j hj]
    rw [← hu]; simp [ints, hj]
  have HC2 : Hid (∀ W, Below w.heap.size w W → ∀ j u, (ints ys)[j]? = some u → W.cell? ((⟨b2, o2, none⟩ : Addr).add j) = some u) := fun W h j u hu => by
    rw [addr_add]
    have hj : j < ys.length := by have := (List.getElem?_eq_some_iff.1 hu).1; rwa [ints_len] at this
    rw [row_cells (h2.below rfl h) j hj]
    rw [← hu]; simp [ints, hj]
  obtain ⟨i0, hi0, iz0, iz1, iz2⟩ := info_parts infoInt
  generalize hnx : xs.length = nx at *
  generalize hny : ys.length = ny at *
  have HLx : Hid ((ints xs).length = nx ∧ (ints ys).length = ny) := ⟨by rw [ints_len, hnx], by rw [ints_len, hny]⟩
  clear u1 u2 h1 h2 hnx hny
  go_enter Try.func87, Try.ntmps87
  go_wp2_with fail
  go_loopw [3, 11] (fun sv q wr => ∃ k : Nat, k ≤ 2 ∧ q = .int .i64 k ∧ sv = .int .i64 (twoL nx ny k : Nat) ∧ Hid (Below w.heap.size w wr)) (fun _ q _ => 3 - (RowKit.intOf q).toNat)
  case atStart => exact ⟨0, by omega, rfl, rfl, Below.refl _ _⟩
  case round =>
    obtain ⟨k, hk, rfl, rfl, HB⟩ := hrel
    obtain ⟨y0, y1⟩ := HU.out _ HB.out
    have hk3 : k = 0 ∨ k = 1 ∨ k = 2 := by omega
    rcases hk3 with rfl | rfl | rfl
    · simp only [twoL]
      go_wp2_with fail
      go_roundw
      case rel => exact ⟨1, by omega, by go_num, by simp [twoL], HB⟩
      case measure => simp [RowKit.intOf]
    · simp only [twoL]
      go_wp2_with fail
      go_roundw
      case rel => exact ⟨2, by omega, by go_num, by simp [twoL], HB⟩
      case measure => simp [RowKit.intOf]
    · simp only [twoL]
      go_wp2_with fail
      go_at_call 115
      refine (HGr.out _).mono ?_
      rintro e w2 ⟨c, rfl, hown, hb2⟩
      have HB2 : Hid (Below w.heap.size w w2) := HB.out.trans (hb2.mono HB.out.size)
      have HO2 := Lib.hid (own_base hown HB.out.size)
      clear hown hb2 y0 y1 HB
      go_wp2_with fail
      go_loopw [6, 27] (fun sv q wr2 => ∃ k : Nat, k ≤ 2 ∧ q = .int .i64 k ∧ Hid (wr2.ownsRow w.heap.size 3 1 sv (twoL nx ny k) (ints (if k = 0 then [] else if k = 1 then xs else xs ++ ys))) ∧ Hid (Below w.heap.size w wr2)) (fun _ q _ => 3 - (RowKit.intOf q).toNat)
      case atStart => exact ⟨0, by omega, rfl, HO2, HB2⟩
      case round =>
        clear HB2 HO2
        obtain ⟨k, hk, rfl, HOw, HB⟩ := hrel
        obtain ⟨y0, y1⟩ := HU.out _ HB.out
        have hzB := HB.out.size
        have hk3 : k = 0 ∨ k = 1 ∨ k = 2 := by omega
        rcases hk3 with rfl | rfl | rfl
        · have hO := HOw.out
          simp only [twoL] at hO
          have HO := Lib.hid hO
          obtain ⟨sa, sc, rfl⟩ := own_shape hO
          clear hO HOw
          go_wp2_with (at_builtin; refine wpList_append_own _ rfl _ _ 80 rfl w.heap.size 3 i0 (.int .i64 0) 1 8 Try.underlying80 hi0 iz0 iz1 iz2 rfl (by decide) _ _ _ rfl HO.out ⟨b1, o1, none⟩ nx c1 (ints xs) rfl ?c0 ?c1 ?c2 ?c3 ?c4 ?c5 ?_)
          case c0 => have := HLx.out.1; omega
          case c1 => exact HC1.out _ HB.out
          case c2 => intro u hu; obtain ⟨z, _, rfl⟩ := List.mem_map.1 hu; rfl
          case c3 => unfold maxLen; omega
          case c4 => omega
          case c5 => exact hzB
          intro v' w5 hown' hgrow _
          have hown0 := HO.out
          have HB5 : Hid (Below w.heap.size w w5) := HB.out.grown hgrow hzB (fun q hq => (hown0.lt q hq).1)
          have HO5 : Hid (w5.ownsRow w.heap.size 3 1 v' (twoL nx ny 1) (ints (if 1 = 0 then [] else if 1 = 1 then xs else xs ++ ys))) := by
            show World.ownsRow _ _ _ _ _ _ _
            simpa [twoL, ints] using hown'
          clear hown' hgrow hown0 y0 y1 HO
          obtain ⟨a6, c6, rfl⟩ := own_shape HO5.out
          go_wp2_with fail
          go_roundw
          case rel => exact ⟨1, by omega, by go_num, HO5, HB5⟩
          case measure => simp [RowKit.intOf]
        · have hO := HOw.out
          simp only [twoL] at hO
          have HO := Lib.hid hO
          obtain ⟨sa, sc, rfl⟩ := own_shape hO
          clear hO HOw
          go_wp2_with (at_builtin; refine wpList_append_own _ rfl _ _ 80 rfl w.heap.size 3 i0 (.int .i64 0) 1 8 Try.underlying80 hi0 iz0 iz1 iz2 rfl (by decide) _ _ _ rfl HO.out ⟨b2, o2, none⟩ ny c2 (ints ys) rfl ?c0 ?c1 ?c2 ?c3 ?c4 ?c5 ?_)
          case c0 => have := HLx.out.2; omega
          case c1 => exact HC2.out _ HB.out
          case c2 => intro u hu; obtain ⟨z, _, rfl⟩ := List.mem_map.1 hu; rfl
          case c3 => unfold maxLen; omega
          case c4 => omega
          case c5 => exact hzB
          intro v' w5 hown' hgrow _
          have hown0 := HO.out
          have HB5 : Hid (Below w.heap.size w w5) := HB.out.grown hgrow hzB (fun q hq => (hown0.lt q hq).1)
          have HO5 : Hid (w5.ownsRow w.heap.size 3 1 v' (twoL nx ny 2) (ints (if 2 = 0 then [] else if 2 = 1 then xs else xs ++ ys))) := by
            show World.ownsRow _ _ _ _ _ _ _
            simpa [twoL, ints] using hown'
          clear hown' hgrow hown0 y0 y1 HO
          obtain ⟨a6, c6, rfl⟩ := own_shape HO5.out
          go_wp2_with fail
          go_roundw
          case rel => exact ⟨2, by omega, by go_num, HO5, HB5⟩
          case measure => simp [RowKit.intOf]
        · have hO := HOw.out
          simp only [twoL] at hO
          have HO := Lib.hid hO
          obtain ⟨sa, sc, rfl⟩ := own_shape hO
          clear hO HOw
          go_wp2_with fail
          go_ret
          exact ⟨_, rfl, by simpa using HO.out, HB.out⟩
end Go.Proofs.Ytehpeifaknbcnaa

namespace Go.Proofs.Ytehpeifaknbcnaa
open Go.RowKit
set_option linter.unusedVariables false
set_option linter.unusedSimpArgs false

theorem GrpsOwn.snocB {l u m u2 : Nat} {w2 wl w3 : World} {v x v' : Value} {vs : List Value} {xss : List (List Int)} {ys : List Int} (h : GrpsOwn l u w2 v vs xss) (hu : u ≤ m) (hlm : l ≤ m) (hx : IntsIn m u2 w2 x ys) (hu2 : u2 ≤ w2.heap.size) (hm : m ≤ w2.heap.size)
    (hwl : Below w2.heap.size w2 wl) (hg : wl.grownBy w3 v.ownBlock) (hrow : w3.ownsRow l 80 1 v' (xss.length + 1) (vs ++ [x])) (hat : v'.ownBlock = v.ownBlock ∨ v'.ownBlock = some wl.heap.size) : GrpsOwn l w3.heap.size w3 v' (vs ++ [x]) (xss ++ [ys]) := by
  have hsz : w2.heap.size ≤ w3.heap.size := Nat.le_trans hwl.size hg.size
  have hkeep : ∀ g, g < w2.heap.size → v.ownBlock ≠ some g → w3.heap[g]? = w2.heap[g]? := fun g h1 h2 => (hg.block g (Nat.lt_of_lt_of_le h1 hwl.size) (fun e => h2 e.symm)).trans (hwl.block g h1)
  have hvlt : ∀ g, v.ownBlock = some g → g < u := h.hi
  have hvs : ∀ i (h' : i < vs.length) g, vs[i].ownBlock = some g → g < u := fun i h' g hg' => (h.each i (by have := h.len; omega) h').2 g hg'
  have hxg : ∀ g, x.ownBlock = some g → m ≤ g ∧ g < w2.heap.size := fun g hg' => ⟨(hx.1.lt g hg').1, (hx.1.lt g hg').2⟩
  refine ⟨by simpa using hrow, fun g hg' => (hrow.lt g hg').2, by simp [h.len], fun i h1 h2 => ?_, fun i h2 g hg' => ?_, fun i j h1 h2 hne g hg' => ?_⟩
  · by_cases e : i < vs.length
    · have hi : i < xss.length := by have := h.len; omega
      have h3 := h.each i hi e
      rw [List.getElem_append_left e, List.getElem_append_left hi]
      exact ⟨own_block h3.1 (fun g hg' => hkeep g (h3.1.lt g hg').2 (fun e2 => h.out i e g hg' e2)), fun g hg' => by have := (h3.1.lt g hg').2; omega⟩
    · have e2 : i = vs.length := by simp at h2; omega
      have e3 : i = xss.length := by have := h.len; omega
      have e4 : (vs ++ [x])[i]'h2 = x := by subst e2; simp
      have e5 : (xss ++ [ys])[i]'h1 = ys := by subst e3; simp
      rw [e4, e5]
      exact ⟨own_base (own_block hx.1 (fun g hg' => hkeep g (hxg g hg').2 (fun e6 => by have := hvlt g e6; have := (hxg g hg').1; omega))) hlm, fun g hg' => by have := (hxg g hg').2; omega⟩
  · by_cases e : i < vs.length
    · rw [List.getElem_append_left e] at hg'
      rcases hat with h3 | h3
      · rw [h3]; exact h.out i e g hg'
      · rw [h3]; intro e2; have := hvs i e g hg'; have := hwl.size; simp at e2; omega
    · have e2 : i = vs.length := by simp at h2; omega
      have e4 : (vs ++ [x])[i]'h2 = x := by subst e2; simp
      rw [e4] at hg'
      rcases hat with h3 | h3
      · rw [h3]; intro e6; have := hvlt g e6; have := (hxg g hg').1; omega
      · rw [h3]; intro e6; have := (hxg g hg').2; have := hwl.size; simp at e6; omega
  · have hcase : ∀ (q : Nat) (hq : q < (vs ++ [x]).length), (∃ hq' : q < vs.length, (vs ++ [x])[q] = vs[q]) ∨ (q = vs.length ∧ (vs ++ [x])[q] = x) := fun q hq => by
      by_cases e : q < vs.length
      · exact .inl ⟨e, List.getElem_append_left e⟩
      · have e2 : q = vs.length := by simp at hq; omega
        exact .inr ⟨e2, by subst e2; simp⟩
    rcases hcase i h1 with ⟨a1, a2⟩ | ⟨a1, a2⟩ <;> rcases hcase j h2 with ⟨b1, b2⟩ | ⟨b1, b2⟩
    · rw [a2] at hg'; rw [b2]; exact h.apart i j a1 b1 hne g hg'
    · rw [a2] at hg'; rw [b2]; intro e; have := hvs i a1 g hg'; have := (hxg g e).1; omega
    · rw [a2] at hg'; rw [b2]; intro e; have := hvs j b1 g e; have := (hxg g hg').1; omega
    · omega

theorem GrpsOwn.noneB {l : Nat} {w : World} {v : Value} (h : w.ownsRow l 80 1 v 0 []) : GrpsOwn l w.heap.size w v [] [] :=
  ⟨h, fun g hg => (h.lt g hg).2, rfl, fun i h => absurd h (Nat.not_lt_zero _), fun i h => absurd h (Nat.not_lt_zero _), fun i j h => absurd h (Nat.not_lt_zero _)⟩
theorem GrpsOwn.laterB {l u : Nat} {w w' : World} {v : Value} {vs : List Value} {xss : List (List Int)} (h : GrpsOwn l u w v vs xss) (hb : Below w.heap.size w w') : GrpsOwn l u w' v vs xss :=
  ⟨own_later h.row hb, h.hi, h.len, fun i a b => (h.each i a b).later hb, h.out, h.apart⟩
theorem lit_grpsB {B : Nat} (w : World) (hB : B ≤ w.heap.size) : (w.alloc (.cells #[] 80)).ownsRow B 80 1 (.slice (some ⟨w.heap.size, 0, none⟩) 0 0) 0 [] := by
  have h := World.ownsRow_lit (base := B) (e := 80) (size := 1) w #[] 0 hB (by decide) (by simp)
  simpa using h

theorem GrpsOwn.inB {l u u' : Nat} {w w' : World} {v : Value} {vs : List Value} {xss : List (List Int)} (h : GrpsOwn l u w v vs xss) (hb : Below w.heap.size w w') (hu : u ≤ u') : GrpsOwn l u' w' v vs xss :=
  ⟨own_later h.row hb, fun g hg => Nat.lt_of_lt_of_le (h.hi g hg) hu, h.len, fun i a b => ((h.each i a b).later hb).base (Nat.le_refl _) hu, h.out, h.apart⟩
theorem GrpsOwn.baseB {l l' u : Nat} {w : World} {v : Value} {vs : List Value} {xss : List (List Int)} (h : GrpsOwn l u w v vs xss) (hl : l' ≤ l) : GrpsOwn l' u w v vs xss :=
  ⟨own_base h.row hl, h.hi, h.len, fun i a b => (h.each i a b).base hl (Nat.le_refl _), h.out, h.apart⟩
end Go.Proofs.Ytehpeifaknbcnaa
