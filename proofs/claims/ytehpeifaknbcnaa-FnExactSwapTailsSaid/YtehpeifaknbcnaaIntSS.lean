import Derived.Test.YtehpeifaknbcnaaIntsX
import Derived.LoopTactic
import Derived.WalkLawsBesides
import Derived.BigQuiet
import Derived.Deep.RegionHeld3
import Derived.Deep.QuietTactic
namespace Go.Proofs.Ytehpeifaknbcnaa
open Go.RowKit
set_option linter.unusedVariables false
set_option linter.unusedSimpArgs false

def preL (xss : List (List Int)) : Nat → Nat
  | 0 => 0
  | i + 1 => preL xss i + (xss.getD i []).length
def totL (xss : List (List Int)) : Nat := preL xss xss.length
theorem preL_succ {xss : List (List Int)} {i : Nat} (h : i < xss.length) : preL xss (i + 1) = preL xss i + xss[i].length := by simp [preL, h]
theorem preL_mono (xss : List (List Int)) : ∀ d i, preL xss i ≤ preL xss (i + d)
  | 0, i => Nat.le_refl _
  | d + 1, i => by have := preL_mono xss d i; rw [← Nat.add_assoc]; simp only [preL]; omega
theorem preL_le {xss : List (List Int)} {i : Nat} (h : i ≤ xss.length) : preL xss i ≤ totL xss := by
  have := preL_mono xss (xss.length - i) i
  rw [show i + (xss.length - i) = xss.length by omega] at this
  exact this
def GrpsSmall (xss : List (List Int)) : Prop := xss.length ≤ 1048576 ∧ totL xss ≤ 1048576
def GrpsAt (w : World) (v : Value) (xss : List (List Int)) : Prop := ∃ vs : List Value, RowAt w v vs ∧ vs.length = xss.length ∧ ∀ i (h : i < xss.length) (h' : i < vs.length), RowAt w vs[i] (ints xss[i])
theorem GrpsAt.below {w w' : World} {v : Value} {xss : List (List Int)} (h : GrpsAt w v xss) {B : Nat} (hB : B = w.heap.size) (hb : Below B w w') : GrpsAt w' v xss := by
  obtain ⟨vs, h1, h2, h3⟩ := h
  exact ⟨vs, RowAt.below h1 hB hb, h2, fun i a b => RowAt.below (h3 i a b) hB hb⟩
structure GrpsOwn (l u : Nat) (w : World) (v : Value) (vs : List Value) (xss : List (List Int)) : Prop where
  row : w.ownsRow l 80 1 v xss.length vs
  hi : ∀ g, v.ownBlock = some g → g < u
  len : vs.length = xss.length
  each : ∀ i (h : i < xss.length) (h' : i < vs.length), IntsIn l u w vs[i] xss[i]
  out : ∀ i (h' : i < vs.length) g, vs[i].ownBlock = some g → v.ownBlock ≠ some g
  apart : ∀ i j (h1 : i < vs.length) (h2 : j < vs.length), i ≠ j → ∀ g, vs[i].ownBlock = some g → vs[j].ownBlock ≠ some g
def GrpsIn (l u : Nat) (w : World) (v : Value) (xss : List (List Int)) : Prop := ∃ vs, GrpsOwn l u w v vs xss
theorem GrpsIn.at {l u : Nat} {w : World} {v : Value} {xss : List (List Int)} (h : GrpsIn l u w v xss) : GrpsAt w v xss := by
  obtain ⟨vs, h⟩ := h
  exact ⟨vs, rowAt_own h.row, h.len, fun i a b => (h.each i a b).at⟩
theorem GrpsIn.later {l u : Nat} {w w' : World} {v : Value} {xss : List (List Int)} (h : GrpsIn l u w v xss) (hb : Below w.heap.size w w') : GrpsIn l u w' v xss := by
  obtain ⟨vs, h⟩ := h
  exact ⟨vs, own_later h.row hb, h.hi, h.len, fun i a b => (h.each i a b).later hb, h.out, h.apart⟩
theorem GrpsIn.out {l u lo hi : Nat} {w w' : World} {v : Value} {xss : List (List Int)} (h : GrpsIn l u w v xss) (ho : Out lo hi w w') (hs : u ≤ lo ∨ hi ≤ l) : GrpsIn l u w' v xss := by
  obtain ⟨vs, h⟩ := h
  exact ⟨vs, own_out h.row ho (fun g hg => by have := h.hi g hg; have := (h.row.lt g hg).1; omega), h.hi, h.len, fun i a b => (h.each i a b).out ho hs, h.out, h.apart⟩
theorem GrpsIn.base {l l' u u' : Nat} {w : World} {v : Value} {xss : List (List Int)} (h : GrpsIn l u w v xss) (hl : l' ≤ l) (hu : u ≤ u') : GrpsIn l' u' w v xss := by
  obtain ⟨vs, h⟩ := h
  exact ⟨vs, own_base h.row hl, fun g hg => Nat.lt_of_lt_of_le (h.hi g hg) hu, h.len, fun i a b => (h.each i a b).base hl hu, h.out, h.apart⟩
theorem IntSS_open {w : World} {v : Value} {xss : List (List Int)} (h : GrpsAt w v xss) : ∃ a c, v = .slice a xss.length c := by
  obtain ⟨vs, ⟨a, c, hv, _⟩, h2, _⟩ := h
  exact ⟨a, c, by rw [hv, h2]⟩
def GrpsMk (k : Int) (w : World) (v : Value) (xss : List (List Int)) : Prop := ∃ vs : List Value, RowAt w v vs ∧ vs.length = xss.length ∧ ∀ i (h : i < xss.length) (h' : i < vs.length), IntsMk (k + (preL xss i : Int)) w vs[i] xss[i]
theorem GrpsMk.later {k : Int} {w w' : World} {v : Value} {xss : List (List Int)} (h : GrpsMk k w v xss) (hb : Below w.heap.size w w') : GrpsMk k w' v xss := by
  obtain ⟨vs, h1, h2, h3⟩ := h
  exact ⟨vs, RowAt.below h1 rfl hb, h2, fun i a b => (h3 i a b).later hb⟩

theorem keepG2 {W w w' : World} {p0 p1 : Addr} {x0 x1 : Value} (hb : Below w.heap.size w w') (h : w.cell? p0 = some x0 ∧ w.cell? p1 = some x1 ∧ Below W.heap.size W w) : w'.cell? p0 = some x0 ∧ w'.cell? p1 = some x1 ∧ Below W.heap.size W w' := by
  obtain ⟨h0, h1, hl⟩ := h
  exact ⟨bkeep hb h0, bkeep hb h1, hl.trans (hb.mono hl.size)⟩
theorem belG2 {W w : World} {p0 p1 : Addr} {x0 x1 : Value} (h : w.cell? p0 = some x0 ∧ w.cell? p1 = some x1 ∧ Below W.heap.size W w) : Below W.heap.size W w := h.2.2
theorem rowAt_cell {w : World} {a : Option Addr} {n c : Nat} {vs : List Value} (h : RowAt w (.slice a n c) vs) (i : Nat) (hi : i < vs.length) : ∃ b off, a = some ⟨b, off, none⟩ ∧ b < w.heap.size ∧ w.cell? ⟨b, off + i, none⟩ = some vs[i] := by
  obtain ⟨a2, c2, hv, _, _, h3⟩ := h
  simp at hv
  obtain ⟨rfl, -, rfl⟩ := hv
  exact h3 i _ (List.getElem?_eq_getElem hi)

set_option maxRecDepth 100000 in
set_option maxHeartbeats 1000000 in
theorem eqIntSS_x (v v' : Value) (xss : List (List Int)) (w : World) (hr : GrpsAt w v xss) (hr' : GrpsAt w v' xss) (hs : GrpsSmall xss) :
    Calls Try.prog 28 #[v, v'] w fun e w' => e = .returned (.bool true) ∧ Below w.heap.size w w' := by
  have hsz := hs.1
  obtain ⟨vs, h1, h2, h3⟩ := hr
  obtain ⟨vs', h1', h2', h3'⟩ := hr'
  obtain ⟨a, c, hv⟩ : ∃ a c, v = .slice a xss.length c := by obtain ⟨a, c, hv, _⟩ := h1; exact ⟨a, c, by rw [hv, h2]⟩
  obtain ⟨a', c', hv'⟩ : ∃ a c, v' = .slice a xss.length c := by obtain ⟨a, c, hv, _⟩ := h1'; exact ⟨a, c, by rw [hv, h2']⟩
  subst hv
  subst hv'
  have HR := Lib.hid h1
  have HR' := Lib.hid h1'
  have HE := Lib.hid (fun i (h : i < xss.length) W (hW : Below w.heap.size w W) => eqIntS_x (vs[i]'(by omega)) (vs'[i]'(by omega)) xss[i] W (RowAt.below (h3 i h (by omega)) rfl hW) (RowAt.below (h3' i h (by omega)) rfl hW) (by have e := preL_succ h; have := preL_le (xss := xss) (i := i + 1) (by omega); have := hs.2; unfold IntsSmall; omega))
  clear h1 h1' h3 h3' hs
  go_enter Try.func28, Try.ntmps28
  go_wp2
  go_loopw [5] (fun i wr => ∃ k : Nat, k ≤ xss.length ∧ i = .int .i64 k ∧ Hid (Below w.heap.size w wr)) (fun i _ => xss.length - (RowKit.intOf i).toNat)
  case atStart => exact ⟨0, Nat.zero_le _, rfl, Below.refl _ _⟩
  case round =>
    obtain ⟨k, hk, rfl, HB⟩ := hrel
    by_cases hlt : k < xss.length
    · obtain ⟨b, off, rfl, hbl, y⟩ := rowAt_cell (RowAt.below HR.out rfl HB.out) k (by omega)
      obtain ⟨b', off', rfl, hbl', z⟩ := rowAt_cell (RowAt.below HR'.out rfl HB.out) k (by omega)
      have HEq := Lib.hid (HE.out k hlt)
      have hk1 : (k : Int) < (xss.length : Int) := by omega
      have hbel := HB.out
      generalize vs[k] = x at *
      generalize vs'[k] = x' at *
      go_wp2_with fail
      go_region_held3 (fun w' => w'.cell? ⟨b, off + k, none⟩ = some x ∧ w'.cell? ⟨b', off' + k, none⟩ = some x' ∧ Below w.heap.size w w')
        (first | (exact ⟨y, z, hbel.drew⟩) | (exact keepG2 hb (by assumption)))
        ((go_at_call 71; refine (HEq.out _ (belG2 (by assumption))).mono ?_; rintro e w' ⟨rfl, hb⟩))
      obtain ⟨_, _, qb⟩ := (by assumption : _ ∧ _)
      clear y z hbel HB
      go_wp2_with fail
      go_roundw
      case rel => exact ⟨k + 1, by omega, by go_num, qb⟩
      case measure => simp [RowKit.intOf]; omega
    · go_wp2
      go_ret
      exact ⟨rfl, HB.out⟩

set_option maxRecDepth 100000 in
set_option maxHeartbeats 2000000 in
theorem markIntSS_x (v : Value) (xss : List (List Int)) (k : Int) (l u : Nat) (w : World) (hr : GrpsIn l u w v xss) (hl : l ≤ w.heap.size) (_hu : u ≤ w.heap.size) (hs : GrpsSmall xss) (hk0 : 0 ≤ k) (hk : k ≤ 1000000000) :
    Calls Try.prog 38 #[v, .int .i64 k] w fun e w' => e = .returned (.int .i64 (k + (totL xss : Int))) ∧ GrpsMk k w' v xss ∧ Out l u w w' := by
  obtain ⟨vs, h⟩ := hr
  have hsz := hs.1
  have htot := hs.2
  have hlen := h.len
  obtain ⟨a, c, rfl⟩ := own_shape h.row
  have HG := Lib.hid h
  have HRow : Hid (∀ W, Out l u w W → (∀ g, (Value.slice a xss.length c).ownBlock = some g → W.heap[g]? = w.heap[g]?) → W.ownsRow l 80 1 (.slice a xss.length c) xss.length vs) := fun W _ hg => own_block h.row hg
  have HLe : Hid (∀ i, i ≤ xss.length → preL xss i ≤ totL xss) := fun i hi => preL_le hi
  have HPs : Hid (∀ i (h : i < xss.length), preL xss (i + 1) = preL xss i + xss[i].length) := fun i h => preL_succ h
  have HTot : Hid (totL xss = preL xss xss.length) := rfl
  clear h hs
  go_enter Try.func38, Try.ntmps38
  go_wp2
  go_loopw [1, 5] (fun q i wr => ∃ j : Nat, j ≤ xss.length ∧ i = .int .i64 j ∧ q = .int .i64 (k + (preL xss j : Int)) ∧ Hid (Out l u w wr) ∧ Hid (∀ g, (Value.slice a xss.length c).ownBlock = some g → wr.heap[g]? = w.heap[g]?) ∧
      Hid (∀ i (h : i < xss.length) (h' : i < vs.length), i < j → IntsMk (k + (preL xss i : Int)) wr vs[i] xss[i]) ∧ Hid (∀ i (h : i < xss.length) (h' : i < vs.length), j ≤ i → IntsIn l u wr vs[i] xss[i]))
    (fun _ i _ => xss.length - (RowKit.intOf i).toNat)
  case atStart => exact ⟨0, Nat.zero_le _, rfl, by simp [preL], Out.refl _ _ _, (fun _ _ => rfl), (fun i h h' hj => by omega), (fun i h h' _ => HG.out.each i h h')⟩
  case round =>
    obtain ⟨j, hj, rfl, rfl, HO, HB, HM, HI⟩ := hrel
    have hpj := HLe.out j hj
    have hwz := HO.out.below.size
    by_cases hlt : j < xss.length
    · have hjv : j < vs.length := by omega
      have hin := HI.out j hlt hjv (Nat.le_refl _)
      have hps := HPs.out j hlt
      have hpj1 := HLe.out (j + 1) (by omega)
      have hsm : IntsSmall xss[j] := by unfold IntsSmall; omega
      obtain ⟨b, off, rfl, hbl, y⟩ := rowAt_cell (rowAt_own (HRow.out wr HO.out HB.out)) j hjv
      have HMk := Lib.hid (markIntS_own vs[j] xss[j] (k + (preL xss j : Int)) l wr hin.1 hsm (by omega) (by omega))
      have HSame : Hid (∀ w', wr.grownBy w' vs[j].ownBlock → ∀ g, vs[j].ownBlock ≠ some g → g < wr.heap.size → w'.heap[g]? = wr.heap[g]?) := fun w' hg g hne hgl => hg.block g hgl (fun e => hne e.symm)
      have hk1 : (j : Int) < (xss.length : Int) := by omega
      have HOj : Hid (∀ w', wr.grownBy w' vs[j].ownBlock → Out l u wr w') := fun w' hg => Out.of_grown hg (by have := HO.out.below.size; omega) (fun g hg' => ⟨(hin.1.lt g hg').1, hin.2 g hg'⟩)
      have HLt : Hid (∀ i (h : i < vs.length) (hne : i ≠ j) g, vs[i].ownBlock = some g → vs[j].ownBlock ≠ some g) := fun i h hne g hg e => HG.out.apart i j h hjv hne g hg e
      have HLr : Hid (∀ g, (Value.slice (some ⟨b, off, none⟩) xss.length c).ownBlock = some g → vs[j].ownBlock ≠ some g ∧ g < wr.heap.size) := fun g hg => ⟨fun e => HG.out.out j hjv g e hg, Nat.lt_of_lt_of_le (HG.out.row.lt g hg).2 hwz⟩
      have HJlt : Hid (∀ g, vs[j].ownBlock = some g → g < wr.heap.size) := fun g hg => (hin.1.lt g hg).2
      clear hin hsm
      go_wp2_with fail
      go_at_call 82
      refine HMk.out.mono ?_
      rintro e w2 ⟨rfl, ho2, hg2⟩
      have HMj : Hid (IntsMk (k + (preL xss j : Int)) w2 vs[j] xss[j]) := rowAt_own (n := xss[j].length) ho2
      have HO2 : Hid (Out l u w w2) := HO.out.trans (HOj.out w2 hg2)
      have HB2 : Hid (∀ g, (Value.slice (some ⟨b, off, none⟩) xss.length c).ownBlock = some g → w2.heap[g]? = w.heap[g]?) := fun g hg => (HSame.out w2 hg2 g (HLr.out g hg).1 (HLr.out g hg).2).trans (HB.out g hg)
      have HI2 : Hid (∀ i (h : i < xss.length) (h' : i < vs.length), j + 1 ≤ i → IntsIn l u w2 vs[i] xss[i]) := fun i h h' hji => by
        have h1 := HI.out i h h' (by omega)
        exact ⟨own_block h1.1 (fun g hg => HSame.out w2 hg2 g (HLt.out i h' (by omega) g hg) (h1.1.lt g hg).2), h1.2⟩
      have HM2 : Hid (∀ i (h : i < xss.length) (h' : i < vs.length), i < j + 1 → IntsMk (k + (preL xss i : Int)) w2 vs[i] xss[i]) := fun i h h' hij => by
        by_cases e : i = j
        · subst e; exact HMj.out
        · have h1 := HM.out i h h' (by omega)
          cases hvj : vs[j].ownBlock with
          | none => exact RowAt.out h1 (Out.of_grown (lo := wr.heap.size) (hi := wr.heap.size) hg2 (Nat.le_refl _) (fun g hg => by rw [hvj] at hg; cases hg)) (fun g _ => by omega)
          | some gj =>
            have hgj : gj < wr.heap.size := HJlt.out gj hvj
            exact RowAt.out h1 (Out.of_grown (lo := gj) (hi := gj + 1) hg2 (by omega) (fun g hg => by rw [hvj] at hg; cases hg; omega)) (fun g hg => by
              have := HLt.out i h' e g hg
              rw [hvj] at this
              have h2 : g ≠ gj := fun e2 => this (by rw [e2])
              omega)
      have HKn : Hid (k + (preL xss j : Int) + (xss[j].length : Int) = k + (preL xss (j + 1) : Int)) := by show _ = _; rw [hps]; push_cast; omega
      clear ho2 hg2 HM HI HO HB HMj
      go_wp2_with fail
      go_roundw
      case rel => exact ⟨j + 1, by omega, by go_num, by rw [HKn.out], HO2, HB2, HM2, HI2⟩
      case measure => simp [RowKit.intOf]; omega
    · obtain rfl : j = xss.length := by omega
      go_wp2_with fail
      go_ret
      exact ⟨by rw [HTot.out]; rfl, ⟨vs, rowAt_own (HRow.out wr HO.out HB.out), hlen, fun i h h' => HM.out i h h' h⟩, HO.out⟩

set_option maxRecDepth 100000 in
set_option maxHeartbeats 2000000 in
theorem heldIntSS_x (v : Value) (xss : List (List Int)) (k : Int) (w : World) (hr : GrpsMk k w v xss) (hs : GrpsSmall xss) (hk0 : 0 ≤ k) (hk : k ≤ 1000000000) :
    Calls Try.prog 45 #[v, .int .i64 k] w fun e w' => e = .returned (.int .i64 (k + (totL xss : Int))) ∧ Below w.heap.size w w' := by
  have hsz := hs.1
  have htot := hs.2
  obtain ⟨vs, h1, h2, h3⟩ := hr
  obtain ⟨a, c, hv⟩ : ∃ a c, v = .slice a xss.length c := by obtain ⟨a, c, hv, _⟩ := h1; exact ⟨a, c, by rw [hv, h2]⟩
  subst hv
  have HR := Lib.hid h1
  have HLe : Hid (∀ i, i ≤ xss.length → preL xss i ≤ totL xss) := fun i hi => preL_le hi
  have HPs : Hid (∀ i (h : i < xss.length), preL xss (i + 1) = preL xss i + xss[i].length) := fun i h => preL_succ h
  have HTot : Hid (totL xss = preL xss xss.length) := rfl
  have HH := Lib.hid (fun i (h : i < xss.length) W (hW : Below w.heap.size w W) => heldIntS_x (vs[i]'(by omega)) xss[i] (k + (preL xss i : Int)) W ((h3 i h (by omega)).later hW) (by have e := preL_succ h; have := preL_le (xss := xss) (i := i + 1) (by omega); unfold IntsSmall; omega) (by omega) (by have := preL_le (xss := xss) (i := i) (by omega); omega))
  clear h1 h3 hs
  go_enter Try.func45, Try.ntmps45
  go_wp2
  go_loopw [1, 5] (fun q i wr => ∃ j : Nat, j ≤ xss.length ∧ i = .int .i64 j ∧ q = .int .i64 (k + (preL xss j : Int)) ∧ Hid (Below w.heap.size w wr)) (fun _ i _ => xss.length - (RowKit.intOf i).toNat)
  case atStart => exact ⟨0, Nat.zero_le _, rfl, by simp [preL], Below.refl _ _⟩
  case round =>
    obtain ⟨j, hj, rfl, rfl, HB⟩ := hrel
    by_cases hlt : j < xss.length
    · obtain ⟨b, off, rfl, hbl, y⟩ := rowAt_cell (RowAt.below HR.out rfl HB.out) j (by omega)
      have HHj := Lib.hid (HH.out j hlt _ HB.out)
      have hps := HPs.out j hlt
      have hk1 : (j : Int) < (xss.length : Int) := by omega
      have HKn : Hid (k + (preL xss j : Int) + (xss[j].length : Int) = k + (preL xss (j + 1) : Int)) := by show _ = _; rw [hps]; push_cast; omega
      have hd : decide (k + (preL xss j : Int) + (xss[j].length : Int) < 0) = false := decide_eq_false (by omega)
      clear hps
      generalize vs[j] = x at *
      go_wp2_with fail
      go_at_call 89
      refine HHj.out.mono ?_
      rintro e w2 ⟨rfl, hb2⟩
      have HB2 : Hid (Below w.heap.size w w2) := HB.out.trans (hb2.mono HB.out.size)
      clear hb2 HB
      go_wp2_with fail
      go_roundw
      case rel => exact ⟨j + 1, by omega, by go_num, by rw [HKn.out], HB2⟩
      case measure => simp [RowKit.intOf]; omega
    · obtain rfl : j = xss.length := by omega
      go_wp2_with fail
      go_ret
      exact ⟨by rw [HTot.out]; rfl, HB.out⟩
end Go.Proofs.Ytehpeifaknbcnaa
