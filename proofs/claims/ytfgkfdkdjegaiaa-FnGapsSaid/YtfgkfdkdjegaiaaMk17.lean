/-
  JOINED TEXTS, each under its own namespace line: NetBase, Mark, MarkNet, MarkLines.
-/
import Derived.Test.YtfgkfdkdjegaiaaMk12
import Derived.Test.YtfgkfdkdjegaiaaMk16
import Derived.Test.YtfgkfdkdjegaiaaMk10
import Derived.Laws.Strings
namespace Go.Proofs.Ytfgkfdkdjegaiaa
open Go.RowKit
set_option linter.unusedVariables false

set_option maxRecDepth 100000 in
theorem netAt_of {H : Type} {enc : TypeId × Value → H} {W : World} {base base' : Nat} {spare : Nat → Bool} {held : Bool} {v : Value} {d : DataW H} {p : List MemPlace}
    (hv : Value.okWide Try.prog W .any base 57 v) (h : DataW.Trod enc Try.prog W base' spare held 57 v d p) : ∃ n, NetAt W v n ∧ NetFits n :=
  net_trod Try.underlying57 (by kernel_rfl) (by kernel_rfl) Try.underlying24 Try.underlying9 (by kernel_rfl) Try.underlying55 Try.underlying120 (by kernel_rfl) (by kernel_rfl)
    Try.underlying9 Try.underlying31 Try.underlying31 Try.underlying3 (by kernel_rfl) hv h

theorem keepX {W w w' : World} {p0 p1 p2 p3 : Addr} {x0 x1 x2 x3 : Value} (hb : Below w.heap.size w w') (h : w.cell? p0 = some x0 ∧ w.cell? p1 = some x1 ∧ w.cell? p2 = some x2 ∧ w.cell? p3 = some x3 ∧ Below W.heap.size W w) :
    w'.cell? p0 = some x0 ∧ w'.cell? p1 = some x1 ∧ w'.cell? p2 = some x2 ∧ w'.cell? p3 = some x3 ∧ Below W.heap.size W w' := by
  obtain ⟨h0, h1, h2, h3, h4⟩ := h
  exact ⟨bkeep hb h0, bkeep hb h1, bkeep hb h2, bkeep hb h3, h4.trans (hb.mono h4.size)⟩
theorem belX {W w : World} {p0 p1 p2 p3 : Addr} {x0 x1 x2 x3 : Value} (h : w.cell? p0 = some x0 ∧ w.cell? p1 = some x1 ∧ w.cell? p2 = some x2 ∧ w.cell? p3 = some x3 ∧ Below W.heap.size W w) : Below W.heap.size W w := h.2.2.2.2

end Go.Proofs.Ytfgkfdkdjegaiaa

namespace Go.Proofs.Ytfgkfdkdjegaiaa
open Go.RowKit
set_option linter.unusedVariables false

/-! marks of numbers -/
end Go.Proofs.Ytfgkfdkdjegaiaa

namespace Go.Proofs.Ytfgkfdkdjegaiaa
open Go.RowKit
set_option linter.unusedVariables false

end Go.Proofs.Ytfgkfdkdjegaiaa

namespace Go.Proofs.Ytfgkfdkdjegaiaa
open Go.RowKit
set_option linter.unusedVariables false

/-- a line whose rows are the call's own, whatever they hold -/
def LineShape (B hi : Nat) (w : World) (g o p q : Nat) : Prop :=
  ∃ (nm : ByteArray) (sv rv : Value) (s r : List Int), w.cell? ⟨g, o, none⟩ = some (.string nm) ∧ w.cell? ⟨g, o + 1, none⟩ = some sv ∧ w.cell? ⟨g, o + 2, none⟩ = some rv ∧ s.length = p ∧ r.length = q ∧
    w.ownsRow B 3 1 sv s.length (ints s) ∧ w.ownsRow B 3 1 rv r.length (ints r) ∧ sv.ownBlock ≠ some g ∧ rv.ownBlock ≠ some g ∧ (∀ b, sv.ownBlock = some b → b < hi) ∧ ∀ b, rv.ownBlock = some b → b < hi
theorem LineOwn.shape {B hi : Nat} {w : World} {g o : Nat} {l : LineD} (h : LineOwn B w g o l) (hh : w.heap.size ≤ hi) : LineShape B hi w g o l.stops.length l.runs.length := by
  obtain ⟨sv, rv, c0, c1, c2, r1, r2, n1, n2⟩ := h
  exact ⟨_, sv, rv, _, _, c0, c1, c2, rfl, rfl, r1, r2, n1, n2, fun b hb => Nat.lt_of_lt_of_le (r1.lt b hb).2 hh, fun b hb => Nat.lt_of_lt_of_le (r2.lt b hb).2 hh⟩
theorem LineShape.later {B hi : Nat} {w w' : World} {g o p q : Nat} (h : LineShape B hi w g o p q) (hb : Below w.heap.size w w') : LineShape B hi w' g o p q := by
  obtain ⟨nm, sv, rv, s, r, c0, c1, c2, e1, e2, r1, r2, rest⟩ := h
  exact ⟨nm, sv, rv, s, r, bkeep hb c0, bkeep hb c1, bkeep hb c2, e1, e2, own_later r1 hb, own_later r2 hb, rest⟩
theorem LineShape.named {B hi : Nat} {w : World} {g o p q : Nat} (h : LineShape B hi w g o p q) (i : Nat) (x : ByteArray) (h1 : i ≠ o + 1) (h2 : i ≠ o + 2) : LineShape B hi (w.setCell ⟨g, i, none⟩ (.string x)) g o p q := by
  obtain ⟨nm, sv, rv, s, r, c0, c1, c2, e1, e2, r1, r2, n1, n2, rest⟩ := h
  by_cases hi : i = o
  · subst hi
    exact ⟨x, sv, rv, s, r, set_same c0, (set_other h1).trans c1, (set_other h2).trans c2, e1, e2, own_other r1 n1 _, own_other r2 n2 _, n1, n2, rest⟩
  · exact ⟨nm, sv, rv, s, r, (set_other hi).trans c0, (set_other h1).trans c1, (set_other h2).trans c2, e1, e2, own_other r1 n1 _, own_other r2 n2 _, n1, n2, rest⟩
theorem gcell {w w' : World} {row : Option Nat} (hg : w.grownBy w' row) {g o : Nat} {x : Value} (h : w.cell? ⟨g, o, none⟩ = some x) (hne : row ≠ some g) : w'.cell? ⟨g, o, none⟩ = some x :=
  hg.cell h (fun e => hne e.symm)
theorem LineShape.grown {B hi : Nat} {w w' : World} {g o p q : Nat} {row : Option Nat} (h : LineShape B hi w g o p q) (hg : w.grownBy w' row) (hne : row ≠ some g)
    (hs : ∀ v i, (i = 1 ∨ i = 2) → w.cell? ⟨g, o + i, none⟩ = some v → v.ownBlock = none ∨ v.ownBlock ≠ row) : LineShape B hi w' g o p q := by
  obtain ⟨nm, sv, rv, s, r, c0, c1, c2, e1, e2, r1, r2, rest⟩ := h
  exact ⟨nm, sv, rv, s, r, gcell hg c0 hne, gcell hg c1 hne, gcell hg c2 hne, e1, e2, r1.kept hg (hs sv 1 (.inl rfl) c1), r2.kept hg (hs rv 2 (.inr rfl) c2), rest⟩
theorem RowsApart.grown {w w' : World} {g n : Nat} {row : Option Nat} (h : RowsApart w g n) (hg : w.grownBy w' row) (hne : row ≠ some g) (hlt : g < w.heap.size) : RowsApart w' g n :=
  h.of_cells fun o => World.cell?_of_block (w := w) (a := ⟨g, o, none⟩) (hg.block g hlt (fun e => hne e.symm))

def LinesShape (B hi : Nat) (w : World) (v : Value) (ls : List LineD) : Prop :=
  ∃ g c cur, v = .slice (some ⟨g, 0, none⟩) ls.length c ∧ B ≤ g ∧ g < hi ∧ w.heap[g]? = some (.cells cur 98 (0, 0)) ∧ ls.length ≤ c ∧ c ≤ maxLen ∧ (∀ j (hj : j < ls.length), LineShape B hi w g (j * 3) ls[j].stops.length ls[j].runs.length) ∧ RowsApart w g ls.length
theorem LinesOwn.shape {B hi : Nat} {w : World} {v : Value} {ls : List LineD} (h : LinesOwn B w v ls) (hh : w.heap.size ≤ hi) : LinesShape B hi w v ls := by
  obtain ⟨g, c, cur, hv, hg, hblk, hc1, hc2, hc3, hall, hap⟩ := h
  exact ⟨g, c, cur, hv, hg, Nat.lt_of_lt_of_le (Array.getElem?_eq_some_iff.1 hblk).1 hh, hblk, hc1, hc2, fun j hj => (hall j _ (List.getElem?_eq_getElem hj)).shape hh, hap⟩
theorem LinesShape.later {B hi : Nat} {w w' : World} {v : Value} {ls : List LineD} (h : LinesShape B hi w v ls) (hb : Below w.heap.size w w') : LinesShape B hi w' v ls := by
  obtain ⟨g, c, cur, hv, hg, hgh, hblk, hc1, hc2, hall, hap⟩ := h
  have hlt := (Array.getElem?_eq_some_iff.1 hblk).1
  exact ⟨g, c, cur, hv, hg, hgh, (hb.block g hlt).trans hblk, hc1, hc2, fun j hj => (hall j hj).later hb, hap.of_cells fun o => hb.cell (p := ⟨g, o, none⟩) hlt⟩
theorem LinesShape.grown {B hi : Nat} {w w' : World} {v : Value} {ls : List LineD} {row : Option Nat} (h : LinesShape B hi w v ls) (hg : w.grownBy w' row) (hr : ∀ b, row = some b → b < B) : LinesShape B hi w' v ls := by
  obtain ⟨g, c, cur, hv, hgB, hgh, hh, h1, h2, h4, h5⟩ := h
  have hglt := (Array.getElem?_eq_some_iff.1 hh).1
  have hne : row ≠ some g := fun e => by have := hr g e; omega
  refine ⟨g, c, cur, hv, hgB, hgh, (hg.block g hglt (fun e => hne e.symm)).trans hh, h1, h2, fun j hj => ?_, h5.grown hg hne hglt⟩
  obtain ⟨nm, sv, rv, s, r, c0, c1, c2, e1, e2, r1, r2, rest⟩ := h4 j hj
  have hk : ∀ (x : Value) (zs : List Value) (q : Nat), w.ownsRow B 3 1 x q zs → x.ownBlock = none ∨ x.ownBlock ≠ row := fun x zs q hx => by
    by_cases hv : x.ownBlock = none
    · exact .inl hv
    · refine .inr fun e => ?_
      obtain ⟨b, hb⟩ := Option.ne_none_iff_exists'.1 hv
      have := (hx.lt b hb).1
      rw [hb] at e
      have := hr b e.symm
      omega
  exact ⟨nm, sv, rv, s, r, gcell hg c0 hne, gcell hg c1 hne, gcell hg c2 hne, e1, e2, r1.kept hg (hk _ _ _ r1), r2.kept hg (hk _ _ _ r2), rest⟩

def rowTot (ls : List LineD) : Nat := (ls.map fun l => 1 + l.stops.length + l.runs.length).sum
theorem rowTot_take (ls : List LineD) (k : Nat) (h : k < ls.length) : rowTot (ls.take (k + 1)) = rowTot (ls.take k) + (1 + (ls[k]'h).stops.length + (ls[k]'h).runs.length) := by
  rw [List.take_succ_eq_append_getElem h]; simp only [rowTot, List.map_append, List.sum_append, List.map_cons, List.map_nil, List.sum_cons, List.sum_nil]; omega
theorem rowTot_le (ls : List LineD) : rowTot ls ≤ ls.length + lineTot ls := by
  induction ls with
  | nil => simp [rowTot, lineTot]
  | cons l ls ih => simp [rowTot, lineTot, lineSz] at *; omega
theorem rowTot_take_le (ls : List LineD) (k : Nat) : rowTot (ls.take k) ≤ rowTot ls := by
  have : rowTot ls = rowTot (ls.take k) + rowTot (ls.drop k) := by
    conv => lhs; rw [← List.take_append_drop k ls]
    simp only [rowTot, List.map_append, List.sum_append]
  omega

set_option maxRecDepth 100000 in
set_option maxHeartbeats 2000000 in
theorem markLineS_own (v : Value) (ls : List LineD) (k B hi : Nat) (w : World) (hr : LinesShape B hi w v ls) (hn : ls.length + lineTot ls ≤ 1048576) (hk0 : 0 < k) (hk : k ≤ 2097152) :
    Calls Try.prog 93 #[v, .int .i64 k] w fun e w' => e = .returned (.int .i64 ((k + rowTot ls : Nat) : Int)) ∧ Out B hi w w' := by
  obtain ⟨g, c, cur, rfl, hg, hghi, hblk, hc1, hc2, hsh, hap⟩ := hr
  have hglt : g < w.heap.size := (Array.getElem?_eq_some_iff.1 hblk).1
  have hfz : ∀ o, w.frozen? ⟨g, o, none⟩ = false := fun o => by simp [World.frozen?, hblk]
  have HMk := Lib.hid (fun W j (h0 : 0 < j) (h : j ≤ 4194304) => markText_any j W h0 (by omega))
  have hrt := rowTot_le ls
  have HSh := Lib.hid hsh
  have HAp := Lib.hid hap
  clear hap hblk hsh
  go_enter Try.func93, Try.ntmps93
  go_wp2
  go_loopw [1, 5] (fun q i wr => ∃ j : Nat, j ≤ ls.length ∧ i = .int .i64 j ∧ q = .int .i64 ((k + rowTot (ls.take j) : Nat) : Int) ∧ Hid (∀ j (hj : j < ls.length), LineShape B hi wr g (j * 3) ls[j].stops.length ls[j].runs.length) ∧ Hid (RowsApart wr g ls.length) ∧ Hid (Out B hi w wr) ∧ g < wr.heap.size ∧ Hid (∀ o, wr.frozen? ⟨g, o, none⟩ = false))
    (fun _ i _ => ls.length - (RowKit.intOf i).toNat)
  case atStart => exact ⟨0, Nat.zero_le _, rfl, by simp [rowTot], HSh.out, HAp.out, Out.refl _ _ _, hglt, hfz⟩
  case round =>
    obtain ⟨j, hj, rfl, rfl, HS, HA, HO, hgw, HF⟩ := hrel
    have hle := rowTot_take_le ls j
    by_cases hlt : j < ls.length
    · have hkb : k + rowTot (ls.take j) ≤ 4194304 := by omega
      have HRT := Lib.hid (rowTot_take ls j hlt)
      have hle2 := rowTot_take_le ls (j + 1)
      generalize hK : rowTot (ls.take j) = K at *
      clear hK
      have hj3 : (j : Int) < (ls.length : Int) := by omega
      clear hfz
      go_wp2_with fail
      go_at_call 110
      refine (HMk.out _ _ (by omega) (by omega)).mono ?_
      rintro e w1 ⟨rfl, hb1⟩
      have HS1 : Hid (∀ i (hi' : i < ls.length), LineShape B hi w1 g (i * 3) ls[i].stops.length ls[i].runs.length) := fun i hi' => (HS.out i hi').later hb1
      have hA1 : RowsApart w1 g ls.length := HA.out.of_cells fun o => hb1.cell (p := ⟨g, o, none⟩) hgw
      have HO1 : Hid (Out B hi w w1) := HO.out.trans (Out.of_below hb1 (by have := HO.out.below.size; omega))
      have hg1 : g < w1.heap.size := Nat.lt_of_lt_of_le hgw hb1.size
      have HF1 : Hid (∀ o, w1.frozen? ⟨g, o, none⟩ = false) := fun o => fkeep hb1 hgw (HF.out o)
      obtain ⟨nm, sv, rv, s, r, c0, c1, c2, e1, e2, r1, r2, n1, n2, b1, b2⟩ := HS1.out j hlt
      have hf0 := HF1.out (j * 3)
      clear hb1 HS HA HO HF
      have hsl : s.length ≤ 1048576 ∧ r.length ≤ 1048576 := by have := HRT.out; omega
      obtain ⟨hsl1, hsl2⟩ := hsl
      have HE1 := Lib.hid e1
      have HE2 := Lib.hid e2
      clear e1 e2
      have HM1 := Lib.hid (markIntS_own sv s ((k : Int) + (K : Int) + 1) B (w1.setCell ⟨g, j * 3, none⟩ (.string ⟨(markL (k + K)).toArray⟩)) (own_other r1 n1 _) hsl1 (by omega) (by omega))
      have d1 : (w1.setCell ⟨g, j * 3, none⟩ (.string ⟨(markL (k + K)).toArray⟩)).cell? ⟨g, j * 3 + 1, none⟩ = some sv := (set_other (by omega)).trans c1
      have HW2 : Hid ((∀ i (hi' : i < ls.length), LineShape B hi (w1.setCell ⟨g, j * 3, none⟩ (.string ⟨(markL (k + K)).toArray⟩)) g (i * 3) ls[i].stops.length ls[i].runs.length) ∧ RowsApart (w1.setCell ⟨g, j * 3, none⟩ (.string ⟨(markL (k + K)).toArray⟩)) g ls.length ∧
          Out B hi w (w1.setCell ⟨g, j * 3, none⟩ (.string ⟨(markL (k + K)).toArray⟩)) ∧ ∀ o, (w1.setCell ⟨g, j * 3, none⟩ (.string ⟨(markL (k + K)).toArray⟩)).frozen? ⟨g, o, none⟩ = false) :=
        ⟨fun i hi' => (HS1.out i hi').named _ _ (by omega) (by omega), fun q i q' i' v v' h1 h2 h3 h4 h5 x y => hA1 q i q' i' v v' h1 h2 h3 h4 h5 ((set_other (by omega)).symm.trans x) ((set_other (by omega)).symm.trans y),
          HO1.out.setCell (p := ⟨g, _, none⟩) hg (by show g < hi; omega) _, fun o => by rw [World.frozen?_setCell]; exact HF1.out o⟩
      have HC := Lib.hid (And.intro c1 (And.intro c2 (And.intro r2 r1)))
      have hgs : g < (w1.setCell ⟨g, j * 3, none⟩ (.string ⟨(markL (k + K)).toArray⟩)).heap.size := by simp [World.setCell]; exact hg1
      have HGs := Lib.hid hgs
      clear c2 r1 r2 hA1 HS1 HO1 HF1 hgs
      generalize ByteArray.mk (markL (k + K)).toArray = tx at *
      go_wp2_with fail
      go_at_call 51
      ((with_reducible refine HM1.out.mono ?_))
      rintro e w2 ⟨rfl, ho2, hg2⟩
      obtain ⟨hsh2, hap2, hout2, hfz2⟩ := HW2.out
      obtain ⟨c1', c2', q2, q1⟩ := HC.out
      have c2s := (set_other (u := .string tx) (show j * 3 ≠ j * 3 + 2 by omega)).trans c2'
      have hrow : sv.ownBlock ≠ some g := n1
      -- the row of the runs, apart from the row of the stops
      have hrv : rv.ownBlock = none ∨ rv.ownBlock ≠ sv.ownBlock := hap2 j 2 j 1 rv sv hlt hlt (.inr rfl) (.inl rfl) (.inr (by omega)) c2s d1
      have d2 : w2.cell? ⟨g, j * 3 + 2, none⟩ = some rv := gcell hg2 c2s hrow
      have q2' : w2.ownsRow B 3 1 rv r.length (ints r) := (own_other q2 n2 _).kept hg2 hrv
      have HSh3 : Hid (∀ i (hi' : i < ls.length), LineShape B hi w2 g (i * 3) ls[i].stops.length ls[i].runs.length) := fun i hi' => by
        by_cases he : i = j
        · subst he
          obtain ⟨nm', sv', rv', s', r', x0, x1, x2, y1, y2, z1, z2, rest⟩ := hsh2 i hi'
          have e1' : sv' = sv := by rw [d1] at x1; exact (Option.some.inj x1).symm
          subst e1'
          have e2' : rv' = rv := by rw [c2s] at x2; exact (Option.some.inj x2).symm
          subst e2'
          refine ⟨nm', sv', rv', countUp ((k : Int) + (K : Int) + 1) s.length, r, gcell hg2 x0 hrow, gcell hg2 x1 hrow, d2, by rw [countUp_len]; exact HE1.out, HE2.out, ?_, q2', rest⟩
          rw [countUp_len]; exact ho2
        · exact (hsh2 i hi').grown hg2 hrow (fun v i' hi2 hc => hap2 i i' j 1 v sv hi' hlt hi2 (.inl rfl) (.inl he) hc d1)
      have HAp3 := Lib.hid (hap2.grown hg2 hrow HGs.out)
      have HOut3 : Hid (Out B hi w w2) := hout2.trans (Out.of_grown hg2 (by have := hout2.below.size; omega) (fun b hb => ⟨(ho2.lt b hb).1, b1 b hb⟩))
      have hgw2 : g < w2.heap.size := Nat.lt_of_lt_of_le HGs.out hg2.size
      have HFz3 : Hid (∀ o, w2.frozen? ⟨g, o, none⟩ = false) := fun o => by
        rw [World.frozen?_of_block (w := w1.setCell ⟨g, j * 3, none⟩ (.string tx)) (a := ⟨g, o, none⟩) (hg2.block g HGs.out (fun e => hrow e.symm))]; exact hfz2 o
      have HM2 := Lib.hid (markIntS_own rv r ((k : Int) + (K : Int) + 1 + s.length) B w2 q2' hsl2 (by omega) (by omega))
      clear hsh2 hap2 hout2 hfz2 q2' q2 q1 hg2 ho2 c1' c2' c2s hrv HM1 HW2 HC HGs
      go_wp2_with fail
      go_at_call 51
      ((with_reducible refine HM2.out.mono ?_))
      rintro e w3 ⟨rfl, ho3, hg3⟩
      have hrow3 : rv.ownBlock ≠ some g := n2
      have HSh4 : Hid (∀ i (hi' : i < ls.length), LineShape B hi w3 g (i * 3) ls[i].stops.length ls[i].runs.length) := fun i hi' => by
        by_cases he : i = j
        · subst he
          obtain ⟨nm', sv', rv', s', r', x0, x1, x2, y1, y2, z1, z2, m1, m2, m3, m4⟩ := HSh3.out i hi'
          have e2' : rv' = rv := by rw [d2] at x2; exact (Option.some.inj x2).symm
          subst e2'
          have hsv : sv'.ownBlock = none ∨ sv'.ownBlock ≠ rv'.ownBlock := HAp3.out i 1 i 2 sv' rv' hi' hi' (.inl rfl) (.inr rfl) (.inr (by omega)) x1 x2
          refine ⟨nm', sv', rv', s', countUp ((k : Int) + (K : Int) + 1 + s.length) r.length, gcell hg3 x0 hrow3, gcell hg3 x1 hrow3, gcell hg3 x2 hrow3, y1, by rw [countUp_len]; exact HE2.out, z1.kept hg3 hsv, ?_, m1, m2, m3, m4⟩
          rw [countUp_len]; exact ho3
        · exact (HSh3.out i hi').grown hg3 hrow3 (fun v i' hi2 hc => HAp3.out i i' j 2 v rv hi' hlt hi2 (.inr rfl) (.inl he) hc d2)
      have HAp4 := Lib.hid (HAp3.out.grown hg3 hrow3 hgw2)
      have HOut4 : Hid (Out B hi w w3) := HOut3.out.trans (Out.of_grown hg3 (by have := HOut3.out.below.size; omega) (fun b hb => ⟨(ho3.lt b hb).1, b2 b hb⟩))
      have hgw3 : g < w3.heap.size := Nat.lt_of_lt_of_le hgw2 hg3.size
      have HFz4 : Hid (∀ o, w3.frozen? ⟨g, o, none⟩ = false) := fun o => by
        rw [World.frozen?_of_block (w := w2) (a := ⟨g, o, none⟩) (hg3.block g hgw2 (fun e => hrow3 e.symm))]; exact HFz3.out o
      have HE : Hid ((k : Int) + (K : Int) + 1 + s.length + r.length = ((k + rowTot (ls.take (j + 1)) : Nat) : Int)) := by have := HRT.out; have := HE1.out; have := HE2.out; show _ = _; omega
      clear hg3 ho3 HSh3 HAp3 HOut3 HFz3 HM2 d1 d2 hle2
      go_wp2_with fail
      go_roundw
      case rel => exact ⟨j + 1, by omega, by go_num, by rw [← HE.out], HSh4, HAp4, HOut4, hgw3, HFz4⟩
      case measure => simp [RowKit.intOf]; omega
    · have hjl : j = ls.length := by omega
      subst hjl
      have HE : Hid (rowTot (ls.take ls.length) = rowTot ls) := by show _ = _; rw [List.take_length]
      go_wp2_with fail
      go_ret
      exact ⟨ret_int (by rw [HE.out]), HO.out⟩
/-- a network of the call's own, whatever its rows hold -/
def NetShape (B hi : Nat) (w : World) (v : Value) (n : NetD) : Prop := ∃ s l B1, v = .agg #[s, l] ∧ w.ownsRow B 9 1 s n.stops.length (strs n.stops) ∧ LinesShape B1 hi w l n.lines ∧ B ≤ B1 ∧ B1 ≤ hi ∧ (∀ b, s.ownBlock = some b → b < B1)
theorem NetOwn.shape {B hi : Nat} {w : World} {v : Value} {n : NetD} (h : NetOwn B w v n) (hh : w.heap.size ≤ hi) : NetShape B hi w v n := by
  obtain ⟨s, l, B1, hv, h1, h2, h3, h4⟩ := h
  refine ⟨s, l, B1, hv, h1, h2.shape hh, h3, ?_, h4⟩
  obtain ⟨g, c, cur, _, hg, hblk, _⟩ := h2
  have := (Array.getElem?_eq_some_iff.1 hblk).1; omega
theorem NetShape.later {B hi : Nat} {w w' : World} {v : Value} {n : NetD} (h : NetShape B hi w v n) (hb : Below w.heap.size w w') : NetShape B hi w' v n := by
  obtain ⟨s, l, B1, hv, h1, h2, h3⟩ := h
  exact ⟨s, l, B1, hv, own_later h1 hb, h2.later hb, h3⟩

set_option maxRecDepth 100000 in
theorem markNetwork_own (v : Value) (n : NetD) (B hi : Nat) (w : World) (hr : NetShape B hi w v n) (hw : hi ≤ w.heap.size) (hs : NetSmall n) :
    Calls Try.prog 49 #[v, .int .i64 1] w fun e w' => (∃ r : Nat, e = .returned (.int .i64 (r : Int))) ∧ Out B hi w w' := by
  obtain ⟨sv, lv, B1, rfl, hss, hll, hB1, hB1h, hlt⟩ := hr
  obtain ⟨a, c, rfl⟩ := own_shape hss
  obtain ⟨a', c', he⟩ : ∃ a' c', lv = .slice a' n.lines.length c' := by obtain ⟨g, c', cur, hv, _⟩ := hll; exact ⟨_, _, hv⟩
  subst he
  have hsz := hs.2.2.2
  have HB := Lib.hid (And.intro hs.1 (show n.lines.length + lineTot n.lines ≤ 1048576 by omega))
  have HS := Lib.hid hss
  have HL := Lib.hid hll
  have HLt := Lib.hid hlt
  have HW : Hid (B ≤ w.heap.size) := by show _ ≤ _; omega
  clear hss hll hs hsz hlt
  go_enter Try.func49, Try.ntmps49
  go_wp2_with fail
  go_at_call 92
  refine (markStringS_own _ n.stops 1 B _ (HS.out.alloc _) HB.out.1 (by omega) (by omega)).mono ?_
  rintro e w1 ⟨rfl, _, hg1⟩
  have HL1 := Lib.hid ((HL.out.later ((Below.refl w.heap.size w).alloc (Nat.le_refl _) (.cells #[.slice a n.stops.length c, .slice a' n.lines.length c'] 27 (0, 0)))).grown hg1 HLt.out)
  have HO1 : Hid (Out B hi w w1) := (Out.of_below ((Below.refl w.heap.size w).alloc (Nat.le_refl _) (.cells #[.slice a n.stops.length c, .slice a' n.lines.length c'] 27 (0, 0))) HW.out).trans
    (Out.of_grown hg1 (by have := HW.out; simp; omega) (fun b hb => ⟨(HS.out.lt b hb).1, by have := HLt.out b hb; omega⟩))
  have p1 : w1.cell? ⟨w.heap.size, 1, none⟩ = some (.slice a' n.lines.length c') := gcell hg1 (by go_simp) (fun e => by have := (HS.out.lt _ e).2; omega)
  have hst := HB.out.1
  clear hg1
  go_wp2_with fail
  go_at_call 93
  refine (markLineS_own _ n.lines (1 + n.stops.length) B1 hi _ HL1.out HB.out.2 (by omega) (by omega)).mono ?_
  rintro e w2 ⟨rfl, ho2⟩
  have HO2 : Hid (Out B hi w w2) := HO1.out.trans ⟨ho2.below.mono hB1, ho2.above⟩
  clear ho2
  go_wp2_with fail
  go_ret
  exact ⟨⟨_, rfl⟩, HO2.out⟩
end Go.Proofs.Ytfgkfdkdjegaiaa
