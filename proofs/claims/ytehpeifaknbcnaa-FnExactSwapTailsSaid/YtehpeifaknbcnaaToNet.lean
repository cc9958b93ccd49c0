import Derived.Test.YtehpeifaknbcnaaMk12
import Derived.Laws.Entries
namespace Go.Proofs.Ytehpeifaknbcnaa
open Go.RowKit
set_option linter.unusedVariables false

theorem LineOwn.set {B : Nat} {w : World} {b o : Nat} {l : LineD} (h : LineOwn B w b o l) (i : Nat) (u : Value) (h0 : i ≠ o) (h1 : i ≠ o + 1) (h2 : i ≠ o + 2) : LineOwn B (w.setCell ⟨b, i, none⟩ u) b o l := by
  obtain ⟨sv, rv, c0, c1, c2, r1, r2, n1, n2⟩ := h
  exact ⟨sv, rv, (set_other h0).trans c0, (set_other h1).trans c1, (set_other h2).trans c2, own_other r1 n1 _, own_other r2 n2 _, n1, n2⟩
theorem lineOwn_new {B : Nat} {w : World} {b o : Nat} {l : LineD} {sv rv z0 z1 z2 : Value} (c0 : w.cell? ⟨b, o, none⟩ = some z0) (c1 : w.cell? ⟨b, o + 1, none⟩ = some z1) (c2 : w.cell? ⟨b, o + 2, none⟩ = some z2)
    (r1 : w.ownsRow B 3 1 sv l.stops.length (ints l.stops)) (r2 : w.ownsRow B 3 1 rv l.runs.length (ints l.runs)) (n1 : sv.ownBlock ≠ some b) (n2 : rv.ownBlock ≠ some b) :
    LineOwn B (((w.setCell ⟨b, o, none⟩ (.string l.name)).setCell ⟨b, o + 1, none⟩ sv).setCell ⟨b, o + 2, none⟩ rv) b o l := by
  refine ⟨sv, rv, ?_, ?_, ?_, own_other (own_other (own_other r1 n1 _) n1 _) n1 _, own_other (own_other (own_other r2 n2 _) n2 _) n2 _, n1, n2⟩
  · exact (set_other (by omega)).trans ((set_other (by omega)).trans (set_same c0))
  · exact (set_other (by omega)).trans (set_same (z := z1) ((set_other (by omega)).trans c1))
  · exact set_same (z := z2) ((set_other (by omega)).trans ((set_other (by omega)).trans c2))

theorem apart_step {W w1 : World} {g k B : Nat} {z0 z1 z2 nm sv rv : Value} {g1 g2 : Nat} (h : RowsApart W g k) (hl : ∀ j, j < k → ∃ l, LineOwn B W g (j * 3) l) (hb : Below W.heap.size W w1) (hg : g < W.heap.size)
    (q0 : w1.cell? ⟨g, k * 3, none⟩ = some z0) (q1 : w1.cell? ⟨g, k * 3 + 1, none⟩ = some z1) (q2 : w1.cell? ⟨g, k * 3 + 2, none⟩ = some z2) (es : sv.ownBlock = some g1) (er : rv.ownBlock = some g2) (b1 : W.heap.size ≤ g1) (b2 : W.heap.size ≤ g2) (h12 : g1 < g2) :
    RowsApart (((w1.setCell ⟨g, k * 3, none⟩ nm).setCell ⟨g, k * 3 + 1, none⟩ sv).setCell ⟨g, k * 3 + 2, none⟩ rv) g (k + 1) := by
  have val : ∀ j i v, j < k + 1 → (i = 1 ∨ i = 2) → (((w1.setCell ⟨g, k * 3, none⟩ nm).setCell ⟨g, k * 3 + 1, none⟩ sv).setCell ⟨g, k * 3 + 2, none⟩ rv).cell? ⟨g, j * 3 + i, none⟩ = some v →
      (j < k ∧ W.cell? ⟨g, j * 3 + i, none⟩ = some v ∧ ∀ b, v.ownBlock = some b → b < W.heap.size) ∨ (j = k ∧ i = 1 ∧ v.ownBlock = some g1) ∨ (j = k ∧ i = 2 ∧ v.ownBlock = some g2) := by
    intro j i v hj hi hc
    by_cases hjk : j < k
    · rw [set_other (by omega), set_other (by omega), set_other (by omega), hb.cell (p := ⟨g, j * 3 + i, none⟩) hg] at hc
      refine .inl ⟨hjk, hc, fun b hvb => ?_⟩
      obtain ⟨l, s, r, c0, c1, c2, r1, r2, _⟩ := hl j hjk
      rcases hi with rfl | rfl
      · rw [c1] at hc; cases hc; exact (r1.lt b hvb).2
      · rw [c2] at hc; cases hc; exact (r2.lt b hvb).2
    · have : j = k := by omega
      subst this
      rcases hi with rfl | rfl
      · rw [set_other (by omega)] at hc
        rw [set_same (z := z1) ((set_other (by omega)).trans q1)] at hc
        cases hc; exact .inr (.inl ⟨rfl, rfl, es⟩)
      · rw [set_same (z := z2) ((set_other (by omega)).trans ((set_other (by omega)).trans q2))] at hc
        cases hc; exact .inr (.inr ⟨rfl, rfl, er⟩)
  intro j i j' i' v v' hj hj' hi hi' hne hc hc'
  rcases val j i v hj hi hc with ⟨a1, a2, a3⟩ | ⟨rfl, rfl, a3⟩ | ⟨rfl, rfl, a3⟩ <;> rcases val j' i' v' hj' hi' hc' with ⟨d1, d2, d3⟩ | ⟨e1, rfl, d3⟩ | ⟨e1, rfl, d3⟩
  · exact h j i j' i' v v' a1 d1 hi hi' hne a2 d2
  · rw [d3]; by_cases hv : v.ownBlock = none
    · exact .inl hv
    · exact .inr fun e => by have := a3 g1 e; omega
  · rw [d3]; by_cases hv : v.ownBlock = none
    · exact .inl hv
    · exact .inr fun e => by have := a3 g2 e; omega
  · rw [a3]; exact .inr fun e => by have := d3 g1 e.symm; omega
  · omega
  · rw [a3, d3]; exact .inr fun e => by simp at e; omega
  · rw [a3]; exact .inr fun e => by have := d3 g2 e.symm; omega
  · rw [a3, d3]; exact .inr fun e => by simp at e; omega
  · omega

set_option maxHeartbeats 1000000 in
theorem toLineS_any (v : Value) (ls : List LineD) (w : World) (hr : LinesAt w v ls) (hn : ls.length ≤ 1048576) (hl : ∀ l ∈ ls, l.stops.length ≤ 1048576 ∧ l.runs.length ≤ 1048576) :
    Calls Try.prog 50 #[v] w fun e w' => ∃ v', e = .returned v' ∧ LinesOwn w.heap.size w' v' ls ∧ Below w.heap.size w w' := by
  obtain ⟨a, c, rfl, hc, hm, HC⟩ := lines_open hr
  clear hr
  have HL := Lib.hid hl
  clear hl
  obtain ⟨i0, hi, hz0, hz1, hz2⟩ := info_parts infoLine
  go_enter Try.func50, Try.ntmps50
  go_wp2_with (at_make; refine wpList_make_full _ rfl _ _ 32 rfl w.heap.size 119 i0 _ 3 Try.underlying32 hi hz0 hz1 .i64 .i64 (ls.length : Int) (ls.length : Int) ls.length rfl rfl rfl rfl ?c1 ?c2 ?c3 ?_)
  case c1 => rw [hz2]; omega
  case c2 => unfold maxLen; omega
  case c3 => exact Nat.le_refl _
  intro w1 hown hgrow
  have hbel : Below w.heap.size w w1 := (Below.refl _ _).grown hgrow (Nat.le_refl _) (fun k hk => by cases hk)
  generalize Array.toList (madeCells _ _) = z0 at *
  clear hgrow
  go_wp2
  go_loopw [4] (fun i wr => ∃ k : Nat, k ≤ ls.length ∧ i = .int .i64 k ∧ (∃ zs : List Value, wr.ownsRow w.heap.size 119 3 (.slice (some ⟨w.heap.size, 0, none⟩) ls.length ls.length) ls.length zs) ∧
      Hid (∀ j (hj : j < ls.length), j < k → LineOwn w.heap.size wr w.heap.size (j * 3) ls[j]) ∧ Hid (RowsApart wr w.heap.size k) ∧ Below w.heap.size w wr)
    (fun i _ => ls.length - (RowKit.intOf i).toNat)
  case atStart => exact ⟨0, Nat.zero_le _, rfl, ⟨z0, hown⟩, fun j hj h => by omega, fun j i j' i' v v' h => by omega, hbel⟩
  case round =>
    obtain ⟨k, hk, rfl, ⟨zs, hown⟩, HT, HAp, hbel⟩ := hrel
    by_cases hlt : k < ls.length
    · obtain ⟨b, off, rfl, hbl, hla⟩ := HC.out k hlt
      obtain ⟨sv, rv, y0, y1, y2, hlv⟩ := hla.toV
      have hx0 := hbel.cell (p := ⟨b, off + k * 3, none⟩) hbl
      rw [y0] at hx0
      have hx1 := hbel.cell (p := ⟨b, off + k * 3 + 1, none⟩) hbl
      rw [y1] at hx1
      have hx2 := hbel.cell (p := ⟨b, off + k * 3 + 2, none⟩) hbl
      rw [y2] at hx2
      have hll := HL.out _ (List.getElem_mem hlt)
      have HTo := Lib.hid (toLine_any _ ls[k] wr (hlv.below rfl hbel) hll.1 hll.2)
      have HBel := Lib.hid hbel
      have HOwn := Lib.hid hown
      clear hla hlv y0 y1 y2 hll hbel hown
      go_wp2_with fail
      go_at_call 93
      refine HTo.out.mono ?_
      rintro e w1 ⟨g1, c1, g2, c2, rfl, ho1, ho2, hg12, hb1⟩
      have hown1 := own_later HOwn.out hb1
      have hlen := hown1.1
      have hz : ∀ o, o < ls.length * 3 → ∃ u, w1.cell? ⟨w.heap.size, o, none⟩ = some u := fun o ho => by
        rw [hown1.cellAt o ho]; exact ⟨_, List.getElem?_eq_getElem (by omega)⟩
      obtain ⟨u0, q0⟩ := hz (k * 3) (by omega)
      obtain ⟨u1, q1⟩ := hz (k * 3 + 1) (by omega)
      obtain ⟨u2, q2⟩ := hz (k * 3 + 2) (by omega)
      have hf := fun o => hown1.frozenAt o
      have hle : w.heap.size < wr.heap.size := (HOwn.out.lt w.heap.size rfl).2
      have n1 : (Value.slice (some ⟨g1, 0, none⟩) ls[k].stops.length c1).ownBlock ≠ some w.heap.size := fun e => by have := (ho1.lt _ e).1; omega
      have n2 : (Value.slice (some ⟨g2, 0, none⟩) ls[k].runs.length c2).ownBlock ≠ some w.heap.size := fun e => by have := (ho2.lt _ e).1; omega
      have HNew := Lib.hid (lineOwn_new q0 q1 q2 (own_base ho1 (Nat.le_of_lt hle)) (own_base ho2 (Nat.le_of_lt hle)) n1 n2)
      have HOwn2 := Lib.hid ((((hown1.stored (k * 3) (.string ls[k].name)).1.stored (k * 3 + 1) (.slice (some ⟨g1, 0, none⟩) ls[k].stops.length c1)).1.stored (k * 3 + 2) (.slice (some ⟨g2, 0, none⟩) ls[k].runs.length c2)).1)
      have HOld : Hid (∀ j (hj : j < ls.length), j < k → LineOwn w.heap.size (((w1.setCell ⟨w.heap.size, k * 3, none⟩ (.string ls[k].name)).setCell ⟨w.heap.size, k * 3 + 1, none⟩ (.slice (some ⟨g1, 0, none⟩) ls[k].stops.length c1)).setCell ⟨w.heap.size, k * 3 + 2, none⟩ (.slice (some ⟨g2, 0, none⟩) ls[k].runs.length c2)) w.heap.size (j * 3) ls[j]) := fun j hj hjk =>
        ((((HT.out j hj hjk).later hb1).set _ _ (by omega) (by omega) (by omega)).set _ _ (by omega) (by omega) (by omega)).set _ _ (by omega) (by omega) (by omega)
      have HAp2 := Lib.hid (apart_step (nm := .string ls[k].name) (sv := .slice (some ⟨g1, 0, none⟩) ls[k].stops.length c1) (rv := .slice (some ⟨g2, 0, none⟩) ls[k].runs.length c2) HAp.out (fun j hj => ⟨_, HT.out j (by omega) hj⟩) hb1 hle q0 q1 q2 rfl rfl (ho1.lt g1 rfl).1 (ho2.lt g2 rfl).1 hg12)
      have HB1 : Hid (Below w.heap.size w w1) := HBel.out.trans (hb1.mono (Nat.le_of_lt hle))
      clear hown1 ho1 ho2 hb1 hz n1 n2 hx0 hx1 hx2 HOwn HT HAp hg12
      go_wp2_with fail
      go_roundw
      case rel =>
        refine ⟨k + 1, by omega, by go_num, ⟨_, HOwn2.out⟩, fun j hj hjk => ?_, HAp2.out, ((HB1.out.setCell (p := ⟨w.heap.size, _, none⟩) (Nat.le_refl _) _).setCell (p := ⟨w.heap.size, _, none⟩) (Nat.le_refl _) _).setCell (p := ⟨w.heap.size, _, none⟩) (Nat.le_refl _) _⟩
        by_cases e : j = k
        · subst e; exact HNew.out
        · exact HOld.out j hj (by omega)
      case measure => simp [RowKit.intOf]; omega
    · go_wp2
      go_ret
      refine ⟨_, rfl, ?_, hbel⟩
      obtain ⟨h1, h2⟩ := hown
      rcases h2 with ⟨hv, _⟩ | ⟨g, cap, cur, hv, hg, hh, r1, r2, r3, _⟩
      · simp at hv
      · simp at hv
        obtain ⟨rfl, rfl⟩ := hv
        exact ⟨w.heap.size, ls.length, cur, rfl, Nat.le_refl _, hh, Nat.le_refl _, r2, r3, fun j l hj => by
          have hjl := (List.getElem?_eq_some_iff.1 hj).1
          have he := (List.getElem?_eq_some_iff.1 hj).2
          rw [← he]; exact HT.out j hjl (by omega), by have := HAp.out; rw [show k = ls.length by omega] at this; exact this⟩
set_option maxHeartbeats 1000000 in
theorem toNetwork_any (v : Value) (n : NetD) (w : World) (hr : NetAt w v n) (hn : n.stops.length ≤ 1048576) (hn' : n.lines.length ≤ 1048576) (hl : ∀ l ∈ n.lines, l.stops.length ≤ 1048576 ∧ l.runs.length ≤ 1048576) :
    Calls Try.prog 14 #[v] w fun e w' => ∃ a c a' c', e = .returned (.agg #[.slice a n.stops.length c, .slice a' n.lines.length c']) ∧ NetOwn w.heap.size w' (.agg #[.slice a n.stops.length c, .slice a' n.lines.length c']) n ∧ Below w.heap.size w w' := by
  obtain ⟨sv, lv, rfl, hs, hrr⟩ := hr
  obtain ⟨a, c, rfl, hc, hm, HC⟩ := strs_open hs
  obtain ⟨a', c', rfl, hc', hm', HC'⟩ := lines_open hrr
  have HS := Lib.hid (fun W (hW : Below w.heap.size w W) => toStringS_any _ _ W (hs.below rfl hW) hn)
  have HR := Lib.hid (fun W (hW : Below w.heap.size w W) => toLineS_any _ _ W (hrr.below rfl hW) hn' hl)
  clear hs hrr hl
  go_enter Try.func14, Try.ntmps14
  go_wp2_with fail
  go_at_call 49
  refine (HS.out _ ?hb).mono ?_
  case hb => exact (((Below.refl _ _).alloc (Nat.le_refl _) _).alloc (by simp) _).alloc (by simp; omega) _
  rintro e w1 ⟨v1, rfl, hown1, hb1⟩
  obtain ⟨a1, c1, rfl⟩ := own_shape hown1
  have HLt : Hid (∀ b, (Value.slice a1 n.stops.length c1).ownBlock = some b → b < w1.heap.size) := fun b hb => (hown1.lt b hb).2
  have HB1 : Hid (Below w.heap.size w w1) := ((((Below.refl _ _).alloc (Nat.le_refl _) _).alloc (by simp) _).alloc (by simp; omega) _).trans (hb1.mono (by simp; omega))
  have p0 : w1.cell? ⟨w.heap.size + 1 + 1, 0, none⟩ = some (.slice none 0 0) := bkeep hb1 (by go_simp)
  have p1 : w1.cell? ⟨w.heap.size + 1 + 1, 1, none⟩ = some (.slice none 0 0) := bkeep hb1 (by go_simp)
  have r0 : w1.cell? ⟨w.heap.size + 1, 0, none⟩ = some (.slice none 0 0) := bkeep hb1 (by go_simp)
  have r1 : w1.cell? ⟨w.heap.size + 1, 1, none⟩ = some (.slice none 0 0) := bkeep hb1 (by go_simp)
  have x1 : w1.cell? ⟨w.heap.size, 1, none⟩ = some (.slice a' n.lines.length c') := bkeep hb1 (by go_simp)
  have f0 : w1.frozen? ⟨w.heap.size + 1 + 1, 0, none⟩ = false := fkeep hb1 (by simp) (by go_simp)
  have f1 : w1.frozen? ⟨w.heap.size + 1 + 1, 1, none⟩ = false := fkeep hb1 (by simp) (by go_simp)
  have f3 : ∀ o, w1.frozen? ⟨w.heap.size + 1, o, none⟩ = false := fun o => fkeep hb1 (by simp) (by go_simp)
  simp only [World.size_alloc] at hown1
  have hz1 : w.heap.size + 3 ≤ w1.heap.size := by have := hb1.size; simp at this; omega
  have HO1 := Lib.hid hown1
  clear hown1 hb1
  go_wp2_with fail
  go_at_call 50
  refine (HR.out _ ?hb2).mono ?_
  case hb2 => exact Below.setCell (p := ⟨_, _, none⟩) HB1.out (by simp; omega) _
  rintro e w2 ⟨v2, rfl, hown2, hb2⟩
  obtain ⟨g2, c2, cur, rfl, hg2, hrest⟩ := hown2
  have hsz : (w1.setCell ⟨w.heap.size + 1 + 1, 0, none⟩ (.slice a1 n.stops.length c1)).heap.size = w1.heap.size := by simp [World.setCell]
  have hown2 : LinesOwn w1.heap.size w2 (.slice (some ⟨g2, 0, none⟩) n.lines.length c2) n.lines := by rw [hsz] at hg2 hrest; exact ⟨g2, c2, cur, rfl, hg2, hrest⟩
  have q0 : w2.cell? ⟨w.heap.size + 1 + 1, 0, none⟩ = some (.slice a1 n.stops.length c1) := bkeep hb2 (by go_simp)
  have q1 : w2.cell? ⟨w.heap.size + 1 + 1, 1, none⟩ = some (.slice none 0 0) := bkeep hb2 (by go_simp)
  have s0 : w2.cell? ⟨w.heap.size + 1, 0, none⟩ = some (.slice none 0 0) := bkeep hb2 (by go_simp)
  have s1 : w2.cell? ⟨w.heap.size + 1, 1, none⟩ = some (.slice none 0 0) := bkeep hb2 (by go_simp)
  have e1 : w2.frozen? ⟨w.heap.size + 1 + 1, 1, none⟩ = false := fkeep hb2 (by simp; omega) (by go_simp)
  have e3 : ∀ o, w2.frozen? ⟨w.heap.size + 1, o, none⟩ = false := fun o => fkeep hb2 (by simp; omega) (by go_simp)
  have hz2 : w1.heap.size ≤ w2.heap.size := by have := hb2.size; rw [hsz] at this; exact this
  have HBB : Hid (Below w.heap.size w w2) := (Below.setCell (p := ⟨w.heap.size + 1 + 1, 0, none⟩) HB1.out (by simp; omega) _).trans (hb2.mono (by simp; omega))
  have HO2 := Lib.hid hown2
  have HOL := Lib.hid (own_later (ownsRow_setCell_below HO1.out (a := ⟨w.heap.size + 1 + 1, 0, none⟩) (by simp) (.slice a1 n.stops.length c1)) hb2)
  clear hb2 hown2 hrest hg2 hsz
  go_wp2_with fail
  refine bodyPost_ret (v := .agg #[.slice a1 n.stops.length c1, .slice (some ⟨g2, 0, none⟩) n.lines.length c2]) (by simp only [results, Try.results14]; go_simp) rfl ?_
  refine ⟨_, _, _, _, rfl, ⟨_, _, w1.heap.size, rfl, ?_, ?_, by omega, HLt.out⟩, ?_⟩
  · exact own_base (ownsRow_setCell_below (ownsRow_setCell_below (ownsRow_setCell_below HOL.out (by simp) _) (by simp) _) (by simp) _) (by omega)
  · exact (((HO2.out.far _ (by simp; omega)).far _ (by simp; omega)).far _ (by simp; omega))
  · exact (((HBB.out.setCell (by simp; omega) _).setCell (by simp) _).setCell (by simp) _)
end Go.Proofs.Ytehpeifaknbcnaa
