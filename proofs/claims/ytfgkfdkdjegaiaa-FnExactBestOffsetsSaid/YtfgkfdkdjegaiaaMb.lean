/-
  JOINED TEXTS, each under its own namespace line: To, ToNet, LawNet, EqNet, NetBase, RunBase, MarkS, MarkStr, Mark, MarkNet, MarkLines, NetIn, StrsX, LinesMk, NetS, NetX.
-/
import Derived.Test.YtfgkfdkdjegaiaaMa
import Derived.LoopTactic
import Derived.Laws.Entries
import Derived.BigQuiet
import Derived.Deep.RegionHeld3
import Derived.Deep.QuietTactic
import Derived.Test.YtfgkfdkdjegaiaaImplNet
import Derived.Test.YtfgkfdkdjegaiaaStr
import Derived.Laws.Strings
import Derived.Laws.IdiomStrings
namespace Go.Proofs.Ytfgkfdkdjegaiaa
open Go.RowKit
set_option linter.unusedVariables false

theorem infoLine : (Try.prog.info? 98).map (fun i => (i.zero, i.size, i.bytes)) = some (some (.agg #[.string ⟨#[]⟩, .slice none 0 0, .slice none 0 0]), 3, 64) := by kernel_rfl

set_option maxHeartbeats 1000000 in
theorem toLine_any (v : Value) (l : LineD) (w : World) (hr : LineV w v l) (hn : l.stops.length ≤ 1048576) (hn' : l.runs.length ≤ 1048576) :
    Calls Try.prog 108 #[v] w fun e w' => ∃ g1 c1 g2 c2, e = .returned (.agg #[.string l.name, .slice (some ⟨g1, 0, none⟩) l.stops.length c1, .slice (some ⟨g2, 0, none⟩) l.runs.length c2]) ∧
      w'.ownsRow w.heap.size 3 1 (.slice (some ⟨g1, 0, none⟩) l.stops.length c1) l.stops.length (ints l.stops) ∧ w'.ownsRow w.heap.size 3 1 (.slice (some ⟨g2, 0, none⟩) l.runs.length c2) l.runs.length (ints l.runs) ∧ g1 < g2 ∧ Below w.heap.size w w' := by
  obtain ⟨sv, rv, rfl, hs, hrr⟩ := hr
  obtain ⟨a, c, rfl, hc, hm, HC⟩ := ints_open hs
  obtain ⟨a', c', rfl, hc', hm', HC'⟩ := ints_open hrr
  have HS := Lib.hid (fun W (hW : Below w.heap.size w W) => toIntS_any _ _ W (hs.below rfl hW) hn)
  have HR := Lib.hid (fun W (hW : Below w.heap.size w W) => toIntS_any _ _ W (hrr.below rfl hW) hn')
  clear hs hrr
  go_enter Try.func108, Try.ntmps108
  go_wp2_with fail
  go_at_call 123
  refine (HS.out _ ?hb).mono ?_
  case hb => exact (((Below.refl _ _).alloc (Nat.le_refl _) _).alloc (by simp) _).alloc (by simp; omega) _
  rintro e w1 ⟨c1, rfl, hown1, hb1⟩
  have HB1 : Hid (Below w.heap.size w w1) := ((((Below.refl _ _).alloc (Nat.le_refl _) _).alloc (by simp) _).alloc (by simp; omega) _).trans (hb1.mono (by simp; omega))
  have hz1 : w.heap.size + 3 ≤ w1.heap.size := by have := hb1.size; simp at this; omega
  have hg12 : w.heap.size + 1 + 1 + 1 < w1.heap.size := by have := (hown1.lt _ rfl).2; simpa using this
  have p0 : w1.cell? ⟨w.heap.size + 1 + 1, 0, none⟩ = some (.string l.name) := bkeep hb1 (by go_simp)
  have p1 : w1.cell? ⟨w.heap.size + 1 + 1, 1, none⟩ = some (.slice none 0 0) := bkeep hb1 (by go_simp)
  have p2 : w1.cell? ⟨w.heap.size + 1 + 1, 2, none⟩ = some (.slice none 0 0) := bkeep hb1 (by go_simp)
  have r0 : w1.cell? ⟨w.heap.size + 1, 0, none⟩ = some (.string ⟨#[]⟩) := bkeep hb1 (by go_simp)
  have r1 : w1.cell? ⟨w.heap.size + 1, 1, none⟩ = some (.slice none 0 0) := bkeep hb1 (by go_simp)
  have r2 : w1.cell? ⟨w.heap.size + 1, 2, none⟩ = some (.slice none 0 0) := bkeep hb1 (by go_simp)
  have x2 : w1.cell? ⟨w.heap.size, 2, none⟩ = some (.slice a' l.runs.length c') := bkeep hb1 (by go_simp)
  have f1 : w1.frozen? ⟨w.heap.size + 1 + 1, 1, none⟩ = false := fkeep hb1 (by go_simp) (by go_simp)
  have f2 : w1.frozen? ⟨w.heap.size + 1 + 1, 2, none⟩ = false := fkeep hb1 (by go_simp) (by go_simp)
  have f3 : ∀ o, w1.frozen? ⟨w.heap.size + 1, o, none⟩ = false := fun o => fkeep hb1 (by simp) (by go_simp)
  simp only [World.size_alloc] at hown1
  have HO1 := Lib.hid hown1
  clear hown1 hb1
  go_wp2_with fail
  go_at_call 123
  refine (HR.out _ ?hb2).mono ?_
  case hb2 => exact Below.setCell (p := ⟨_, _, none⟩) HB1.out (by simp; omega) _
  rintro e w2 ⟨c2, rfl, hown2, hb2⟩
  have q0 : w2.cell? ⟨w.heap.size + 1 + 1, 0, none⟩ = some (.string l.name) := bkeep hb2 (by go_simp)
  have q1 : w2.cell? ⟨w.heap.size + 1 + 1, 1, none⟩ = some (.slice (some ⟨w.heap.size + 1 + 1 + 1, 0, none⟩) l.stops.length c1) := bkeep hb2 (by go_simp)
  have q2 : w2.cell? ⟨w.heap.size + 1 + 1, 2, none⟩ = some (.slice none 0 0) := bkeep hb2 (by go_simp)
  have s0 : w2.cell? ⟨w.heap.size + 1, 0, none⟩ = some (.string ⟨#[]⟩) := bkeep hb2 (by go_simp)
  have s1 : w2.cell? ⟨w.heap.size + 1, 1, none⟩ = some (.slice none 0 0) := bkeep hb2 (by go_simp)
  have s2 : w2.cell? ⟨w.heap.size + 1, 2, none⟩ = some (.slice none 0 0) := bkeep hb2 (by go_simp)
  have g2 : w2.frozen? ⟨w.heap.size + 1 + 1, 2, none⟩ = false := fkeep hb2 (by simp; omega) (by go_simp)
  have g3 : ∀ o, w2.frozen? ⟨w.heap.size + 1, o, none⟩ = false := fun o => fkeep hb2 (by simp; omega) (by go_simp)
  have hz2 : w1.heap.size ≤ w2.heap.size := by have := hb2.size; simp at this; omega
  have HBB : Hid (Below w.heap.size w w2) := (Below.setCell (p := ⟨w.heap.size + 1 + 1, 1, none⟩) HB1.out (by simp; omega) _).trans (hb2.mono (by simp; omega))
  rw [show (w1.setCell ⟨w.heap.size + 1 + 1, 1, none⟩ (.slice (some ⟨w.heap.size + 1 + 1 + 1, 0, none⟩) l.stops.length c1)).heap.size = w1.heap.size by simp [World.setCell]] at hown2
  have HO2 := Lib.hid hown2
  have HOL := Lib.hid (own_later (own_other HO1.out (p := ⟨w.heap.size + 1 + 1, 1, none⟩) (by simp [Value.ownBlock]) _) hb2)
  clear hb2 hown2
  go_wp2_with fail
  refine bodyPost_ret (v := .agg #[.string l.name, .slice (some ⟨w.heap.size + 1 + 1 + 1, 0, none⟩) l.stops.length c1, .slice (some ⟨w1.heap.size, 0, none⟩) l.runs.length c2]) (by simp only [results, Try.results108]; go_simp) rfl ?_
  refine ⟨_, c1, _, c2, rfl, ?_, ?_, hg12, ?_⟩
  · exact own_base (ownsRow_setCell_below (ownsRow_setCell_below (ownsRow_setCell_below (ownsRow_setCell_below HOL.out (by simp <;> omega) _) (by simp <;> omega) _) (by simp <;> omega) _) (by simp <;> omega) _) (by omega)
  · exact own_base (ownsRow_setCell_below (ownsRow_setCell_below (ownsRow_setCell_below (ownsRow_setCell_below HO2.out (by simp <;> omega) _) (by simp <;> omega) _) (by simp <;> omega) _) (by simp <;> omega) _) (by omega)
  · exact ((((HBB.out.setCell (by simp; omega) _).setCell (by simp) _).setCell (by simp) _).setCell (by simp) _)
end Go.Proofs.Ytfgkfdkdjegaiaa

namespace Go.Proofs.Ytfgkfdkdjegaiaa
open Go.RowKit
set_option linter.unusedVariables false

theorem LineOwn.set {B : Nat} {w : World} {b o : Nat} {l : LineD} (h : LineOwn B w b o l) (i : Nat) (u : Value) (h0 : i ≠ o) (h1 : i ≠ o + 1) (h2 : i ≠ o + 2) : LineOwn B (w.setCell ⟨b, i, none⟩ u) b o l := by
  obtain ⟨sv, rv, c0, c1, c2, r1, r2, n1, n2⟩ := h
  exact ⟨sv, rv, (set_other h0).trans c0, (set_other h1).trans c1, (set_other h2).trans c2, own_other r1 n1 _, own_other r2 n2 _, n1, n2⟩
theorem lineOwn_new {B : Nat} {w : World} {b o : Nat} {l : LineD} {sv rv z0 z1 z2 : Value} (c0 : w.cell? ⟨b, o, none⟩ = some z0) (c1 : w.cell? ⟨b, o + 1, none⟩ = some z1) (c2 : w.cell? ⟨b, o + 2, none⟩ = some z2)
    (r1 : w.ownsRow B 3 1 sv l.stops.length (ints l.stops)) (r2 : w.ownsRow B 3 1 rv l.runs.length (ints l.runs)) (n1 : sv.ownBlock ≠ some b) (n2 : rv.ownBlock ≠ some b) :
    LineOwn B (((w.setCell ⟨b, o, none⟩ (.string l.name)).setCell ⟨b, o + 1, none⟩ sv).setCell ⟨b, o + 2, none⟩ rv) b o l := by
  refine ⟨sv, rv, ?_, ?_, ?_, own_other (own_other (own_other r1 n1 _) n1 _) n1 _, own_other (own_other (own_other r2 n2 _) n2 _) n2 _, n1, n2⟩
  · exact (set_other (by omega)).trans ((set_other (by omega)).trans (set_same c0))
  · exact (set_other (by omega)).trans (set_same (z := z1) ((set_other (by omega)).trans c1))
  · exact set_same (z := z2) ((set_other (by omega)).trans ((set_other (by omega)).trans c2))

theorem apart_step {W w1 : World} {g k B : Nat} {z0 z1 z2 nm sv rv : Value} {g1 g2 : Nat} (h : RowsApart W g k) (hl : ∀ j, j < k → ∃ l, LineOwn B W g (j * 3) l) (hb : Below W.heap.size W w1) (hg : g < W.heap.size)
    (q0 : w1.cell? ⟨g, k * 3, none⟩ = some z0) (q1 : w1.cell? ⟨g, k * 3 + 1, none⟩ = some z1) (q2 : w1.cell? ⟨g, k * 3 + 2, none⟩ = some z2) (es : sv.ownBlock = some g1) (er : rv.ownBlock = some g2) (b1 : W.heap.size ≤ g1) (b2 : W.heap.size ≤ g2) (h12 : g1 < g2) :
    RowsApart (((w1.setCell ⟨g, k * 3, none⟩ nm).setCell ⟨g, k * 3 + 1, none⟩ sv).setCell ⟨g, k * 3 + 2, none⟩ rv) g (k + 1) := by
  have val : ∀ j i v, j < k + 1 → (i = 1 ∨ i = 2) → (((w1.setCell ⟨g, k * 3, none⟩ nm).setCell ⟨g, k * 3 + 1, none⟩ sv).setCell ⟨g, k * 3 + 2, none⟩ rv).cell? ⟨g, j * 3 + i, none⟩ = some v →
      (j < k ∧ W.cell? ⟨g, j * 3 + i, none⟩ = some v ∧ ∀ b, v.ownBlock = some b → b < W.heap.size) ∨ (j = k ∧ i = 1 ∧ v.ownBlock = some g1) ∨ (j = k ∧ i = 2 ∧ v.ownBlock = some g2) := by
    intro j i v hj hi hc
    by_cases hjk : j < k
    · rw [set_other (by omega), set_other (by omega), set_other (by omega), hb.cell (p := ⟨g, j * 3 + i, none⟩) hg] at hc
      refine .inl ⟨hjk, hc, fun b hvb => ?_⟩
      obtain ⟨l, s, r, c0, c1, c2, r1, r2, _⟩ := hl j hjk
      rcases hi with rfl | rfl
      · rw [c1] at hc; cases hc; exact (r1.lt b hvb).2
      · rw [c2] at hc; cases hc; exact (r2.lt b hvb).2
    · have : j = k := by omega
      subst this
      rcases hi with rfl | rfl
      · rw [set_other (by omega)] at hc
        rw [set_same (z := z1) ((set_other (by omega)).trans q1)] at hc
        cases hc; exact .inr (.inl ⟨rfl, rfl, es⟩)
      · rw [set_same (z := z2) ((set_other (by omega)).trans ((set_other (by omega)).trans q2))] at hc
        cases hc; exact .inr (.inr ⟨rfl, rfl, er⟩)
  intro j i j' i' v v' hj hj' hi hi' hne hc hc'
  rcases val j i v hj hi hc with ⟨a1, a2, a3⟩ | ⟨rfl, rfl, a3⟩ | ⟨rfl, rfl, a3⟩ <;> rcases val j' i' v' hj' hi' hc' with ⟨d1, d2, d3⟩ | ⟨e1, rfl, d3⟩ | ⟨e1, rfl, d3⟩
  · exact h j i j' i' v v' a1 d1 hi hi' hne a2 d2
  · rw [d3]; by_cases hv : v.ownBlock = none
    · exact .inl hv
    · exact .inr fun e => by have := a3 g1 e; omega
  · rw [d3]; by_cases hv : v.ownBlock = none
    · exact .inl hv
    · exact .inr fun e => by have := a3 g2 e; omega
  · rw [a3]; exact .inr fun e => by have := d3 g1 e.symm; omega
  · omega
  · rw [a3, d3]; exact .inr fun e => by simp at e; omega
  · rw [a3]; exact .inr fun e => by have := d3 g2 e.symm; omega
  · rw [a3, d3]; exact .inr fun e => by simp at e; omega
  · omega

set_option maxHeartbeats 1000000 in
theorem toLineS_any (v : Value) (ls : List LineD) (w : World) (hr : LinesAt w v ls) (hn : ls.length ≤ 1048576) (hl : ∀ l ∈ ls, l.stops.length ≤ 1048576 ∧ l.runs.length ≤ 1048576) :
    Calls Try.prog 87 #[v] w fun e w' => ∃ v', e = .returned v' ∧ LinesOwn w.heap.size w' v' ls ∧ Below w.heap.size w w' := by
  obtain ⟨a, c, rfl, hc, hm, HC⟩ := lines_open hr
  clear hr
  have HL := Lib.hid hl
  clear hl
  obtain ⟨i0, hi, hz0, hz1, hz2⟩ := info_parts infoLine
  go_enter Try.func87, Try.ntmps87
  go_wp2_with (at_make; refine wpList_make_full _ rfl _ _ 25 rfl w.heap.size 98 i0 _ 3 Try.underlying25 hi hz0 hz1 .i64 .i64 (ls.length : Int) (ls.length : Int) ls.length rfl rfl rfl rfl ?c1 ?c2 ?c3 ?_)
  case c1 => rw [hz2]; omega
  case c2 => unfold maxLen; omega
  case c3 => exact Nat.le_refl _
  intro w1 hown hgrow
  have hbel : Below w.heap.size w w1 := (Below.refl _ _).grown hgrow (Nat.le_refl _) (fun k hk => by cases hk)
  generalize Array.toList (madeCells _ _) = z0 at *
  clear hgrow
  go_wp2
  go_loopw [4] (fun i wr => ∃ k : Nat, k ≤ ls.length ∧ i = .int .i64 k ∧ (∃ zs : List Value, wr.ownsRow w.heap.size 98 3 (.slice (some ⟨w.heap.size, 0, none⟩) ls.length ls.length) ls.length zs) ∧
      Hid (∀ j (hj : j < ls.length), j < k → LineOwn w.heap.size wr w.heap.size (j * 3) ls[j]) ∧ Hid (RowsApart wr w.heap.size k) ∧ Below w.heap.size w wr)
    (fun i _ => ls.length - (RowKit.intOf i).toNat)
  case atStart => exact ⟨0, Nat.zero_le _, rfl, ⟨z0, hown⟩, fun j hj h => by omega, fun j i j' i' v v' h => by omega, hbel⟩
  case round =>
    obtain ⟨k, hk, rfl, ⟨zs, hown⟩, HT, HAp, hbel⟩ := hrel
    by_cases hlt : k < ls.length
    · obtain ⟨b, off, rfl, hbl, hla⟩ := HC.out k hlt
      obtain ⟨sv, rv, y0, y1, y2, hlv⟩ := hla.toV
      have hx0 := hbel.cell (p := ⟨b, off + k * 3, none⟩) hbl
      rw [y0] at hx0
      have hx1 := hbel.cell (p := ⟨b, off + k * 3 + 1, none⟩) hbl
      rw [y1] at hx1
      have hx2 := hbel.cell (p := ⟨b, off + k * 3 + 2, none⟩) hbl
      rw [y2] at hx2
      have hll := HL.out _ (List.getElem_mem hlt)
      have HTo := Lib.hid (toLine_any _ ls[k] wr (hlv.below rfl hbel) hll.1 hll.2)
      have HBel := Lib.hid hbel
      have HOwn := Lib.hid hown
      clear hla hlv y0 y1 y2 hll hbel hown
      go_wp2_with fail
      go_at_call 108
      refine HTo.out.mono ?_
      rintro e w1 ⟨g1, c1, g2, c2, rfl, ho1, ho2, hg12, hb1⟩
      have hown1 := own_later HOwn.out hb1
      have hlen := hown1.1
      have hz : ∀ o, o < ls.length * 3 → ∃ u, w1.cell? ⟨w.heap.size, o, none⟩ = some u := fun o ho => by
        rw [hown1.cellAt o ho]; exact ⟨_, List.getElem?_eq_getElem (by omega)⟩
      obtain ⟨u0, q0⟩ := hz (k * 3) (by omega)
      obtain ⟨u1, q1⟩ := hz (k * 3 + 1) (by omega)
      obtain ⟨u2, q2⟩ := hz (k * 3 + 2) (by omega)
      have hf := fun o => hown1.frozenAt o
      have hle : w.heap.size < wr.heap.size := (HOwn.out.lt w.heap.size rfl).2
      have n1 : (Value.slice (some ⟨g1, 0, none⟩) ls[k].stops.length c1).ownBlock ≠ some w.heap.size := fun e => by have := (ho1.lt _ e).1; omega
      have n2 : (Value.slice (some ⟨g2, 0, none⟩) ls[k].runs.length c2).ownBlock ≠ some w.heap.size := fun e => by have := (ho2.lt _ e).1; omega
      have HNew := Lib.hid (lineOwn_new q0 q1 q2 (own_base ho1 (Nat.le_of_lt hle)) (own_base ho2 (Nat.le_of_lt hle)) n1 n2)
      have HOwn2 := Lib.hid ((((hown1.stored (k * 3) (.string ls[k].name)).1.stored (k * 3 + 1) (.slice (some ⟨g1, 0, none⟩) ls[k].stops.length c1)).1.stored (k * 3 + 2) (.slice (some ⟨g2, 0, none⟩) ls[k].runs.length c2)).1)
      have HOld : Hid (∀ j (hj : j < ls.length), j < k → LineOwn w.heap.size (((w1.setCell ⟨w.heap.size, k * 3, none⟩ (.string ls[k].name)).setCell ⟨w.heap.size, k * 3 + 1, none⟩ (.slice (some ⟨g1, 0, none⟩) ls[k].stops.length c1)).setCell ⟨w.heap.size, k * 3 + 2, none⟩ (.slice (some ⟨g2, 0, none⟩) ls[k].runs.length c2)) w.heap.size (j * 3) ls[j]) := fun j hj hjk =>
        ((((HT.out j hj hjk).later hb1).set _ _ (by omega) (by omega) (by omega)).set _ _ (by omega) (by omega) (by omega)).set _ _ (by omega) (by omega) (by omega)
      have HAp2 := Lib.hid (apart_step (nm := .string ls[k].name) (sv := .slice (some ⟨g1, 0, none⟩) ls[k].stops.length c1) (rv := .slice (some ⟨g2, 0, none⟩) ls[k].runs.length c2) HAp.out (fun j hj => ⟨_, HT.out j (by omega) hj⟩) hb1 hle q0 q1 q2 rfl rfl (ho1.lt g1 rfl).1 (ho2.lt g2 rfl).1 hg12)
      have HB1 : Hid (Below w.heap.size w w1) := HBel.out.trans (hb1.mono (Nat.le_of_lt hle))
      clear hown1 ho1 ho2 hb1 hz n1 n2 hx0 hx1 hx2 HOwn HT HAp hg12
      go_wp2_with fail
      go_roundw
      case rel =>
        refine ⟨k + 1, by omega, by go_num, ⟨_, HOwn2.out⟩, fun j hj hjk => ?_, HAp2.out, ((HB1.out.setCell (p := ⟨w.heap.size, _, none⟩) (Nat.le_refl _) _).setCell (p := ⟨w.heap.size, _, none⟩) (Nat.le_refl _) _).setCell (p := ⟨w.heap.size, _, none⟩) (Nat.le_refl _) _⟩
        by_cases e : j = k
        · subst e; exact HNew.out
        · exact HOld.out j hj (by omega)
      case measure => simp [RowKit.intOf]; omega
    · go_wp2
      go_ret
      refine ⟨_, rfl, ?_, hbel⟩
      obtain ⟨h1, h2⟩ := hown
      rcases h2 with ⟨hv, _⟩ | ⟨g, cap, cur, hv, hg, hh, r1, r2, r3, _⟩
      · simp at hv
      · simp at hv
        obtain ⟨rfl, rfl⟩ := hv
        exact ⟨w.heap.size, ls.length, cur, rfl, Nat.le_refl _, hh, Nat.le_refl _, r2, r3, fun j l hj => by
          have hjl := (List.getElem?_eq_some_iff.1 hj).1
          have he := (List.getElem?_eq_some_iff.1 hj).2
          rw [← he]; exact HT.out j hjl (by omega), by have := HAp.out; rw [show k = ls.length by omega] at this; exact this⟩
set_option maxHeartbeats 1000000 in
theorem toNetwork_any (v : Value) (n : NetD) (w : World) (hr : NetAt w v n) (hn : n.stops.length ≤ 1048576) (hn' : n.lines.length ≤ 1048576) (hl : ∀ l ∈ n.lines, l.stops.length ≤ 1048576 ∧ l.runs.length ≤ 1048576) :
    Calls Try.prog 43 #[v] w fun e w' => ∃ a c a' c', e = .returned (.agg #[.slice a n.stops.length c, .slice a' n.lines.length c']) ∧ NetOwn w.heap.size w' (.agg #[.slice a n.stops.length c, .slice a' n.lines.length c']) n ∧ Below w.heap.size w w' := by
  obtain ⟨sv, lv, rfl, hs, hrr⟩ := hr
  obtain ⟨a, c, rfl, hc, hm, HC⟩ := strs_open hs
  obtain ⟨a', c', rfl, hc', hm', HC'⟩ := lines_open hrr
  have HS := Lib.hid (fun W (hW : Below w.heap.size w W) => toStringS_any _ _ W (hs.below rfl hW) hn)
  have HR := Lib.hid (fun W (hW : Below w.heap.size w W) => toLineS_any _ _ W (hrr.below rfl hW) hn' hl)
  clear hs hrr hl
  go_enter Try.func43, Try.ntmps43
  go_wp2_with fail
  go_at_call 86
  refine (HS.out _ ?hb).mono ?_
  case hb => exact (((Below.refl _ _).alloc (Nat.le_refl _) _).alloc (by simp) _).alloc (by simp; omega) _
  rintro e w1 ⟨v1, rfl, hown1, hb1⟩
  obtain ⟨a1, c1, rfl⟩ := own_shape hown1
  have HLt : Hid (∀ b, (Value.slice a1 n.stops.length c1).ownBlock = some b → b < w1.heap.size) := fun b hb => (hown1.lt b hb).2
  have HB1 : Hid (Below w.heap.size w w1) := ((((Below.refl _ _).alloc (Nat.le_refl _) _).alloc (by simp) _).alloc (by simp; omega) _).trans (hb1.mono (by simp; omega))
  have p0 : w1.cell? ⟨w.heap.size + 1 + 1, 0, none⟩ = some (.slice none 0 0) := bkeep hb1 (by go_simp)
  have p1 : w1.cell? ⟨w.heap.size + 1 + 1, 1, none⟩ = some (.slice none 0 0) := bkeep hb1 (by go_simp)
  have r0 : w1.cell? ⟨w.heap.size + 1, 0, none⟩ = some (.slice none 0 0) := bkeep hb1 (by go_simp)
  have r1 : w1.cell? ⟨w.heap.size + 1, 1, none⟩ = some (.slice none 0 0) := bkeep hb1 (by go_simp)
  have x1 : w1.cell? ⟨w.heap.size, 1, none⟩ = some (.slice a' n.lines.length c') := bkeep hb1 (by go_simp)
  have f0 : w1.frozen? ⟨w.heap.size + 1 + 1, 0, none⟩ = false := fkeep hb1 (by simp) (by go_simp)
  have f1 : w1.frozen? ⟨w.heap.size + 1 + 1, 1, none⟩ = false := fkeep hb1 (by simp) (by go_simp)
  have f3 : ∀ o, w1.frozen? ⟨w.heap.size + 1, o, none⟩ = false := fun o => fkeep hb1 (by simp) (by go_simp)
  simp only [World.size_alloc] at hown1
  have hz1 : w.heap.size + 3 ≤ w1.heap.size := by have := hb1.size; simp at this; omega
  have HO1 := Lib.hid hown1
  clear hown1 hb1
  go_wp2_with fail
  go_at_call 87
  refine (HR.out _ ?hb2).mono ?_
  case hb2 => exact Below.setCell (p := ⟨_, _, none⟩) HB1.out (by simp; omega) _
  rintro e w2 ⟨v2, rfl, hown2, hb2⟩
  obtain ⟨g2, c2, cur, rfl, hg2, hrest⟩ := hown2
  have hsz : (w1.setCell ⟨w.heap.size + 1 + 1, 0, none⟩ (.slice a1 n.stops.length c1)).heap.size = w1.heap.size := by simp [World.setCell]
  have hown2 : LinesOwn w1.heap.size w2 (.slice (some ⟨g2, 0, none⟩) n.lines.length c2) n.lines := by rw [hsz] at hg2 hrest; exact ⟨g2, c2, cur, rfl, hg2, hrest⟩
  have q0 : w2.cell? ⟨w.heap.size + 1 + 1, 0, none⟩ = some (.slice a1 n.stops.length c1) := bkeep hb2 (by go_simp)
  have q1 : w2.cell? ⟨w.heap.size + 1 + 1, 1, none⟩ = some (.slice none 0 0) := bkeep hb2 (by go_simp)
  have s0 : w2.cell? ⟨w.heap.size + 1, 0, none⟩ = some (.slice none 0 0) := bkeep hb2 (by go_simp)
  have s1 : w2.cell? ⟨w.heap.size + 1, 1, none⟩ = some (.slice none 0 0) := bkeep hb2 (by go_simp)
  have e1 : w2.frozen? ⟨w.heap.size + 1 + 1, 1, none⟩ = false := fkeep hb2 (by simp; omega) (by go_simp)
  have e3 : ∀ o, w2.frozen? ⟨w.heap.size + 1, o, none⟩ = false := fun o => fkeep hb2 (by simp; omega) (by go_simp)
  have hz2 : w1.heap.size ≤ w2.heap.size := by have := hb2.size; rw [hsz] at this; exact this
  have HBB : Hid (Below w.heap.size w w2) := (Below.setCell (p := ⟨w.heap.size + 1 + 1, 0, none⟩) HB1.out (by simp; omega) _).trans (hb2.mono (by simp; omega))
  have HO2 := Lib.hid hown2
  have HOL := Lib.hid (own_later (ownsRow_setCell_below HO1.out (a := ⟨w.heap.size + 1 + 1, 0, none⟩) (by simp) (.slice a1 n.stops.length c1)) hb2)
  clear hb2 hown2 hrest hg2 hsz
  go_wp2_with fail
  refine bodyPost_ret (v := .agg #[.slice a1 n.stops.length c1, .slice (some ⟨g2, 0, none⟩) n.lines.length c2]) (by simp only [results, Try.results43]; go_simp) rfl ?_
  refine ⟨_, _, _, _, rfl, ⟨_, _, w1.heap.size, rfl, ?_, ?_, by omega, HLt.out⟩, ?_⟩
  · exact own_base (ownsRow_setCell_below (ownsRow_setCell_below (ownsRow_setCell_below HOL.out (by simp) _) (by simp) _) (by simp) _) (by omega)
  · exact (((HO2.out.far _ (by simp; omega)).far _ (by simp; omega)).far _ (by simp; omega))
  · exact (((HBB.out.setCell (by simp; omega) _).setCell (by simp) _).setCell (by simp) _)
end Go.Proofs.Ytfgkfdkdjegaiaa

namespace Go.Proofs.Ytfgkfdkdjegaiaa
open Go.RowKit
set_option linter.unusedVariables false

/-- a network whose letters and numbers are counted -/
def LineSmall (l : LineD) : Prop := l.name.size ≤ 1048576 ∧ l.stops.length ≤ 1048576 ∧ l.runs.length ≤ 1048576
def lineSz (l : LineD) : Nat := l.name.size + l.stops.length + l.runs.length
def lineTot (ls : List LineD) : Nat := (ls.map lineSz).sum
theorem lineTot_take (ls : List LineD) (k : Nat) (h : k < ls.length) : lineTot (ls.take (k + 1)) = lineTot (ls.take k) + lineSz (ls[k]'h) := by
  rw [List.take_succ_eq_append_getElem h]; simp only [lineTot, List.map_append, List.sum_append, List.map_cons, List.map_nil, List.sum_cons, List.sum_nil]; omega
def NetSmall (n : NetD) : Prop := n.stops.length ≤ 1048576 ∧ n.lines.length ≤ 1048576 ∧ (∀ l ∈ n.lines, LineSmall l) ∧ n.stops.length + n.lines.length + lineTot n.lines ≤ 1048576

theorem szLine_any (v : Value) (l : LineD) (left : Int) (w : World) (hr : LineV w v l) (hf : LineFits l) (h0 : 0 ≤ left) (h1 : left ≤ 1048576) :
    Calls Try.prog 107 #[v, .int .i64 left] w fun e w' => (∃ r : Int, e = .returned (.int .i64 r) ∧ (r = -1 ∨ (0 ≤ r ∧ (lineSz l : Int) + r = left ∧ LineSmall l))) ∧ Below w.heap.size w w' := by
  obtain ⟨sv, rv, rfl, hs, hrr⟩ := hr
  have hnm := hf.1
  unfold maxLen at hnm
  have HS := Lib.hid (fun W (hW : Below w.heap.size w W) r (g0 : 0 ≤ r) (g1 : r ≤ 1048576) => szIntS_any sv l.stops r W (hs.below rfl hW) g0 g1)
  have HR := Lib.hid (fun W (hW : Below w.heap.size w W) r (g0 : 0 ≤ r) (g1 : r ≤ 1048576) => szIntS_any rv l.runs r W (hrr.below rfl hW) g0 g1)
  obtain ⟨a, c, rfl, hc, hm, _⟩ := ints_open hs
  obtain ⟨a', c', rfl, hc', hm', _⟩ := ints_open hrr
  clear hs hrr hf
  by_cases hneg : left - (l.name.size : Int) < 0
  · go_enter Try.func107, Try.ntmps107
    go_wp2_with fail
    go_ret
    exact ⟨⟨-1, rfl, .inl rfl⟩, (Below.refl _ _).alloc (Nat.le_refl _) _⟩
  · go_enter Try.func107, Try.ntmps107
    go_wp2_with fail
    go_at_call 122
    refine (HS.out _ ((Below.refl _ _).alloc (Nat.le_refl _) _) _ (by omega) (by omega)).mono ?_
    rintro e w1 ⟨⟨r1, rfl, hr1⟩, rfl⟩
    rcases hr1 with rfl | ⟨hp1, he1⟩
    · go_wp2_with fail
      go_ret
      exact ⟨⟨-1, rfl, .inl rfl⟩, (Below.refl _ _).alloc (Nat.le_refl _) _⟩
    · have HE1 := Lib.hid he1
      have hb1 : r1 ≤ left := by omega
      clear he1
      go_wp2_with fail
      go_at_call 122
      refine (HR.out _ ((Below.refl _ _).alloc (Nat.le_refl _) _) _ (by omega) (by omega)).mono ?_
      rintro e w1 ⟨⟨r2, rfl, hr2⟩, rfl⟩
      rcases hr2 with rfl | ⟨hp2, he2⟩
      · go_wp2_with fail
        go_ret
        exact ⟨⟨-1, rfl, .inl rfl⟩, (Below.refl _ _).alloc (Nat.le_refl _) _⟩
      · have HE2 := Lib.hid he2
        clear he2
        go_wp2_with fail
        go_ret
        have e1 := HE1.out
        have e2 := HE2.out
        exact ⟨⟨r2, rfl, .inr ⟨hp2, by unfold lineSz; omega, by omega, by omega, by omega⟩⟩, (Below.refl _ _).alloc (Nat.le_refl _) _⟩

set_option maxHeartbeats 1000000 in
theorem szLineS_any (v : Value) (ls : List LineD) (left : Int) (w : World) (hr : LinesAt w v ls) (hf : ∀ l ∈ ls, LineFits l) (h0 : 0 ≤ left) (h1 : left ≤ 1048576) :
    Calls Try.prog 85 #[v, .int .i64 left] w fun e w' => (∃ r : Int, e = .returned (.int .i64 r) ∧ (r = -1 ∨ (0 ≤ r ∧ (ls.length : Int) + lineTot ls + r = left ∧ ∀ l ∈ ls, LineSmall l))) ∧ Below w.heap.size w w' := by
  obtain ⟨a, c, rfl, hc, hm, HC⟩ := lines_open hr
  have HF := Lib.hid hf
  clear hr hf
  by_cases hneg : left - (ls.length : Int) < 0
  · go_enter Try.func85, Try.ntmps85
    go_wp2
    go_ret
    exact ⟨⟨-1, rfl, .inl rfl⟩, Below.refl _ _⟩
  · go_enter Try.func85, Try.ntmps85
    go_wp2_with fail
    go_loopw [1, 5] (fun l i wr => ∃ k : Nat, k ≤ ls.length ∧ i = .int .i64 k ∧ (∃ r : Int, l = .int .i64 r ∧ 0 ≤ r ∧ r ≤ 1048576 ∧ Hid ((ls.length : Int) + lineTot (ls.take k) + r = left)) ∧ Hid (∀ x ∈ ls.take k, LineSmall x) ∧ Below w.heap.size w wr)
      (fun _ i _ => ls.length - (RowKit.intOf i).toNat)
    case atStart => exact ⟨0, Nat.zero_le _, rfl, ⟨_, rfl, by omega, by omega, by show _ = _; simp [lineTot]; omega⟩, by intro x hx; simp at hx, Below.refl _ _⟩
    case round =>
      obtain ⟨k, hk, rfl, ⟨r, rfl, hr0, hr1, HR⟩, HS, hbel⟩ := hrel
      by_cases hlt : k < ls.length
      · obtain ⟨b, off, rfl, hbl, hla⟩ := HC.out k hlt
        obtain ⟨sv, rv, y0, y1, y2, hlv⟩ := hla.toV
        have hx0 := hbel.cell (p := ⟨b, off + k * 3, none⟩) hbl
        rw [y0] at hx0
        have hx1 := hbel.cell (p := ⟨b, off + k * 3 + 1, none⟩) hbl
        rw [y1] at hx1
        have hx2 := hbel.cell (p := ⟨b, off + k * 3 + 2, none⟩) hbl
        rw [y2] at hx2
        have HSz := Lib.hid (szLine_any _ ls[k] r wr (hlv.below rfl hbel) (HF.out _ (List.getElem_mem hlt)) hr0 hr1)
        have HBel := Lib.hid hbel
        clear hla hlv y0 y1 y2 hbel
        go_wp2_with fail
        go_at_call 107
        refine HSz.out.mono ?_
        rintro e w1 ⟨⟨r2, rfl, hr2⟩, hb1⟩
        have HB1 : Hid (Below w.heap.size w w1) := HBel.out.trans (hb1.mono HBel.out.size)
        clear hb1
        rcases hr2 with rfl | ⟨hp2, hle0, hsm⟩
        · go_wp2_with fail
          go_ret
          exact ⟨⟨-1, rfl, .inl rfl⟩, HB1.out⟩
        · have HS2 : Hid (∀ x ∈ ls.take (k + 1), LineSmall x) := by
            intro x hx
            rw [List.take_succ_eq_append_getElem hlt] at hx
            rcases List.mem_append.1 hx with h | h
            · exact HS.out x h
            · have : x = ls[k] := by simpa using h
              rw [this]; exact hsm
          have HR2 : Hid ((ls.length : Int) + lineTot (ls.take (k + 1)) + r2 = left) := by have h1 := HR.out; have h2 := lineTot_take ls k hlt; show _ = _; omega
          have hle : r2 ≤ r := by omega
          clear hsm hle0
          go_wp2_with fail
          go_roundw
          case rel => exact ⟨k + 1, by omega, by go_num, ⟨_, rfl, hp2, by omega, HR2⟩, HS2, HB1.out⟩
          case measure => simp [RowKit.intOf]; omega
      · have HS2 : Hid (∀ x ∈ ls, LineSmall x) := by have := HS.out; rw [List.take_of_length_le (by omega)] at this; exact this
        go_wp2_with fail
        go_ret
        exact ⟨⟨r, rfl, .inr ⟨hr0, by have h1 := HR.out; rw [List.take_of_length_le (by omega)] at h1; exact h1, HS2.out⟩⟩, hbel⟩

theorem szNetwork_any (v : Value) (n : NetD) (w : World) (hr : NetAt w v n) (hf : NetFits n) :
    Calls Try.prog 40 #[v, .int .i64 1048576] w fun e w' => (∃ r : Int, e = .returned (.int .i64 r) ∧ (r = -1 ∨ (0 ≤ r ∧ NetSmall n))) ∧ Below w.heap.size w w' := by
  obtain ⟨sv, lv, rfl, hs, hrr⟩ := hr
  have HS := Lib.hid (fun W (hW : Below w.heap.size w W) => szStringS_any sv n.stops 1048576 W (hs.below rfl hW) hf.1 (by omega) (by omega))
  have HR := Lib.hid (fun W (hW : Below w.heap.size w W) r (g0 : 0 ≤ r) (g1 : r ≤ 1048576) => szLineS_any lv n.lines r W (hrr.below rfl hW) hf.2 g0 g1)
  obtain ⟨a, c, rfl, hc, hm, _⟩ := strs_open hs
  obtain ⟨a', c', rfl, hc', hm', _⟩ := lines_open hrr
  clear hs hrr hf
  go_enter Try.func40, Try.ntmps40
  go_wp2_with fail
  go_at_call 84
  refine (HS.out _ ((Below.refl _ _).alloc (Nat.le_refl _) _)).mono ?_
  rintro e w1 ⟨⟨r1, rfl, hr1⟩, rfl⟩
  rcases hr1 with rfl | ⟨hp1, he1⟩
  · go_wp2_with fail
    go_ret
    exact ⟨⟨-1, rfl, .inl rfl⟩, (Below.refl _ _).alloc (Nat.le_refl _) _⟩
  · have hb1 : r1 ≤ 1048576 ∧ n.stops.length ≤ 1048576 := by omega
    have hb3 : (n.stops.length : Int) + r1 ≤ 1048576 := by omega
    obtain ⟨hb1, hb2⟩ := hb1
    clear he1
    go_wp2_with fail
    go_at_call 85
    refine (HR.out _ ((Below.refl _ _).alloc (Nat.le_refl _) _) _ hp1 hb1).mono ?_
    rintro e w2 ⟨⟨r2, rfl, hr2⟩, hbw⟩
    have HBW : Hid (Below w.heap.size w w2) := ((Below.refl _ _).alloc (Nat.le_refl _) _).trans (hbw.mono (by simp))
    clear hbw
    rcases hr2 with rfl | ⟨hp2, hsm⟩
    · go_wp2_with fail
      go_ret
      exact ⟨⟨-1, rfl, .inl rfl⟩, HBW.out⟩
    · have HSm := Lib.hid hsm
      clear hsm
      go_wp2_with fail
      go_ret
      exact ⟨⟨r2, rfl, .inr ⟨hp2, hb2, by have := HSm.out.1; omega, HSm.out.2, by have := HSm.out.1; omega⟩⟩, HBW.out⟩
end Go.Proofs.Ytfgkfdkdjegaiaa

namespace Go.Proofs.Ytfgkfdkdjegaiaa
open Go.RowKit
set_option linter.unusedVariables false

theorem eqLine_same (v v' : Value) (l : LineD) (w : World) (hr : LineV w v l) (hr' : LineV w v' l) :
    Calls Try.prog 109 #[v, v'] w fun e w' => e = .returned (.bool true) ∧ Below w.heap.size w w' := by
  obtain ⟨sv, rv, rfl, hs, hrr⟩ := hr
  obtain ⟨sv', rv', rfl, hs', hrr'⟩ := hr'
  have HS := Lib.hid (fun W (hW : Below w.heap.size w W) => eqIntS_same sv sv' l.stops W (hs.below rfl hW) (hs'.below rfl hW))
  have HR := Lib.hid (fun W (hW : Below w.heap.size w W) => eqIntS_same rv rv' l.runs W (hrr.below rfl hW) (hrr'.below rfl hW))
  obtain ⟨a, c, rfl, _⟩ := ints_open hs
  obtain ⟨a', c', rfl, _⟩ := ints_open hrr
  obtain ⟨a2, c2, rfl, _⟩ := ints_open hs'
  obtain ⟨a2', c2', rfl, _⟩ := ints_open hrr'
  clear hs hrr hs' hrr'
  have hnn : (l.name.toList != l.name.toList) = false := by simp
  generalize l.name = nm at *
  go_enter Try.func109, Try.ntmps109
  go_wp2_with fail
  go_at_call 48
  refine (HS.out _ (((Below.refl _ _).alloc (Nat.le_refl _) _).alloc (by simp) _)).mono ?_
  rintro e w1 ⟨rfl, hb1⟩
  have HB1 : Hid (Below w.heap.size w w1) := (((Below.refl _ _).alloc (Nat.le_refl _) _).alloc (by simp) _).trans (hb1.mono (by simp; omega))
  have p2 : w1.cell? ⟨w.heap.size, 2, none⟩ = some (.slice a' l.runs.length c') := bkeep hb1 (by go_simp)
  have q2 : w1.cell? ⟨w.heap.size + 1, 2, none⟩ = some (.slice a2' l.runs.length c2') := bkeep hb1 (by go_simp)
  clear hb1
  go_wp2_with fail
  go_at_call 48
  refine (HR.out _ HB1.out).mono ?_
  rintro e w2 ⟨rfl, hb2⟩
  have HB2 : Hid (Below w.heap.size w w2) := HB1.out.trans (hb2.mono HB1.out.size)
  clear hb2
  go_wp2_with fail
  go_ret
  exact ⟨rfl, HB2.out⟩

theorem keepE {W w w' : World} {p0 p1 p2 p3 p4 p5 : Addr} {x0 x1 x2 x3 x4 x5 : Value} (hb : Below w.heap.size w w')
    (h : w.cell? p0 = some x0 ∧ w.cell? p1 = some x1 ∧ w.cell? p2 = some x2 ∧ w.cell? p3 = some x3 ∧ w.cell? p4 = some x4 ∧ w.cell? p5 = some x5 ∧ Below W.heap.size W w) :
    w'.cell? p0 = some x0 ∧ w'.cell? p1 = some x1 ∧ w'.cell? p2 = some x2 ∧ w'.cell? p3 = some x3 ∧ w'.cell? p4 = some x4 ∧ w'.cell? p5 = some x5 ∧ Below W.heap.size W w' := by
  obtain ⟨h0, h1, h2, h3, h4, h5, h6⟩ := h
  exact ⟨bkeep hb h0, bkeep hb h1, bkeep hb h2, bkeep hb h3, bkeep hb h4, bkeep hb h5, h6.trans (hb.mono h6.size)⟩

set_option maxHeartbeats 1000000 in
theorem eqLineS_same (v v' : Value) (ls : List LineD) (w : World) (hr : LinesAt w v ls) (hr' : LinesAt w v' ls) :
    Calls Try.prog 90 #[v, v'] w fun e w' => e = .returned (.bool true) ∧ Below w.heap.size w w' := by
  obtain ⟨a, c, rfl, hc, hm, HC⟩ := lines_open hr
  obtain ⟨a', c', rfl, hc', hm', HC'⟩ := lines_open hr'
  clear hr hr'
  go_enter Try.func90, Try.ntmps90
  go_wp2_with fail
  go_loopw [5] (fun i wr => ∃ k : Nat, k ≤ ls.length ∧ i = .int .i64 k ∧ Below w.heap.size w wr)
    (fun i _ => ls.length - (RowKit.intOf i).toNat)
  case atStart => exact ⟨0, Nat.zero_le _, rfl, Below.refl _ _⟩
  case round =>
    obtain ⟨k, hk, rfl, hbel⟩ := hrel
    by_cases hlt : k < ls.length
    · obtain ⟨b, off, rfl, hbl, hla⟩ := HC.out k hlt
      obtain ⟨b', off', rfl, hbl', hla'⟩ := HC'.out k hlt
      obtain ⟨sv, rv, y0, y1, y2, hlv⟩ := hla.toV
      obtain ⟨sv', rv', z0, z1, z2, hlv'⟩ := hla'.toV
      have hx0 := hbel.cell (p := ⟨b, off + k * 3, none⟩) hbl
      rw [y0] at hx0
      have hx1 := hbel.cell (p := ⟨b, off + k * 3 + 1, none⟩) hbl
      rw [y1] at hx1
      have hx2 := hbel.cell (p := ⟨b, off + k * 3 + 2, none⟩) hbl
      rw [y2] at hx2
      have hx0' := hbel.cell (p := ⟨b', off' + k * 3, none⟩) hbl'
      rw [z0] at hx0'
      have hx1' := hbel.cell (p := ⟨b', off' + k * 3 + 1, none⟩) hbl'
      rw [z1] at hx1'
      have hx2' := hbel.cell (p := ⟨b', off' + k * 3 + 2, none⟩) hbl'
      rw [z2] at hx2'
      have HEq := Lib.hid (fun W (hW : Below w.heap.size w W) => eqLine_same _ _ ls[k] W (hlv.below rfl hW) (hlv'.below rfl hW))
      have hk1 : (k : Int) < (ls.length : Int) := by omega
      clear hla hla' hlv hlv' y0 y1 y2 z0 z1 z2
      generalize ls[k].name = nm at *
      go_wp2_with fail
      go_region_held3 (fun w' => w'.cell? ⟨b, off + k * 3, none⟩ = some (.string nm) ∧ w'.cell? ⟨b, off + k * 3 + 1, none⟩ = some sv ∧ w'.cell? ⟨b, off + k * 3 + 2, none⟩ = some rv ∧
          w'.cell? ⟨b', off' + k * 3, none⟩ = some (.string nm) ∧ w'.cell? ⟨b', off' + k * 3 + 1, none⟩ = some sv' ∧ w'.cell? ⟨b', off' + k * 3 + 2, none⟩ = some rv' ∧ Below w.heap.size w w')
        (first | (exact ⟨hx0, hx1, hx2, hx0', hx1', hx2', hbel.drew⟩) | (exact keepE hb (by assumption)))
        ((go_at_call 109; refine (HEq.out _ hbel.drew).mono ?_; rintro e w' ⟨rfl, hb⟩))
      obtain ⟨_, _, _, _, _, _, qb⟩ := (by assumption : _ ∧ _)
      clear hx0 hx1 hx2 hx0' hx1' hx2' hbel
      go_wp2_with fail
      go_roundw
      case rel => exact ⟨k + 1, by omega, by go_num, qb⟩
      case measure => simp [RowKit.intOf]; omega
    · go_wp2_with fail
      go_ret
      exact ⟨rfl, hbel⟩

theorem eqNetwork_same (v v' : Value) (n : NetD) (w : World) (hr : NetAt w v n) (hr' : NetAt w v' n) (hn : n.stops.length ≤ 1048576) :
    Calls Try.prog 45 #[v, v'] w fun e w' => e = .returned (.bool true) ∧ Below w.heap.size w w' := by
  obtain ⟨sv, lv, rfl, hs, hrr⟩ := hr
  obtain ⟨sv', lv', rfl, hs', hrr'⟩ := hr'
  have HS := Lib.hid (fun W (hW : Below w.heap.size w W) => eqStringS_same sv sv' n.stops W (hs.below rfl hW) (hs'.below rfl hW) hn)
  have HR := Lib.hid (fun W (hW : Below w.heap.size w W) => eqLineS_same lv lv' n.lines W (hrr.below rfl hW) (hrr'.below rfl hW))
  obtain ⟨a, c, rfl, _⟩ := strs_open hs
  obtain ⟨a', c', rfl, _⟩ := lines_open hrr
  obtain ⟨a2, c2, rfl, _⟩ := strs_open hs'
  obtain ⟨a2', c2', rfl, _⟩ := lines_open hrr'
  clear hs hrr hs' hrr'
  go_enter Try.func45, Try.ntmps45
  go_wp2_with fail
  go_at_call 89
  refine (HS.out _ (((Below.refl _ _).alloc (Nat.le_refl _) _).alloc (by simp) _)).mono ?_
  rintro e w1 ⟨rfl, m, rfl⟩
  go_wp2_with fail
  go_at_call 90
  refine (HR.out _ (Below.trans (((Below.refl _ _).alloc (Nat.le_refl _) _).alloc (by simp) _) ((Dr.below ⟨m, rfl⟩).mono (by simp; omega)))).mono ?_
  rintro e w2 ⟨rfl, hb2⟩
  have HB2 : Hid (Below w.heap.size w w2) := (Below.trans (((Below.refl _ _).alloc (Nat.le_refl _) _).alloc (by simp) _) ((Dr.below ⟨m, rfl⟩).mono (by simp; omega))).trans (hb2.mono (by simp; omega))
  clear hb2
  go_wp2_with fail
  go_ret
  exact ⟨rfl, HB2.out⟩
end Go.Proofs.Ytfgkfdkdjegaiaa

namespace Go.Proofs.Ytfgkfdkdjegaiaa
open Go.RowKit
set_option linter.unusedVariables false

set_option maxRecDepth 100000 in
theorem netAt_of {H : Type} {enc : TypeId × Value → H} {W : World} {base base' : Nat} {spare : Nat → Bool} {held : Bool} {v : Value} {d : DataW H} {p : List MemPlace}
    (hv : Value.okWide Try.prog W .any base 57 v) (h : DataW.Trod enc Try.prog W base' spare held 57 v d p) : ∃ n, NetAt W v n ∧ NetFits n :=
  net_trod Try.underlying57 (by kernel_rfl) (by kernel_rfl) Try.underlying24 Try.underlying9 (by kernel_rfl) Try.underlying55 Try.underlying120 (by kernel_rfl) (by kernel_rfl)
    Try.underlying9 Try.underlying31 Try.underlying31 Try.underlying3 (by kernel_rfl) hv h

theorem keepX {W w w' : World} {p0 p1 p2 p3 : Addr} {x0 x1 x2 x3 : Value} (hb : Below w.heap.size w w') (h : w.cell? p0 = some x0 ∧ w.cell? p1 = some x1 ∧ w.cell? p2 = some x2 ∧ w.cell? p3 = some x3 ∧ Below W.heap.size W w) :
    w'.cell? p0 = some x0 ∧ w'.cell? p1 = some x1 ∧ w'.cell? p2 = some x2 ∧ w'.cell? p3 = some x3 ∧ Below W.heap.size W w' := by
  obtain ⟨h0, h1, h2, h3, h4⟩ := h
  exact ⟨bkeep hb h0, bkeep hb h1, bkeep hb h2, bkeep hb h3, h4.trans (hb.mono h4.size)⟩
theorem belX {W w : World} {p0 p1 p2 p3 : Addr} {x0 x1 x2 x3 : Value} (h : w.cell? p0 = some x0 ∧ w.cell? p1 = some x1 ∧ w.cell? p2 = some x2 ∧ w.cell? p3 = some x3 ∧ Below W.heap.size W w) : Below W.heap.size W w := h.2.2.2.2

end Go.Proofs.Ytfgkfdkdjegaiaa

namespace Go.Proofs.Ytfgkfdkdjegaiaa
open Go.RowKit
set_option linter.unusedVariables false

/-- the minutes from one place of a line to a later one -/
def runSum (l : LineD) (a b : Nat) : Int := ((l.runs.drop a).take (b - a)).sum
theorem sum_bound : ∀ (xs : List Int), (∀ x ∈ xs, 1 ≤ x ∧ x ≤ 60) → 0 ≤ xs.sum ∧ xs.sum ≤ 60 * xs.length
  | [], _ => by simp
  | x :: xs, h => by
    have h1 := h x (by simp)
    have h2 := sum_bound xs (fun y hy => h y (by simp [hy]))
    simp only [List.sum_cons, List.length_cons]
    omega
theorem sum_take_succ (xs : List Int) (k : Nat) (h : k < xs.length) : (xs.take (k + 1)).sum = (xs.take k).sum + xs[k] := by
  rw [List.take_succ_eq_append_getElem h, List.sum_append, List.sum_cons, List.sum_nil]; omega
theorem good_line {n : NetD} (hg : NetGood n) (i : Nat) (hi : i < n.lines.length) : LineGood n.lines[i] n.stops.length := hg.2.2.2.1 _ (List.getElem_mem hi)

/-- a part of a row of numbers -/
theorem row_part {w : World} {a : Option Addr} {xs : List Int} {c lo hi : Nat} (h : RowAt w (.slice a xs.length c) (ints xs)) (h1 : lo < hi) (h2 : hi ≤ xs.length) :
    ∃ b off, a = some ⟨b, off, none⟩ ∧ RowAt w (.slice (some ⟨b, off + lo, none⟩) (hi - lo) (c - lo)) (ints ((xs.drop lo).take (hi - lo))) := by
  obtain ⟨a', c', hv, hc, hm, hcell⟩ := h
  simp at hv
  obtain ⟨rfl, _, rfl⟩ := hv
  rw [ints_len] at hc
  obtain ⟨b, off, ha, hb, _⟩ := hcell lo _ (by rw [List.getElem?_eq_getElem (by rw [ints_len]; omega)])
  refine ⟨b, off, ha, some ⟨b, off + lo, none⟩, c - lo, ?_, ?_, by omega, fun k u hu => ⟨b, off + lo, rfl, hb, ?_⟩⟩
  · rw [ints_len]; simp; omega
  · rw [ints_len]; simp; omega
  · have hk : k < hi - lo := by
      have := (List.getElem?_eq_some_iff.1 hu).1; rw [ints_len] at this; simp at this; omega
    have hu' : (ints xs)[lo + k]? = some u := by
      rw [ints, List.getElem?_map] at hu ⊢
      rw [List.getElem?_take, if_pos hk, List.getElem?_drop] at hu
      exact hu
    obtain ⟨b', off', ha', _, hx⟩ := hcell (lo + k) u hu'
    rw [ha] at ha'
    simp at ha'
    obtain ⟨rfl, rfl⟩ := ha'
    rw [Nat.add_assoc]; exact hx

set_option maxHeartbeats 1000000 in
theorem l2Run_any (v : Value) (l : LineD) (i j : Nat) (w : World) (hr : LineV w v l) (hij : i ≤ j) (hj : j ≤ l.runs.length) (hl : l.runs.length ≤ 6) (hb : ∀ r ∈ l.runs, 1 ≤ r ∧ r ≤ 60) :
    Calls Try.prog 106 #[v, .int .i64 i, .int .i64 j] w fun e w' => e = .returned (.int .i64 (runSum l i j)) ∧ Below w.heap.size w w' := by
  obtain ⟨sv, rv, rfl, hs, hrr⟩ := hr
  obtain ⟨a, c, rfl, _⟩ := ints_open hs
  obtain ⟨a', c', rfl, hc', hm', HC⟩ := ints_open hrr
  have HBd := Lib.hid hb
  clear hs hrr hb
  go_enter Try.func106, Try.ntmps106
  go_wp2_with fail
  go_loop [7, 8] (fun s q => ∃ k : Nat, k ≤ j - i ∧ q = .int .i64 ((i + k : Nat) : Int) ∧ s = .int .i64 ((l.runs.drop i).take k).sum) (fun _ q => j - (RowKit.intOf q).toNat)
  case atStart => exact ⟨0, Nat.zero_le _, rfl, by simp⟩
  case round =>
    obtain ⟨k, hk, rfl, rfl⟩ := hrel
    have hbd := sum_bound ((l.runs.drop i).take k) (fun x hx => HBd.out x (List.mem_of_mem_drop (List.mem_of_mem_take hx)))
    have hlen : ((l.runs.drop i).take k).length ≤ 6 := by simp; omega
    by_cases hlt : k < j - i
    · obtain ⟨b, off, rfl, hbl, hcx⟩ := HC.out (i + k) (by omega)
      have hx := HBd.out _ (List.getElem_mem (show i + k < l.runs.length by omega))
      have HS : Hid (((l.runs.drop i).take (k + 1)).sum = ((l.runs.drop i).take k).sum + l.runs[i + k]'(by omega)) := by
        show _ = _
        rw [sum_take_succ _ _ (by simp; omega)]; simp
      generalize ((l.runs.drop i).take k).sum = s0 at *
      generalize l.runs[i + k] = x at *
      have hb1 : 0 ≤ s0 ∧ s0 ≤ 360 := by omega
      obtain ⟨hb1, hb2⟩ := hb1
      obtain ⟨hx1, hx2⟩ := hx
      have h3 : ((i + k : Nat) : Int) < (j : Int) := by omega
      clear hbd hlen
      go_wp2_with fail
      go_round
      case rel => exact ⟨k + 1, by omega, by go_num, by rw [HS.out]⟩
      case measure => simp [RowKit.intOf]; omega
    · have he : k = j - i := by omega
      subst he
      have h3 : ¬ ((i + (j - i) : Nat) : Int) < (j : Int) := by omega
      go_wp2_with fail
      go_ret
      exact ⟨rfl, (Below.refl _ _).alloc (Nat.le_refl _) _⟩

set_option maxHeartbeats 1000000 in
theorem sumOf_any (v : Value) (xs : List Int) (w : World) (hr : RowAt w v (ints xs)) (hl : xs.length ≤ 6) (hb : ∀ r ∈ xs, 1 ≤ r ∧ r ≤ 60) :
    Calls Try.prog 105 #[v] w fun e w' => e = .returned (.int .i64 xs.sum) ∧ w = w' := by
  obtain ⟨a, c, rfl, hc, hm, HC⟩ := ints_open hr
  have HBd := Lib.hid hb
  clear hr hb
  go_enter Try.func105, Try.ntmps105
  go_wp2_with fail
  go_loop [3, 8] (fun s q => ∃ k : Nat, k ≤ xs.length ∧ q = .int .i64 k ∧ s = .int .i64 (xs.take k).sum) (fun _ q => xs.length - (RowKit.intOf q).toNat)
  case atStart => exact ⟨0, Nat.zero_le _, rfl, by simp⟩
  case round =>
    obtain ⟨k, hk, rfl, rfl⟩ := hrel
    have hbd := sum_bound (xs.take k) (fun x hx => HBd.out x (List.mem_of_mem_take hx))
    have hlen : (xs.take k).length ≤ 6 := by simp; omega
    by_cases hlt : k < xs.length
    · obtain ⟨b, off, rfl, hbl, hcx⟩ := HC.out k hlt
      have hx := HBd.out _ (List.getElem_mem hlt)
      have HS := Lib.hid (sum_take_succ xs k hlt)
      generalize (xs.take k).sum = s0 at *
      generalize xs[k] = x at *
      have hb1 : 0 ≤ s0 ∧ s0 ≤ 360 := by omega
      obtain ⟨hb1, hb2⟩ := hb1
      obtain ⟨hx1, hx2⟩ := hx
      clear hbd hlen
      go_wp2_with fail
      go_round
      case rel => exact ⟨k + 1, by omega, by go_num, by rw [HS.out]⟩
      case measure => simp [RowKit.intOf]; omega
    · have HS : Hid ((xs.take k).sum = xs.sum) := by show _ = _; rw [List.take_of_length_le (by omega)]
      go_wp2_with fail
      go_ret
      exact ⟨ret_int HS.out, rfl⟩
end Go.Proofs.Ytfgkfdkdjegaiaa

namespace Go.Proofs.Ytfgkfdkdjegaiaa
open Go.RowKit
set_option linter.unusedVariables false

/-- the digits of a number, none for 0 -/
def digsF : Nat → Nat → List UInt8
  | 0, _ => []
  | f + 1, k => if k = 0 then [] else digsF f (k / 10) ++ [UInt8.ofNat (48 + k % 10)]
def digs (k : Nat) : List UInt8 := digsF k k
theorem digsF_more : ∀ (f g k : Nat), k ≤ f → k ≤ g → digsF f k = digsF g k
  | 0, g, k, h, _ => by
    have : k = 0 := by omega
    subst this
    cases g <;> simp [digsF]
  | f + 1, 0, k, _, h => by
    have : k = 0 := by omega
    subst this
    simp [digsF]
  | f + 1, g + 1, k, h1, h2 => by
    simp only [digsF]
    split
    · rfl
    · rw [digsF_more f g (k / 10) (by omega) (by omega)]
theorem digs_zero : digs 0 = [] := rfl
theorem digs_step (k : Nat) (h : 0 < k) : digs k = digs (k / 10) ++ [UInt8.ofNat (48 + k % 10)] := by
  obtain ⟨j, rfl⟩ : ∃ j, k = j + 1 := ⟨k - 1, by omega⟩
  unfold digs
  rw [show digsF (j + 1) (j + 1) = digsF j ((j + 1) / 10) ++ [UInt8.ofNat (48 + (j + 1) % 10)] by simp [digsF]]
  rw [digsF_more j ((j + 1) / 10) ((j + 1) / 10) (by omega) (by omega)]
theorem digs_len : ∀ (k : Nat), (digs k).length ≤ k := fun k => by
  induction k using Nat.strongRecOn with
  | _ k ih =>
    by_cases h : 0 < k
    · rw [digs_step k h]; have := ih (k / 10) (by omega); simp; omega
    · have : k = 0 := by omega
      subst this; simp [digs_zero]
/-- the text that marks k -/
def markL (k : Nat) : List UInt8 := [109] ++ digs k

set_option maxRecDepth 100000 in
set_option maxHeartbeats 1000000 in
theorem markText_any (k : Nat) (w : World) (hk0 : 0 < k) (hk : k ≤ 1073741824) :
    Calls Try.prog 110 #[.int .i64 k] w fun e w' => e = .returned (.string ⟨(markL k).toArray⟩) ∧ Below w.heap.size w w' := by
  have hdl := Lib.hid (digs_len k)
  go_enter Try.func110, Try.ntmps110
  go_wp2
  go_loopw [0, 3] (fun q o wr => ∃ j : Nat, q = .int .i64 j ∧ j ≤ k ∧ (∃ l : List UInt8, o = .string ⟨l.toArray⟩ ∧ Hid (digs j ++ l = digs k)) ∧ Below w.heap.size w wr)
    (fun q _ _ => (RowKit.intOf q).toNat)
  case atStart => exact ⟨k, rfl, Nat.le_refl _, ⟨[], rfl, by show _ = _; simp⟩, Below.refl _ _⟩
  case round =>
    obtain ⟨j, rfl, hj, ⟨l, rfl, HL⟩, hbel⟩ := hrel
    by_cases h0 : 0 < j
    · have h0i : (0 : Int) < (j : Int) := by omega
      have HL2 : Hid (digs (j / 10) ++ (UInt8.ofNat (48 + j % 10) :: l) = digs k) := by
        have := HL.out; rw [digs_step j h0] at this; show _ = _; rw [← this]; simp
      have hlen : l.length ≤ 1073741824 := by have h1 := congrArg List.length HL.out; have h2 := hdl.out; simp at h1; omega
      have hd : ((UInt8.ofNat (48 + j % 10)).toNat : Int) = 48 + (j : Int) % 10 := by
        rw [UInt8.toNat_ofNat']; omega
      have hconv : (convert 22 9 (.slice (some ⟨wr.heap.size, 0, none⟩) 1 1)).run Try.prog (wr.alloc (.cells #[.int .u8 (48 + (j : Int) % 10)] 5)) = .ok (.string ⟨[UInt8.ofNat (48 + j % 10)].toArray⟩) (wr.alloc (.cells #[.int .u8 (48 + (j : Int) % 10)] 5)) :=
        run_convert_bytes_back _ 22 9 5 ⟨wr.heap.size, 0, none⟩ 1 [UInt8.ofNat (48 + j % 10)] Try.underlying22 Try.underlying5 Try.underlying9 (fun q hq => by
          have : q = 0 := by simp at hq; omega
          subst this
          rw [show ([UInt8.ofNat (48 + j % 10)][0]'hq) = UInt8.ofNat (48 + j % 10) from rfl, hd]
          simp [Addr.add])
      have hadd : ∀ W, (Op.stringOp .add ⟨[UInt8.ofNat (48 + j % 10)].toArray⟩ ⟨l.toArray⟩).run Try.prog W = .ok (.string ⟨(UInt8.ofNat (48 + j % 10) :: l).toArray⟩) W := fun W =>
        str_add W _ _ [UInt8.ofNat (48 + j % 10)] l (by simp) (by simp) (by simp; omega)
      have hbel2 : Below w.heap.size w (wr.alloc (.cells #[.int .u8 (48 + (j : Int) % 10)] 5)) := hbel.alloc hbel.size _
      have HB2 := Lib.hid hbel2
      have HHd := Lib.hid hd
      clear hd hlen hbel2 hbel
      generalize UInt8.ofNat (48 + j % 10) = d at *
      go_wp2_with fail
      go_roundw
      case rel => exact ⟨j / 10, by go_num, by omega, ⟨_, rfl, HL2⟩, HB2.out⟩
      case measure => simp [RowKit.intOf]; omega
    · have : j = 0 := by omega
      subst this
      have hl : l = digs k := by have := HL.out; rw [digs_zero] at this; simpa using this
      have HLe := Lib.hid hdl.out
      have hadd : ∀ W, (Op.stringOp .add ⟨#[109]⟩ ⟨l.toArray⟩).run Try.prog W = .ok (.string ⟨(markL k).toArray⟩) W := fun W => by
        rw [hl]; exact str_add W _ _ [109] (digs k) (by simp) (by simp) (by have := hdl.out; simp; omega)
      clear hl hdl
      go_wp2_with fail
      go_ret
      exact ⟨rfl, hbel⟩
end Go.Proofs.Ytfgkfdkdjegaiaa

namespace Go.Proofs.Ytfgkfdkdjegaiaa
open Go.RowKit
set_option linter.unusedVariables false

/-- the texts that mark n places from k on -/
def marksL (k : Nat) : Nat → List ByteArray
  | 0 => []
  | n + 1 => marksL k n ++ [⟨(markL (k + n)).toArray⟩]
theorem marksL_len (k : Nat) : ∀ n, (marksL k n).length = n
  | 0 => rfl
  | n + 1 => by simp [marksL, marksL_len k n]
theorem marksL_get (k : Nat) : ∀ n j (h : j < (marksL k n).length), (marksL k n)[j] = ⟨(markL (k + j)).toArray⟩
  | 0, j, h => by simp [marksL] at h
  | n + 1, j, h => by
    simp only [marksL]
    rw [List.getElem_append]
    have hl := marksL_len k n
    split
    · exact marksL_get k n j (by assumption)
    · have : j = n := by simp [marksL, hl] at h; omega
      subst this
      simp
set_option maxRecDepth 100000 in
set_option maxHeartbeats 1000000 in
theorem markStringS_own (v : Value) (xs : List ByteArray) (k : Nat) (B : Nat) (w : World) (hr : w.ownsRow B 9 1 v xs.length (strs xs)) (hn : xs.length ≤ 1048576) (hk0 : 0 < k) (hk : k ≤ 4194304) :
    Calls Try.prog 92 #[v, .int .i64 k] w fun e w' => e = .returned (.int .i64 ((k + xs.length : Nat) : Int)) ∧ w'.ownsRow B 9 1 v xs.length (strs (marksL k xs.length)) ∧ w.grownBy w' v.ownBlock := by
  obtain ⟨a, c, rfl⟩ := own_shape hr
  have HO := Lib.hid hr
  clear hr
  have HMk := Lib.hid (fun W j (h : j ≤ 1048576) => markText_any (k + j) W (by omega) (by omega))
  go_enter Try.func92, Try.ntmps92
  go_wp2
  go_loopw [1, 5] (fun q i wr => ∃ j : Nat, j ≤ xs.length ∧ i = .int .i64 j ∧ q = .int .i64 ((k + j : Nat) : Int) ∧ (∃ zs : List Value, zs.length = xs.length ∧ Hid (zs.take j = (strs (marksL k xs.length)).take j) ∧ Hid (wr.ownsRow B 9 1 (.slice a xs.length c) xs.length zs)) ∧ Hid (w.grownBy wr (Value.ownBlock (.slice a xs.length c))))
    (fun _ i _ => xs.length - (RowKit.intOf i).toNat)
  case atStart => exact ⟨0, Nat.zero_le _, rfl, by simp, ⟨_, strs_len xs, rfl, HO.out⟩, World.grownBy.refl _ _⟩
  case round =>
    obtain ⟨j, hj, rfl, rfl, ⟨zs, hzs, HT, HOwn⟩, HG⟩ := hrel
    by_cases hlt : j < xs.length
    · obtain ⟨_, h2⟩ := HOwn.out
      rcases h2 with ⟨hv, h0⟩ | ⟨g, cap, cur, hv, hg, hblk, h3, h4, h5, h6⟩
      · omega
      simp at hv
      obtain ⟨rfl, rfl⟩ := hv
      have hlen : g < wr.heap.size := (Array.getElem?_eq_some_iff.1 hblk).1
      clear hblk h4 h5 h6
      go_wp2_with fail
      go_at_call 110
      refine (HMk.out _ j (by omega)).mono ?_
      rintro e w1 ⟨rfl, hb1⟩
      have hown := own_later HOwn.out hb1
      have hoc : w1.cell? ⟨g, j, none⟩ = some (zs[j]'(by omega)) := by rw [hown.cellAt j (by omega)]; exact List.getElem?_eq_getElem _
      have hof := hown.frozenAt j
      have HOwn2 := Lib.hid (hown.stored j (.string ⟨(markL (k + j)).toArray⟩)).1
      have HT2 : Hid ((zs.set j (.string ⟨(markL (k + j)).toArray⟩)).take (j + 1) = (strs (marksL k xs.length)).take (j + 1)) := by
        have hl2 : j < (strs (marksL k xs.length)).length := by rw [strs_len, marksL_len]; exact hlt
        have := take_set_succ zs (strs (marksL k xs.length)) j (by omega) hl2 HT.out
        have e : (strs (marksL k xs.length))[j]'hl2 = .string ⟨(markL (k + j)).toArray⟩ := by simp only [strs, List.getElem_map]; rw [marksL_get]
        rw [e] at this; exact this
      have HG2 : Hid (w.grownBy (w1.setCell ⟨g, j, none⟩ (.string ⟨(markL (k + j)).toArray⟩)) (some g)) :=
        ⟨hb1.os.trans HG.out.os, hb1.tape.trans HG.out.tape, hb1.output.trans HG.out.output, by have := HG.out.size; have := hb1.size; simp [World.setCell]; omega, fun q hq hne => by
          rw [Below.heap_setCell _ _ _ _ (fun e => hne (by rw [e])), hb1.block q (Nat.lt_of_lt_of_le hq HG.out.size)]; exact HG.out.block q hq hne⟩
      clear hown hb1 HOwn HG HT
      generalize zs[j] = old at *
      generalize ByteArray.mk (markL (k + j)).toArray = tx at *
      go_wp2_with fail
      go_roundw
      case rel => exact ⟨j + 1, by omega, by go_num, by go_num, ⟨_, by simpa using hzs, HT2, HOwn2⟩, HG2⟩
      case measure => simp [RowKit.intOf]; omega
    · have hjl : j = xs.length := by omega
      subst hjl
      go_wp2_with fail
      go_ret
      refine ⟨rfl, ?_, HG.out⟩
      have := HT.out
      rw [List.take_of_length_le (by omega), List.take_of_length_le (by rw [strs_len, marksL_len]; omega)] at this
      rw [← this]; exact HOwn.out

theorem keepM {W w w' : World} {p : Addr} {x : Value} (hb : Below w.heap.size w w') (h : w.cell? p = some x ∧ Below W.heap.size W w) : w'.cell? p = some x ∧ Below W.heap.size W w' :=
  ⟨bkeep hb h.1, h.2.trans (hb.mono h.2.size)⟩

end Go.Proofs.Ytfgkfdkdjegaiaa

namespace Go.Proofs.Ytfgkfdkdjegaiaa
open Go.RowKit
set_option linter.unusedVariables false

/-! marks of numbers -/
end Go.Proofs.Ytfgkfdkdjegaiaa

namespace Go.Proofs.Ytfgkfdkdjegaiaa
open Go.RowKit
set_option linter.unusedVariables false

end Go.Proofs.Ytfgkfdkdjegaiaa

namespace Go.Proofs.Ytfgkfdkdjegaiaa
open Go.RowKit
set_option linter.unusedVariables false

/-- a line whose rows are the call's own, whatever they hold -/
def LineShape (B hi : Nat) (w : World) (g o p q : Nat) : Prop :=
  ∃ (nm : ByteArray) (sv rv : Value) (s r : List Int), w.cell? ⟨g, o, none⟩ = some (.string nm) ∧ w.cell? ⟨g, o + 1, none⟩ = some sv ∧ w.cell? ⟨g, o + 2, none⟩ = some rv ∧ s.length = p ∧ r.length = q ∧
    w.ownsRow B 3 1 sv s.length (ints s) ∧ w.ownsRow B 3 1 rv r.length (ints r) ∧ sv.ownBlock ≠ some g ∧ rv.ownBlock ≠ some g ∧ (∀ b, sv.ownBlock = some b → b < hi) ∧ ∀ b, rv.ownBlock = some b → b < hi
theorem LineOwn.shape {B hi : Nat} {w : World} {g o : Nat} {l : LineD} (h : LineOwn B w g o l) (hh : w.heap.size ≤ hi) : LineShape B hi w g o l.stops.length l.runs.length := by
  obtain ⟨sv, rv, c0, c1, c2, r1, r2, n1, n2⟩ := h
  exact ⟨_, sv, rv, _, _, c0, c1, c2, rfl, rfl, r1, r2, n1, n2, fun b hb => Nat.lt_of_lt_of_le (r1.lt b hb).2 hh, fun b hb => Nat.lt_of_lt_of_le (r2.lt b hb).2 hh⟩
theorem LineShape.later {B hi : Nat} {w w' : World} {g o p q : Nat} (h : LineShape B hi w g o p q) (hb : Below w.heap.size w w') : LineShape B hi w' g o p q := by
  obtain ⟨nm, sv, rv, s, r, c0, c1, c2, e1, e2, r1, r2, rest⟩ := h
  exact ⟨nm, sv, rv, s, r, bkeep hb c0, bkeep hb c1, bkeep hb c2, e1, e2, own_later r1 hb, own_later r2 hb, rest⟩
theorem LineShape.named {B hi : Nat} {w : World} {g o p q : Nat} (h : LineShape B hi w g o p q) (i : Nat) (x : ByteArray) (h1 : i ≠ o + 1) (h2 : i ≠ o + 2) : LineShape B hi (w.setCell ⟨g, i, none⟩ (.string x)) g o p q := by
  obtain ⟨nm, sv, rv, s, r, c0, c1, c2, e1, e2, r1, r2, n1, n2, rest⟩ := h
  by_cases hi : i = o
  · subst hi
    exact ⟨x, sv, rv, s, r, set_same c0, (set_other h1).trans c1, (set_other h2).trans c2, e1, e2, own_other r1 n1 _, own_other r2 n2 _, n1, n2, rest⟩
  · exact ⟨nm, sv, rv, s, r, (set_other hi).trans c0, (set_other h1).trans c1, (set_other h2).trans c2, e1, e2, own_other r1 n1 _, own_other r2 n2 _, n1, n2, rest⟩
theorem gcell {w w' : World} {row : Option Nat} (hg : w.grownBy w' row) {g o : Nat} {x : Value} (h : w.cell? ⟨g, o, none⟩ = some x) (hne : row ≠ some g) : w'.cell? ⟨g, o, none⟩ = some x :=
  hg.cell h (fun e => hne e.symm)
theorem LineShape.grown {B hi : Nat} {w w' : World} {g o p q : Nat} {row : Option Nat} (h : LineShape B hi w g o p q) (hg : w.grownBy w' row) (hne : row ≠ some g)
    (hs : ∀ v i, (i = 1 ∨ i = 2) → w.cell? ⟨g, o + i, none⟩ = some v → v.ownBlock = none ∨ v.ownBlock ≠ row) : LineShape B hi w' g o p q := by
  obtain ⟨nm, sv, rv, s, r, c0, c1, c2, e1, e2, r1, r2, rest⟩ := h
  exact ⟨nm, sv, rv, s, r, gcell hg c0 hne, gcell hg c1 hne, gcell hg c2 hne, e1, e2, r1.kept hg (hs sv 1 (.inl rfl) c1), r2.kept hg (hs rv 2 (.inr rfl) c2), rest⟩
theorem RowsApart.grown {w w' : World} {g n : Nat} {row : Option Nat} (h : RowsApart w g n) (hg : w.grownBy w' row) (hne : row ≠ some g) (hlt : g < w.heap.size) : RowsApart w' g n :=
  h.of_cells fun o => World.cell?_of_block (w := w) (a := ⟨g, o, none⟩) (hg.block g hlt (fun e => hne e.symm))

def LinesShape (B hi : Nat) (w : World) (v : Value) (ls : List LineD) : Prop :=
  ∃ g c cur, v = .slice (some ⟨g, 0, none⟩) ls.length c ∧ B ≤ g ∧ g < hi ∧ w.heap[g]? = some (.cells cur 98 (0, 0)) ∧ ls.length ≤ c ∧ c ≤ maxLen ∧ (∀ j (hj : j < ls.length), LineShape B hi w g (j * 3) ls[j].stops.length ls[j].runs.length) ∧ RowsApart w g ls.length
theorem LinesOwn.shape {B hi : Nat} {w : World} {v : Value} {ls : List LineD} (h : LinesOwn B w v ls) (hh : w.heap.size ≤ hi) : LinesShape B hi w v ls := by
  obtain ⟨g, c, cur, hv, hg, hblk, hc1, hc2, hc3, hall, hap⟩ := h
  exact ⟨g, c, cur, hv, hg, Nat.lt_of_lt_of_le (Array.getElem?_eq_some_iff.1 hblk).1 hh, hblk, hc1, hc2, fun j hj => (hall j _ (List.getElem?_eq_getElem hj)).shape hh, hap⟩
theorem LinesShape.later {B hi : Nat} {w w' : World} {v : Value} {ls : List LineD} (h : LinesShape B hi w v ls) (hb : Below w.heap.size w w') : LinesShape B hi w' v ls := by
  obtain ⟨g, c, cur, hv, hg, hgh, hblk, hc1, hc2, hall, hap⟩ := h
  have hlt := (Array.getElem?_eq_some_iff.1 hblk).1
  exact ⟨g, c, cur, hv, hg, hgh, (hb.block g hlt).trans hblk, hc1, hc2, fun j hj => (hall j hj).later hb, hap.of_cells fun o => hb.cell (p := ⟨g, o, none⟩) hlt⟩
theorem LinesShape.grown {B hi : Nat} {w w' : World} {v : Value} {ls : List LineD} {row : Option Nat} (h : LinesShape B hi w v ls) (hg : w.grownBy w' row) (hr : ∀ b, row = some b → b < B) : LinesShape B hi w' v ls := by
  obtain ⟨g, c, cur, hv, hgB, hgh, hh, h1, h2, h4, h5⟩ := h
  have hglt := (Array.getElem?_eq_some_iff.1 hh).1
  have hne : row ≠ some g := fun e => by have := hr g e; omega
  refine ⟨g, c, cur, hv, hgB, hgh, (hg.block g hglt (fun e => hne e.symm)).trans hh, h1, h2, fun j hj => ?_, h5.grown hg hne hglt⟩
  obtain ⟨nm, sv, rv, s, r, c0, c1, c2, e1, e2, r1, r2, rest⟩ := h4 j hj
  have hk : ∀ (x : Value) (zs : List Value) (q : Nat), w.ownsRow B 3 1 x q zs → x.ownBlock = none ∨ x.ownBlock ≠ row := fun x zs q hx => by
    by_cases hv : x.ownBlock = none
    · exact .inl hv
    · refine .inr fun e => ?_
      obtain ⟨b, hb⟩ := Option.ne_none_iff_exists'.1 hv
      have := (hx.lt b hb).1
      rw [hb] at e
      have := hr b e.symm
      omega
  exact ⟨nm, sv, rv, s, r, gcell hg c0 hne, gcell hg c1 hne, gcell hg c2 hne, e1, e2, r1.kept hg (hk _ _ _ r1), r2.kept hg (hk _ _ _ r2), rest⟩

def rowTot (ls : List LineD) : Nat := (ls.map fun l => 1 + l.stops.length + l.runs.length).sum
theorem rowTot_take (ls : List LineD) (k : Nat) (h : k < ls.length) : rowTot (ls.take (k + 1)) = rowTot (ls.take k) + (1 + (ls[k]'h).stops.length + (ls[k]'h).runs.length) := by
  rw [List.take_succ_eq_append_getElem h]; simp only [rowTot, List.map_append, List.sum_append, List.map_cons, List.map_nil, List.sum_cons, List.sum_nil]; omega
theorem rowTot_le (ls : List LineD) : rowTot ls ≤ ls.length + lineTot ls := by
  induction ls with
  | nil => simp [rowTot, lineTot]
  | cons l ls ih => simp [rowTot, lineTot, lineSz] at *; omega
theorem rowTot_take_le (ls : List LineD) (k : Nat) : rowTot (ls.take k) ≤ rowTot ls := by
  have : rowTot ls = rowTot (ls.take k) + rowTot (ls.drop k) := by
    conv => lhs; rw [← List.take_append_drop k ls]
    simp only [rowTot, List.map_append, List.sum_append]
  omega

set_option maxRecDepth 100000 in
set_option maxHeartbeats 2000000 in
theorem markLineS_own (v : Value) (ls : List LineD) (k B hi : Nat) (w : World) (hr : LinesShape B hi w v ls) (hn : ls.length + lineTot ls ≤ 1048576) (hk0 : 0 < k) (hk : k ≤ 2097152) :
    Calls Try.prog 93 #[v, .int .i64 k] w fun e w' => e = .returned (.int .i64 ((k + rowTot ls : Nat) : Int)) ∧ Out B hi w w' := by
  obtain ⟨g, c, cur, rfl, hg, hghi, hblk, hc1, hc2, hsh, hap⟩ := hr
  have hglt : g < w.heap.size := (Array.getElem?_eq_some_iff.1 hblk).1
  have hfz : ∀ o, w.frozen? ⟨g, o, none⟩ = false := fun o => by simp [World.frozen?, hblk]
  have HMk := Lib.hid (fun W j (h0 : 0 < j) (h : j ≤ 4194304) => markText_any j W h0 (by omega))
  have hrt := rowTot_le ls
  have HSh := Lib.hid hsh
  have HAp := Lib.hid hap
  clear hap hblk hsh
  go_enter Try.func93, Try.ntmps93
  go_wp2
  go_loopw [1, 5] (fun q i wr => ∃ j : Nat, j ≤ ls.length ∧ i = .int .i64 j ∧ q = .int .i64 ((k + rowTot (ls.take j) : Nat) : Int) ∧ Hid (∀ j (hj : j < ls.length), LineShape B hi wr g (j * 3) ls[j].stops.length ls[j].runs.length) ∧ Hid (RowsApart wr g ls.length) ∧ Hid (Out B hi w wr) ∧ g < wr.heap.size ∧ Hid (∀ o, wr.frozen? ⟨g, o, none⟩ = false))
    (fun _ i _ => ls.length - (RowKit.intOf i).toNat)
  case atStart => exact ⟨0, Nat.zero_le _, rfl, by simp [rowTot], HSh.out, HAp.out, Out.refl _ _ _, hglt, hfz⟩
  case round =>
    obtain ⟨j, hj, rfl, rfl, HS, HA, HO, hgw, HF⟩ := hrel
    have hle := rowTot_take_le ls j
    by_cases hlt : j < ls.length
    · have hkb : k + rowTot (ls.take j) ≤ 4194304 := by omega
      have HRT := Lib.hid (rowTot_take ls j hlt)
      have hle2 := rowTot_take_le ls (j + 1)
      generalize hK : rowTot (ls.take j) = K at *
      clear hK
      have hj3 : (j : Int) < (ls.length : Int) := by omega
      clear hfz
      go_wp2_with fail
      go_at_call 110
      refine (HMk.out _ _ (by omega) (by omega)).mono ?_
      rintro e w1 ⟨rfl, hb1⟩
      have HS1 : Hid (∀ i (hi' : i < ls.length), LineShape B hi w1 g (i * 3) ls[i].stops.length ls[i].runs.length) := fun i hi' => (HS.out i hi').later hb1
      have hA1 : RowsApart w1 g ls.length := HA.out.of_cells fun o => hb1.cell (p := ⟨g, o, none⟩) hgw
      have HO1 : Hid (Out B hi w w1) := HO.out.trans (Out.of_below hb1 (by have := HO.out.below.size; omega))
      have hg1 : g < w1.heap.size := Nat.lt_of_lt_of_le hgw hb1.size
      have HF1 : Hid (∀ o, w1.frozen? ⟨g, o, none⟩ = false) := fun o => fkeep hb1 hgw (HF.out o)
      obtain ⟨nm, sv, rv, s, r, c0, c1, c2, e1, e2, r1, r2, n1, n2, b1, b2⟩ := HS1.out j hlt
      have hf0 := HF1.out (j * 3)
      clear hb1 HS HA HO HF
      have hsl : s.length ≤ 1048576 ∧ r.length ≤ 1048576 := by have := HRT.out; omega
      obtain ⟨hsl1, hsl2⟩ := hsl
      have HE1 := Lib.hid e1
      have HE2 := Lib.hid e2
      clear e1 e2
      have HM1 := Lib.hid (markIntS_own sv s ((k : Int) + (K : Int) + 1) B (w1.setCell ⟨g, j * 3, none⟩ (.string ⟨(markL (k + K)).toArray⟩)) (own_other r1 n1 _) hsl1 (by omega) (by omega))
      have d1 : (w1.setCell ⟨g, j * 3, none⟩ (.string ⟨(markL (k + K)).toArray⟩)).cell? ⟨g, j * 3 + 1, none⟩ = some sv := (set_other (by omega)).trans c1
      have HW2 : Hid ((∀ i (hi' : i < ls.length), LineShape B hi (w1.setCell ⟨g, j * 3, none⟩ (.string ⟨(markL (k + K)).toArray⟩)) g (i * 3) ls[i].stops.length ls[i].runs.length) ∧ RowsApart (w1.setCell ⟨g, j * 3, none⟩ (.string ⟨(markL (k + K)).toArray⟩)) g ls.length ∧
          Out B hi w (w1.setCell ⟨g, j * 3, none⟩ (.string ⟨(markL (k + K)).toArray⟩)) ∧ ∀ o, (w1.setCell ⟨g, j * 3, none⟩ (.string ⟨(markL (k + K)).toArray⟩)).frozen? ⟨g, o, none⟩ = false) :=
        ⟨fun i hi' => (HS1.out i hi').named _ _ (by omega) (by omega), fun q i q' i' v v' h1 h2 h3 h4 h5 x y => hA1 q i q' i' v v' h1 h2 h3 h4 h5 ((set_other (by omega)).symm.trans x) ((set_other (by omega)).symm.trans y),
          HO1.out.setCell (p := ⟨g, _, none⟩) hg (by show g < hi; omega) _, fun o => by rw [World.frozen?_setCell]; exact HF1.out o⟩
      have HC := Lib.hid (And.intro c1 (And.intro c2 (And.intro r2 r1)))
      have hgs : g < (w1.setCell ⟨g, j * 3, none⟩ (.string ⟨(markL (k + K)).toArray⟩)).heap.size := by simp [World.setCell]; exact hg1
      have HGs := Lib.hid hgs
      clear c2 r1 r2 hA1 HS1 HO1 HF1 hgs
      generalize ByteArray.mk (markL (k + K)).toArray = tx at *
      go_wp2_with fail
      go_at_call 51
      ((with_reducible refine HM1.out.mono ?_))
      rintro e w2 ⟨rfl, ho2, hg2⟩
      obtain ⟨hsh2, hap2, hout2, hfz2⟩ := HW2.out
      obtain ⟨c1', c2', q2, q1⟩ := HC.out
      have c2s := (set_other (u := .string tx) (show j * 3 ≠ j * 3 + 2 by omega)).trans c2'
      have hrow : sv.ownBlock ≠ some g := n1
      -- the row of the runs, apart from the row of the stops
      have hrv : rv.ownBlock = none ∨ rv.ownBlock ≠ sv.ownBlock := hap2 j 2 j 1 rv sv hlt hlt (.inr rfl) (.inl rfl) (.inr (by omega)) c2s d1
      have d2 : w2.cell? ⟨g, j * 3 + 2, none⟩ = some rv := gcell hg2 c2s hrow
      have q2' : w2.ownsRow B 3 1 rv r.length (ints r) := (own_other q2 n2 _).kept hg2 hrv
      have HSh3 : Hid (∀ i (hi' : i < ls.length), LineShape B hi w2 g (i * 3) ls[i].stops.length ls[i].runs.length) := fun i hi' => by
        by_cases he : i = j
        · subst he
          obtain ⟨nm', sv', rv', s', r', x0, x1, x2, y1, y2, z1, z2, rest⟩ := hsh2 i hi'
          have e1' : sv' = sv := by rw [d1] at x1; exact (Option.some.inj x1).symm
          subst e1'
          have e2' : rv' = rv := by rw [c2s] at x2; exact (Option.some.inj x2).symm
          subst e2'
          refine ⟨nm', sv', rv', countUp ((k : Int) + (K : Int) + 1) s.length, r, gcell hg2 x0 hrow, gcell hg2 x1 hrow, d2, by rw [countUp_len]; exact HE1.out, HE2.out, ?_, q2', rest⟩
          rw [countUp_len]; exact ho2
        · exact (hsh2 i hi').grown hg2 hrow (fun v i' hi2 hc => hap2 i i' j 1 v sv hi' hlt hi2 (.inl rfl) (.inl he) hc d1)
      have HAp3 := Lib.hid (hap2.grown hg2 hrow HGs.out)
      have HOut3 : Hid (Out B hi w w2) := hout2.trans (Out.of_grown hg2 (by have := hout2.below.size; omega) (fun b hb => ⟨(ho2.lt b hb).1, b1 b hb⟩))
      have hgw2 : g < w2.heap.size := Nat.lt_of_lt_of_le HGs.out hg2.size
      have HFz3 : Hid (∀ o, w2.frozen? ⟨g, o, none⟩ = false) := fun o => by
        rw [World.frozen?_of_block (w := w1.setCell ⟨g, j * 3, none⟩ (.string tx)) (a := ⟨g, o, none⟩) (hg2.block g HGs.out (fun e => hrow e.symm))]; exact hfz2 o
      have HM2 := Lib.hid (markIntS_own rv r ((k : Int) + (K : Int) + 1 + s.length) B w2 q2' hsl2 (by omega) (by omega))
      clear hsh2 hap2 hout2 hfz2 q2' q2 q1 hg2 ho2 c1' c2' c2s hrv HM1 HW2 HC HGs
      go_wp2_with fail
      go_at_call 51
      ((with_reducible refine HM2.out.mono ?_))
      rintro e w3 ⟨rfl, ho3, hg3⟩
      have hrow3 : rv.ownBlock ≠ some g := n2
      have HSh4 : Hid (∀ i (hi' : i < ls.length), LineShape B hi w3 g (i * 3) ls[i].stops.length ls[i].runs.length) := fun i hi' => by
        by_cases he : i = j
        · subst he
          obtain ⟨nm', sv', rv', s', r', x0, x1, x2, y1, y2, z1, z2, m1, m2, m3, m4⟩ := HSh3.out i hi'
          have e2' : rv' = rv := by rw [d2] at x2; exact (Option.some.inj x2).symm
          subst e2'
          have hsv : sv'.ownBlock = none ∨ sv'.ownBlock ≠ rv'.ownBlock := HAp3.out i 1 i 2 sv' rv' hi' hi' (.inl rfl) (.inr rfl) (.inr (by omega)) x1 x2
          refine ⟨nm', sv', rv', s', countUp ((k : Int) + (K : Int) + 1 + s.length) r.length, gcell hg3 x0 hrow3, gcell hg3 x1 hrow3, gcell hg3 x2 hrow3, y1, by rw [countUp_len]; exact HE2.out, z1.kept hg3 hsv, ?_, m1, m2, m3, m4⟩
          rw [countUp_len]; exact ho3
        · exact (HSh3.out i hi').grown hg3 hrow3 (fun v i' hi2 hc => HAp3.out i i' j 2 v rv hi' hlt hi2 (.inr rfl) (.inl he) hc d2)
      have HAp4 := Lib.hid (HAp3.out.grown hg3 hrow3 hgw2)
      have HOut4 : Hid (Out B hi w w3) := HOut3.out.trans (Out.of_grown hg3 (by have := HOut3.out.below.size; omega) (fun b hb => ⟨(ho3.lt b hb).1, b2 b hb⟩))
      have hgw3 : g < w3.heap.size := Nat.lt_of_lt_of_le hgw2 hg3.size
      have HFz4 : Hid (∀ o, w3.frozen? ⟨g, o, none⟩ = false) := fun o => by
        rw [World.frozen?_of_block (w := w2) (a := ⟨g, o, none⟩) (hg3.block g hgw2 (fun e => hrow3 e.symm))]; exact HFz3.out o
      have HE : Hid ((k : Int) + (K : Int) + 1 + s.length + r.length = ((k + rowTot (ls.take (j + 1)) : Nat) : Int)) := by have := HRT.out; have := HE1.out; have := HE2.out; show _ = _; omega
      clear hg3 ho3 HSh3 HAp3 HOut3 HFz3 HM2 d1 d2 hle2
      go_wp2_with fail
      go_roundw
      case rel => exact ⟨j + 1, by omega, by go_num, by rw [← HE.out], HSh4, HAp4, HOut4, hgw3, HFz4⟩
      case measure => simp [RowKit.intOf]; omega
    · have hjl : j = ls.length := by omega
      subst hjl
      have HE : Hid (rowTot (ls.take ls.length) = rowTot ls) := by show _ = _; rw [List.take_length]
      go_wp2_with fail
      go_ret
      exact ⟨ret_int (by rw [HE.out]), HO.out⟩
/-- a network of the call's own, whatever its rows hold -/
def NetShape (B hi : Nat) (w : World) (v : Value) (n : NetD) : Prop := ∃ s l B1, v = .agg #[s, l] ∧ w.ownsRow B 9 1 s n.stops.length (strs n.stops) ∧ LinesShape B1 hi w l n.lines ∧ B ≤ B1 ∧ B1 ≤ hi ∧ (∀ b, s.ownBlock = some b → b < B1)
theorem NetOwn.shape {B hi : Nat} {w : World} {v : Value} {n : NetD} (h : NetOwn B w v n) (hh : w.heap.size ≤ hi) : NetShape B hi w v n := by
  obtain ⟨s, l, B1, hv, h1, h2, h3, h4⟩ := h
  refine ⟨s, l, B1, hv, h1, h2.shape hh, h3, ?_, h4⟩
  obtain ⟨g, c, cur, _, hg, hblk, _⟩ := h2
  have := (Array.getElem?_eq_some_iff.1 hblk).1; omega
theorem NetShape.later {B hi : Nat} {w w' : World} {v : Value} {n : NetD} (h : NetShape B hi w v n) (hb : Below w.heap.size w w') : NetShape B hi w' v n := by
  obtain ⟨s, l, B1, hv, h1, h2, h3⟩ := h
  exact ⟨s, l, B1, hv, own_later h1 hb, h2.later hb, h3⟩

set_option maxRecDepth 100000 in
theorem markNetwork_own (v : Value) (n : NetD) (B hi : Nat) (w : World) (hr : NetShape B hi w v n) (hw : hi ≤ w.heap.size) (hs : NetSmall n) :
    Calls Try.prog 49 #[v, .int .i64 1] w fun e w' => (∃ r : Nat, e = .returned (.int .i64 (r : Int))) ∧ Out B hi w w' := by
  obtain ⟨sv, lv, B1, rfl, hss, hll, hB1, hB1h, hlt⟩ := hr
  obtain ⟨a, c, rfl⟩ := own_shape hss
  obtain ⟨a', c', he⟩ : ∃ a' c', lv = .slice a' n.lines.length c' := by obtain ⟨g, c', cur, hv, _⟩ := hll; exact ⟨_, _, hv⟩
  subst he
  have hsz := hs.2.2.2
  have HB := Lib.hid (And.intro hs.1 (show n.lines.length + lineTot n.lines ≤ 1048576 by omega))
  have HS := Lib.hid hss
  have HL := Lib.hid hll
  have HLt := Lib.hid hlt
  have HW : Hid (B ≤ w.heap.size) := by show _ ≤ _; omega
  clear hss hll hs hsz hlt
  go_enter Try.func49, Try.ntmps49
  go_wp2_with fail
  go_at_call 92
  refine (markStringS_own _ n.stops 1 B _ (HS.out.alloc _) HB.out.1 (by omega) (by omega)).mono ?_
  rintro e w1 ⟨rfl, _, hg1⟩
  have HL1 := Lib.hid ((HL.out.later ((Below.refl w.heap.size w).alloc (Nat.le_refl _) (.cells #[.slice a n.stops.length c, .slice a' n.lines.length c'] 27 (0, 0)))).grown hg1 HLt.out)
  have HO1 : Hid (Out B hi w w1) := (Out.of_below ((Below.refl w.heap.size w).alloc (Nat.le_refl _) (.cells #[.slice a n.stops.length c, .slice a' n.lines.length c'] 27 (0, 0))) HW.out).trans
    (Out.of_grown hg1 (by have := HW.out; simp; omega) (fun b hb => ⟨(HS.out.lt b hb).1, by have := HLt.out b hb; omega⟩))
  have p1 : w1.cell? ⟨w.heap.size, 1, none⟩ = some (.slice a' n.lines.length c') := gcell hg1 (by go_simp) (fun e => by have := (HS.out.lt _ e).2; omega)
  have hst := HB.out.1
  clear hg1
  go_wp2_with fail
  go_at_call 93
  refine (markLineS_own _ n.lines (1 + n.stops.length) B1 hi _ HL1.out HB.out.2 (by omega) (by omega)).mono ?_
  rintro e w2 ⟨rfl, ho2⟩
  have HO2 : Hid (Out B hi w w2) := HO1.out.trans ⟨ho2.below.mono hB1, ho2.above⟩
  clear ho2
  go_wp2_with fail
  go_ret
  exact ⟨⟨_, rfl⟩, HO2.out⟩
end Go.Proofs.Ytfgkfdkdjegaiaa

namespace Go.Proofs.Ytfgkfdkdjegaiaa
open Go.RowKit
set_option linter.unusedVariables false

theorem LineOwn.blocks {B : Nat} {w w' : World} {b o : Nat} {l : LineD} (h : LineOwn B w b o l) (hB : B ≤ b) (hb : ∀ q, B ≤ q → q < w.heap.size → w'.heap[q]? = w.heap[q]?) : LineOwn B w' b o l := by
  obtain ⟨sv, rv, c0, c1, c2, r1, r2, n⟩ := h
  have hbl : w'.heap[b]? = w.heap[b]? := hb b hB (World.block_lt_of_cell? w _ c0)
  have hc : ∀ o, w'.cell? ⟨b, o, none⟩ = w.cell? ⟨b, o, none⟩ := fun o => World.cell?_of_block (w := w) (a := ⟨b, o, none⟩) hbl
  exact ⟨sv, rv, (hc _).trans c0, (hc _).trans c1, (hc _).trans c2, own_block r1 (fun g hg => hb g (r1.lt g hg).1 (r1.lt g hg).2), own_block r2 (fun g hg => hb g (r2.lt g hg).1 (r2.lt g hg).2), n⟩
theorem LinesOwn.blocks {B : Nat} {w w' : World} {v : Value} {ls : List LineD} (h : LinesOwn B w v ls) (hb : ∀ q, B ≤ q → q < w.heap.size → w'.heap[q]? = w.heap[q]?) : LinesOwn B w' v ls := by
  obtain ⟨g, c, cur, hv, hg, hh, h1, h2, h3, h4, h5⟩ := h
  have hbl : w'.heap[g]? = w.heap[g]? := hb g hg (Array.getElem?_eq_some_iff.1 hh).1
  exact ⟨g, c, cur, hv, hg, hbl.trans hh, h1, h2, h3, fun k l hl => (h4 k l hl).blocks hg hb, h5.of_cells fun o => World.cell?_of_block (w := w) (a := ⟨g, o, none⟩) hbl⟩
theorem NetOwn.blocks {B : Nat} {w w' : World} {v : Value} {n : NetD} (h : NetOwn B w v n) (hb : ∀ q, B ≤ q → q < w.heap.size → w'.heap[q]? = w.heap[q]?) : NetOwn B w' v n := by
  obtain ⟨s, l, B1, hv, h1, h2, h3, h4⟩ := h
  exact ⟨s, l, B1, hv, own_block h1 (fun g hg => hb g (h1.lt g hg).1 (h1.lt g hg).2), h2.blocks (fun q hq => hb q (by omega)), h3, h4⟩
theorem NetOwn.base {B B' : Nat} {w : World} {v : Value} {n : NetD} (h : NetOwn B w v n) (hB : B' ≤ B) : NetOwn B' w v n := by
  obtain ⟨s, l, B1, hv, h1, h2, h3, h4⟩ := h
  exact ⟨s, l, B1, hv, own_base h1 hB, h2, by omega, h4⟩
theorem LineShape.blocks {B hi : Nat} {w w' : World} {g o p q : Nat} (h : LineShape B hi w g o p q) (hB : B ≤ g) (hgh : g < hi) (hb : ∀ q, B ≤ q → q < hi → q < w.heap.size → w'.heap[q]? = w.heap[q]?) : LineShape B hi w' g o p q := by
  obtain ⟨nm, sv, rv, s, r, c0, c1, c2, e1, e2, r1, r2, n1, n2, b1, b2⟩ := h
  have hbl : w'.heap[g]? = w.heap[g]? := hb g hB hgh (World.block_lt_of_cell? w _ c0)
  have hc : ∀ o, w'.cell? ⟨g, o, none⟩ = w.cell? ⟨g, o, none⟩ := fun o => World.cell?_of_block (w := w) (a := ⟨g, o, none⟩) hbl
  exact ⟨nm, sv, rv, s, r, (hc _).trans c0, (hc _).trans c1, (hc _).trans c2, e1, e2, own_block r1 (fun g hg => hb g (r1.lt g hg).1 (b1 g hg) (r1.lt g hg).2), own_block r2 (fun g hg => hb g (r2.lt g hg).1 (b2 g hg) (r2.lt g hg).2), n1, n2, b1, b2⟩
theorem LinesShape.blocks {B hi : Nat} {w w' : World} {v : Value} {ls : List LineD} (h : LinesShape B hi w v ls) (hb : ∀ q, B ≤ q → q < hi → q < w.heap.size → w'.heap[q]? = w.heap[q]?) : LinesShape B hi w' v ls := by
  obtain ⟨g, c, cur, hv, hg, hgh, hh, h1, h2, h3, h5⟩ := h
  have hbl : w'.heap[g]? = w.heap[g]? := hb g hg hgh (Array.getElem?_eq_some_iff.1 hh).1
  exact ⟨g, c, cur, hv, hg, hgh, hbl.trans hh, h1, h2, fun j hj => (h3 j hj).blocks hg hgh hb, h5.of_cells fun o => World.cell?_of_block (w := w) (a := ⟨g, o, none⟩) hbl⟩
theorem NetShape.blocks {B hi : Nat} {w w' : World} {v : Value} {n : NetD} (h : NetShape B hi w v n) (hb : ∀ q, B ≤ q → q < hi → q < w.heap.size → w'.heap[q]? = w.heap[q]?) : NetShape B hi w' v n := by
  obtain ⟨s, l, B1, hv, h1, h2, h3, h4, h5⟩ := h
  exact ⟨s, l, B1, hv, own_block h1 (fun g hg => hb g (h1.lt g hg).1 (by have := h5 g hg; omega) (h1.lt g hg).2), h2.blocks (fun q hq => hb q (by omega)), h3, h4, h5⟩

theorem Out.wide {lo hi lo' hi' : Nat} {w w' : World} (h : Out lo hi w w') (h1 : lo' ≤ lo) (h2 : hi ≤ hi') : Out lo' hi' w w' := ⟨h.below.mono h1, fun b h3 h4 => h.above b (by omega) h4⟩
end Go.Proofs.Ytfgkfdkdjegaiaa

namespace Go.Proofs.Ytfgkfdkdjegaiaa
open Go.RowKit
set_option linter.unusedVariables false

def StrsSmall (xs : List ByteArray) : Prop := xs.length ≤ 1048576
/-- a row of strings of the call's own, in a block from l to u -/
def StrsIn (l u : Nat) (w : World) (v : Value) (xs : List ByteArray) : Prop := w.ownsRow l 9 1 v xs.length (strs xs) ∧ ∀ g, v.ownBlock = some g → g < u
theorem StrsIn.at {l u : Nat} {w : World} {v : Value} {xs : List ByteArray} (h : StrsIn l u w v xs) : RowAt w v (strs xs) := rowAt_own h.1
theorem StrsIn.lo {l u : Nat} {w : World} {v : Value} {xs : List ByteArray} (h : StrsIn l u w v xs) (g : Nat) (hg : v.ownBlock = some g) : l ≤ g := (h.1.lt g hg).1
theorem StrsIn.later {l u : Nat} {w w' : World} {v : Value} {xs : List ByteArray} (h : StrsIn l u w v xs) (hb : Below w.heap.size w w') : StrsIn l u w' v xs := ⟨own_later h.1 hb, h.2⟩
theorem StrsIn.out {l u lo hi : Nat} {w w' : World} {v : Value} {xs : List ByteArray} (h : StrsIn l u w v xs) (ho : Out lo hi w w') (hs : u ≤ lo ∨ hi ≤ l) : StrsIn l u w' v xs :=
  ⟨own_out h.1 ho (fun g hg => by have := h.2 g hg; have := h.lo g hg; omega), h.2⟩
theorem StrsIn.mk {l : Nat} {w : World} {v : Value} {xs : List ByteArray} (h : w.ownsRow l 9 1 v xs.length (strs xs)) : StrsIn l w.heap.size w v xs := ⟨h, fun g hg => (h.lt g hg).2⟩
theorem StrsIn.base {l l' u u' : Nat} {w : World} {v : Value} {xs : List ByteArray} (h : StrsIn l u w v xs) (hl : l' ≤ l) (hu : u ≤ u') : StrsIn l' u' w v xs := ⟨own_base h.1 hl, fun g hg => Nat.lt_of_lt_of_le (h.2 g hg) hu⟩
theorem StringS_open {w : World} {v : Value} {xs : List ByteArray} (h : RowAt w v (strs xs)) : ∃ a c, v = .slice a xs.length c := by
  obtain ⟨a, c, hv, _⟩ := h
  rw [strs_len] at hv
  exact ⟨a, c, hv⟩

theorem eqStringS_x (v v' : Value) (xs : List ByteArray) (w : World) (hr : RowAt w v (strs xs)) (hr' : RowAt w v' (strs xs)) (hs : StrsSmall xs) :
    Calls Try.prog 89 #[v, v'] w fun e w' => e = .returned (.bool true) ∧ Below w.heap.size w w' :=
  (eqStringS_same v v' xs w hr hr' hs).mono fun e w' ⟨he, m, hm⟩ => ⟨he, Dr.below ⟨m, hm⟩⟩

/-- strings that hold marks from k on -/
def StrsMk (k : Int) (w : World) (v : Value) (xs : List ByteArray) : Prop := RowAt w v (strs (marksL k.toNat xs.length))
theorem StrsMk.later {k : Int} {w w' : World} {v : Value} {xs : List ByteArray} (h : StrsMk k w v xs) (hb : Below w.heap.size w w') : StrsMk k w' v xs := RowAt.below h rfl hb

theorem markStringS_x (v : Value) (xs : List ByteArray) (k : Int) (l u : Nat) (w : World) (hr : StrsIn l u w v xs) (hl : l ≤ w.heap.size) (hs : StrsSmall xs) (hk0 : 0 < k) (hk : k ≤ 4194304) :
    Calls Try.prog 92 #[v, .int .i64 k] w fun e w' => e = .returned (.int .i64 (k + (xs.length : Int))) ∧ StrsMk k w' v xs ∧ w.grownBy w' v.ownBlock ∧ Out l u w w' := by
  obtain ⟨n, rfl⟩ := Int.eq_ofNat_of_zero_le (Int.le_of_lt hk0)
  exact (markStringS_own v xs n l w hr.1 hs (by omega) (by omega)).mono fun e w' ⟨he, ho, hg⟩ => ⟨by rw [he]; simp, by rw [StrsMk, Int.toNat_natCast]; exact rowAt_own (n := xs.length) ho, hg, Out.of_grown hg hl (fun g hg' => ⟨hr.lo g hg', hr.2 g hg'⟩)⟩

end Go.Proofs.Ytfgkfdkdjegaiaa

namespace Go.Proofs.Ytfgkfdkdjegaiaa
open Go.RowKit
set_option linter.unusedVariables false

/-- a line that holds marks from K on -/
def markedL (K : Nat) (l : LineD) : LineD := ⟨⟨(markL K).toArray⟩, countUp ((K : Int) + 1) l.stops.length, countUp ((K : Int) + 1 + l.stops.length) l.runs.length⟩
def lineW (l : LineD) : Nat := 1 + l.stops.length + l.runs.length
def markedLs (k : Nat) : List LineD → List LineD
  | [] => []
  | l :: ls => markedL k l :: markedLs (k + lineW l) ls
theorem markedLs_len : ∀ (k : Nat) (ls : List LineD), (markedLs k ls).length = ls.length
  | _, [] => rfl
  | k, l :: ls => by simp [markedLs, markedLs_len]
theorem markedLs_get : ∀ (k : Nat) (ls : List LineD) (i : Nat) (h : i < ls.length), (markedLs k ls)[i]? = some (markedL (k + rowTot (ls.take i)) ls[i])
  | _, [], i, h => by simp at h
  | k, l :: ls, 0, h => by simp [markedLs, rowTot]
  | k, l :: ls, i + 1, h => by
    have := markedLs_get (k + lineW l) ls i (by simpa using h)
    simp only [markedLs, List.getElem?_cons_succ, this, List.getElem_cons_succ, List.take_succ_cons]
    congr 2
    simp [rowTot, lineW]; omega

theorem row_grown {w w' : World} {v : Value} {xs : List Value} {row : Option Nat} (h : RowAt w v xs) (hg : w.grownBy w' row) (hne : v.ownBlock = none ∨ v.ownBlock ≠ row) : RowAt w' v xs := by
  obtain ⟨a, c, hv, h1, h2, h3⟩ := h
  refine ⟨a, c, hv, h1, h2, fun k u hu => ?_⟩
  obtain ⟨b, off, ha, hlt, hc⟩ := h3 k u hu
  have ho : v.ownBlock = some b := by rw [hv, ha]; rfl
  refine ⟨b, off, ha, Nat.lt_of_lt_of_le hlt hg.size, gcell hg hc (fun e => ?_)⟩
  rcases hne with h0 | h0
  · rw [ho] at h0; cases h0
  · exact h0 (by rw [ho, e])
theorem LineAt.grown {w w' : World} {g o : Nat} {l : LineD} {row : Option Nat} (h : LineAt w g o l) (hg : w.grownBy w' row) (hne : row ≠ some g)
    (hs : ∀ v i, (i = 1 ∨ i = 2) → w.cell? ⟨g, o + i, none⟩ = some v → v.ownBlock = none ∨ v.ownBlock ≠ row) : LineAt w' g o l := by
  obtain ⟨sv, rv, c0, c1, c2, r1, r2⟩ := h
  exact ⟨sv, rv, gcell hg c0 hne, gcell hg c1 hne, gcell hg c2 hne, row_grown r1 hg (hs sv 1 (.inl rfl) c1), row_grown r2 hg (hs rv 2 (.inr rfl) c2)⟩
theorem row_keep {w W : World} {v : Value} {xs : List Value} (h : RowAt w v xs) (hz : w.heap.size ≤ W.heap.size) (hb : ∀ b, v.ownBlock = some b → b < w.heap.size → W.heap[b]? = w.heap[b]?) : RowAt W v xs := by
  obtain ⟨a, c, hv, h1, h2, h3⟩ := h
  refine ⟨a, c, hv, h1, h2, fun k u hu => ?_⟩
  obtain ⟨b, off, ha, hlt, hc⟩ := h3 k u hu
  have ho : v.ownBlock = some b := by rw [hv, ha]; rfl
  exact ⟨b, off, ha, Nat.lt_of_lt_of_le hlt hz, by rw [World.cell?_of_block (w := w) (a := ⟨b, off + k, none⟩) (hb b ho hlt)]; exact hc⟩
theorem LineAt.keepIn {B hi : Nat} {w W : World} {g o p q : Nat} {l : LineD} (h : LineAt w g o l) (hsh : LineShape B hi w g o p q) (hg : B ≤ g) (hgh : g < hi) (hgw : g < w.heap.size) (hz : w.heap.size ≤ W.heap.size) (hq : ∀ q, B ≤ q → q < hi → q < w.heap.size → W.heap[q]? = w.heap[q]?) : LineAt W g o l := by
  obtain ⟨sv, rv, c0, c1, c2, r1, r2⟩ := h
  obtain ⟨nm, sv', rv', s, r, d0, d1, d2, _, _, o1, o2, n1, n2, b1, b2⟩ := hsh
  have e1 : sv' = sv := by rw [c1] at d1; exact (Option.some.inj d1).symm
  have e2 : rv' = rv := by rw [c2] at d2; exact (Option.some.inj d2).symm
  subst e1; subst e2
  have hc : ∀ o, W.cell? ⟨g, o, none⟩ = w.cell? ⟨g, o, none⟩ := fun o => World.cell?_of_block (w := w) (a := ⟨g, o, none⟩) (hq g hg hgh hgw)
  exact ⟨sv', rv', (hc _).trans c0, (hc _).trans c1, (hc _).trans c2, row_keep r1 hz (fun b hb hlt => hq b (o1.lt b hb).1 (b1 b hb) hlt), row_keep r2 hz (fun b hb hlt => hq b (o2.lt b hb).1 (b2 b hb) hlt)⟩
theorem row_set {w : World} {v : Value} {xs : List Value} (h : RowAt w v xs) {p : Addr} (hp : v.ownBlock ≠ some p.block) (u : Value) : RowAt (w.setCell p u) v xs := by
  obtain ⟨a, c, hv, h1, h2, h3⟩ := h
  refine ⟨a, c, hv, h1, h2, fun k x hu => ?_⟩
  obtain ⟨b, off, ha, hlt, hc⟩ := h3 k x hu
  have ho : v.ownBlock = some b := by rw [hv, ha]; rfl
  refine ⟨b, off, ha, by simpa [World.setCell] using hlt, ?_⟩
  rw [World.cell?_setCell_other _ _ _ _ (fun e => hp (by rw [ho, e]))]; exact hc
theorem LineAt.named {B hi : Nat} {w : World} {g o p q : Nat} {l : LineD} (h : LineAt w g o l) (hsh : LineShape B hi w g o p q) (i : Nat) (x : ByteArray) (h0 : i ≠ o) (h1 : i ≠ o + 1) (h2 : i ≠ o + 2) : LineAt (w.setCell ⟨g, i, none⟩ (.string x)) g o l := by
  obtain ⟨sv, rv, c0, c1, c2, r1, r2⟩ := h
  obtain ⟨nm, sv', rv', s, r, d0, d1, d2, _, _, _, _, n1, n2, _⟩ := hsh
  have e1 : sv' = sv := by rw [c1] at d1; exact (Option.some.inj d1).symm
  have e2 : rv' = rv := by rw [c2] at d2; exact (Option.some.inj d2).symm
  subst e1; subst e2
  exact ⟨sv', rv', (set_other h0).trans c0, (set_other h1).trans c1, (set_other h2).trans c2, row_set r1 n1 _, row_set r2 n2 _⟩

/-- what a mark of lines leaves alone -/
def MkKeeps (w : World) (g n : Nat) (w' : World) : Prop := (∀ j i, j < n → (i = 1 ∨ i = 2) → w'.cell? ⟨g, j * 3 + i, none⟩ = w.cell? ⟨g, j * 3 + i, none⟩) ∧
  ∀ x, x ≠ g → (∀ j i v', j < n → (i = 1 ∨ i = 2) → w.cell? ⟨g, j * 3 + i, none⟩ = some v' → v'.ownBlock ≠ some x) → x < w.heap.size → w'.heap[x]? = w.heap[x]?
theorem MkKeeps.refl (w : World) (g n : Nat) : MkKeeps w g n w := ⟨fun _ _ _ _ => rfl, fun _ _ _ _ => rfl⟩
theorem MkKeeps.below {w a b : World} {g n : Nat} (h : MkKeeps w g n a) (hz : w.heap.size ≤ a.heap.size) (hg : g < a.heap.size) (hb : Below a.heap.size a b) : MkKeeps w g n b :=
  ⟨fun j i hj hi => (hb.cell (p := ⟨g, _, none⟩) hg).trans (h.1 j i hj hi), fun x h1 h2 h3 => (hb.block x (by omega)).trans (h.2 x h1 h2 h3)⟩
theorem MkKeeps.set {w a : World} {g n o : Nat} (h : MkKeeps w g n a) (ho : ∀ j i, (i = 1 ∨ i = 2) → o ≠ j * 3 + i) (u : Value) : MkKeeps w g n (a.setCell ⟨g, o, none⟩ u) :=
  ⟨fun j i hj hi => (set_other (ho j i hi)).trans (h.1 j i hj hi), fun x h1 h2 h3 => (Below.heap_setCell _ _ _ _ (fun e => h1 e)).trans (h.2 x h1 h2 h3)⟩
theorem MkKeeps.grown {w a b : World} {g n j i : Nat} {v : Value} (h : MkKeeps w g n a) (hz : w.heap.size ≤ a.heap.size) (hg : g < a.heap.size) (hj : j < n) (hi : i = 1 ∨ i = 2) (hc : a.cell? ⟨g, j * 3 + i, none⟩ = some v) (hr : a.grownBy b v.ownBlock) (hne : v.ownBlock ≠ some g) : MkKeeps w g n b :=
  ⟨fun j' i' hj' hi' => (World.cell?_of_block (w := a) (a := ⟨g, _, none⟩) (hr.block g hg (fun e => hne e.symm))).trans (h.1 j' i' hj' hi'),
   fun x h1 h2 h3 => (hr.block x (by omega) (fun e => h2 j i v hj hi ((h.1 j i hj hi).symm.trans hc) e.symm)).trans (h.2 x h1 h2 h3)⟩

set_option maxRecDepth 100000 in
set_option maxHeartbeats 2000000 in
theorem markLineS_mk (v : Value) (ls : List LineD) (k B hi : Nat) (w : World) (hr : LinesShape B hi w v ls) (hn : ls.length + lineTot ls ≤ 1048576) (hk0 : 0 < k) (hk : k ≤ 2097152) :
    Calls Try.prog 93 #[v, .int .i64 k] w fun e w' => e = .returned (.int .i64 ((k + rowTot ls : Nat) : Int)) ∧ (∀ W : World, w'.heap.size ≤ W.heap.size → (∀ q, B ≤ q → q < hi → q < w'.heap.size → W.heap[q]? = w'.heap[q]?) → LinesAt W v (markedLs k ls)) ∧ Out B hi w w' ∧ ∀ g n c, v = .slice (some ⟨g, 0, none⟩) n c → MkKeeps w g n w' := by
  obtain ⟨g, c, cur, rfl, hg, hghi, hblk, hc1, hc2, hsh, hap⟩ := hr
  have hglt : g < w.heap.size := (Array.getElem?_eq_some_iff.1 hblk).1
  have hfz : ∀ o, w.frozen? ⟨g, o, none⟩ = false := fun o => by simp [World.frozen?, hblk]
  have HMk := Lib.hid (fun W j (h0 : 0 < j) (h : j ≤ 4194304) => markText_any j W h0 (by omega))
  have hrt := rowTot_le ls
  have HSh := Lib.hid hsh
  have HAp := Lib.hid hap
  clear hap hblk hsh
  go_enter Try.func93, Try.ntmps93
  go_wp2
  go_loopw [1, 5] (fun q i wr => ∃ j : Nat, j ≤ ls.length ∧ i = .int .i64 j ∧ q = .int .i64 ((k + rowTot (ls.take j) : Nat) : Int) ∧ Hid (∀ j (hj : j < ls.length), LineShape B hi wr g (j * 3) ls[j].stops.length ls[j].runs.length) ∧ Hid (RowsApart wr g ls.length) ∧ Hid (Out B hi w wr) ∧ g < wr.heap.size ∧ Hid (∀ o, wr.frozen? ⟨g, o, none⟩ = false) ∧ Hid (∀ i (hi' : i < ls.length), i < j → LineAt wr g (i * 3) (markedL (k + rowTot (ls.take i)) ls[i])) ∧ Hid (MkKeeps w g ls.length wr))
    (fun _ i _ => ls.length - (RowKit.intOf i).toNat)
  case atStart => exact ⟨0, Nat.zero_le _, rfl, by simp [rowTot], HSh.out, HAp.out, Out.refl _ _ _, hglt, hfz, (fun i hi' h => by omega), MkKeeps.refl _ _ _⟩
  case round =>
    obtain ⟨j, hj, rfl, rfl, HS, HA, HO, hgw, HF, HMd, HKp⟩ := hrel
    have hle := rowTot_take_le ls j
    by_cases hlt : j < ls.length
    · have hkb : k + rowTot (ls.take j) ≤ 4194304 := by omega
      have HRT := Lib.hid (rowTot_take ls j hlt)
      have hle2 := rowTot_take_le ls (j + 1)
      generalize hK : rowTot (ls.take j) = K at *
      have HK := Lib.hid hK
      clear hK
      have hj3 : (j : Int) < (ls.length : Int) := by omega
      clear hfz
      go_wp2_with fail
      go_at_call 110
      refine (HMk.out _ _ (by omega) (by omega)).mono ?_
      rintro e w1 ⟨rfl, hb1⟩
      have HS1 : Hid (∀ i (hi' : i < ls.length), LineShape B hi w1 g (i * 3) ls[i].stops.length ls[i].runs.length) := fun i hi' => (HS.out i hi').later hb1
      have hA1 : RowsApart w1 g ls.length := HA.out.of_cells fun o => hb1.cell (p := ⟨g, o, none⟩) hgw
      have HO1 : Hid (Out B hi w w1) := HO.out.trans (Out.of_below hb1 (by have := HO.out.below.size; omega))
      have hg1 : g < w1.heap.size := Nat.lt_of_lt_of_le hgw hb1.size
      have HF1 : Hid (∀ o, w1.frozen? ⟨g, o, none⟩ = false) := fun o => fkeep hb1 hgw (HF.out o)
      have HKp1 : Hid (MkKeeps w g ls.length w1) := HKp.out.below HO.out.below.size hgw hb1
      have hz1 : w.heap.size ≤ w1.heap.size := Nat.le_trans HO.out.below.size hb1.size
      have HMd1 : Hid (∀ i (hi' : i < ls.length), i < j → LineAt w1 g (i * 3) (markedL (k + rowTot (ls.take i)) ls[i])) := fun i hi' h => (HMd.out i hi' h).below rfl hb1
      obtain ⟨nm, sv, rv, s, r, c0, c1, c2, e1, e2, r1, r2, n1, n2, b1, b2⟩ := HS1.out j hlt
      have hf0 := HF1.out (j * 3)
      clear hb1 HS HA HO HF HMd HKp
      have hsl : s.length ≤ 1048576 ∧ r.length ≤ 1048576 := by have := HRT.out; omega
      obtain ⟨hsl1, hsl2⟩ := hsl
      have HE1 := Lib.hid e1
      have HE2 := Lib.hid e2
      clear e1 e2
      have HM1 := Lib.hid (markIntS_own sv s ((k : Int) + (K : Int) + 1) B (w1.setCell ⟨g, j * 3, none⟩ (.string ⟨(markL (k + K)).toArray⟩)) (own_other r1 n1 _) hsl1 (by omega) (by omega))
      have d1 : (w1.setCell ⟨g, j * 3, none⟩ (.string ⟨(markL (k + K)).toArray⟩)).cell? ⟨g, j * 3 + 1, none⟩ = some sv := (set_other (by omega)).trans c1
      have HW2 : Hid ((∀ i (hi' : i < ls.length), LineShape B hi (w1.setCell ⟨g, j * 3, none⟩ (.string ⟨(markL (k + K)).toArray⟩)) g (i * 3) ls[i].stops.length ls[i].runs.length) ∧ RowsApart (w1.setCell ⟨g, j * 3, none⟩ (.string ⟨(markL (k + K)).toArray⟩)) g ls.length ∧
          Out B hi w (w1.setCell ⟨g, j * 3, none⟩ (.string ⟨(markL (k + K)).toArray⟩)) ∧ ∀ o, (w1.setCell ⟨g, j * 3, none⟩ (.string ⟨(markL (k + K)).toArray⟩)).frozen? ⟨g, o, none⟩ = false) :=
        ⟨fun i hi' => (HS1.out i hi').named _ _ (by omega) (by omega), fun q i q' i' v v' h1 h2 h3 h4 h5 x y => hA1 q i q' i' v v' h1 h2 h3 h4 h5 ((set_other (by omega)).symm.trans x) ((set_other (by omega)).symm.trans y),
          HO1.out.setCell (p := ⟨g, _, none⟩) hg (by show g < hi; omega) _, fun o => by rw [World.frozen?_setCell]; exact HF1.out o⟩
      have HKp2 : Hid (MkKeeps w g ls.length (w1.setCell ⟨g, j * 3, none⟩ (.string ⟨(markL (k + K)).toArray⟩))) := HKp1.out.set (fun j' i hi => by omega) _
      have hz2 : w.heap.size ≤ (w1.setCell ⟨g, j * 3, none⟩ (.string ⟨(markL (k + K)).toArray⟩)).heap.size := by simpa [World.setCell] using hz1
      have HZ2 := Lib.hid hz2
      clear hz2 hz1 HKp1
      have HMd2 : Hid (∀ i (hi' : i < ls.length), i < j → LineAt (w1.setCell ⟨g, j * 3, none⟩ (.string ⟨(markL (k + K)).toArray⟩)) g (i * 3) (markedL (k + rowTot (ls.take i)) ls[i])) := fun i hi' h => (HMd1.out i hi' h).named (HS1.out i hi') _ _ (by omega) (by omega) (by omega)
      have d0 : (w1.setCell ⟨g, j * 3, none⟩ (.string ⟨(markL (k + K)).toArray⟩)).cell? ⟨g, j * 3, none⟩ = some (.string ⟨(markL (k + K)).toArray⟩) := set_same c0
      have HD0 := Lib.hid d0
      clear d0
      have HC := Lib.hid (And.intro c1 (And.intro c2 (And.intro r2 r1)))
      have hgs : g < (w1.setCell ⟨g, j * 3, none⟩ (.string ⟨(markL (k + K)).toArray⟩)).heap.size := by simp [World.setCell]; exact hg1
      have HGs := Lib.hid hgs
      clear c2 r1 r2 hA1 HS1 HO1 HF1 hgs HMd1
      generalize hTx : ByteArray.mk (markL (k + K)).toArray = tx at *
      have HTx := Lib.hid hTx
      clear hTx
      go_wp2_with fail
      go_at_call 51
      ((with_reducible refine HM1.out.mono ?_))
      rintro e w2 ⟨rfl, ho2, hg2⟩
      obtain ⟨hsh2, hap2, hout2, hfz2⟩ := HW2.out
      obtain ⟨c1', c2', q2, q1⟩ := HC.out
      have c2s := (set_other (u := .string tx) (show j * 3 ≠ j * 3 + 2 by omega)).trans c2'
      have hrow : sv.ownBlock ≠ some g := n1
      -- the row of the runs, apart from the row of the stops
      have hrv : rv.ownBlock = none ∨ rv.ownBlock ≠ sv.ownBlock := hap2 j 2 j 1 rv sv hlt hlt (.inr rfl) (.inl rfl) (.inr (by omega)) c2s d1
      have d2 : w2.cell? ⟨g, j * 3 + 2, none⟩ = some rv := gcell hg2 c2s hrow
      have q2' : w2.ownsRow B 3 1 rv r.length (ints r) := (own_other q2 n2 _).kept hg2 hrv
      have HSh3 : Hid (∀ i (hi' : i < ls.length), LineShape B hi w2 g (i * 3) ls[i].stops.length ls[i].runs.length) := fun i hi' => by
        by_cases he : i = j
        · subst he
          obtain ⟨nm', sv', rv', s', r', x0, x1, x2, y1, y2, z1, z2, rest⟩ := hsh2 i hi'
          have e1' : sv' = sv := by rw [d1] at x1; exact (Option.some.inj x1).symm
          subst e1'
          have e2' : rv' = rv := by rw [c2s] at x2; exact (Option.some.inj x2).symm
          subst e2'
          refine ⟨nm', sv', rv', countUp ((k : Int) + (K : Int) + 1) s.length, r, gcell hg2 x0 hrow, gcell hg2 x1 hrow, d2, by rw [countUp_len]; exact HE1.out, HE2.out, ?_, q2', rest⟩
          rw [countUp_len]; exact ho2
        · exact (hsh2 i hi').grown hg2 hrow (fun v i' hi2 hc => hap2 i i' j 1 v sv hi' hlt hi2 (.inl rfl) (.inl he) hc d1)
      have HAp3 := Lib.hid (hap2.grown hg2 hrow HGs.out)
      have HKp3 : Hid (MkKeeps w g ls.length w2) := HKp2.out.grown HZ2.out HGs.out hlt (.inl rfl) d1 hg2 hrow
      have HZ3 : Hid (w.heap.size ≤ w2.heap.size) := Nat.le_trans HZ2.out hg2.size
      have HMd3 : Hid (∀ i (hi' : i < ls.length), i < j → LineAt w2 g (i * 3) (markedL (k + rowTot (ls.take i)) ls[i])) := fun i hi' h => (HMd2.out i hi' h).grown hg2 hrow (fun v i' hi2 hc => hap2 i i' j 1 v sv hi' hlt hi2 (.inl rfl) (.inl (by omega)) hc d1)
      have HD1 : Hid (w2.cell? ⟨g, j * 3, none⟩ = some (.string tx) ∧ w2.cell? ⟨g, j * 3 + 1, none⟩ = some sv ∧ w2.ownsRow B 3 1 sv s.length (ints (countUp ((k : Int) + (K : Int) + 1) s.length))) := ⟨gcell hg2 HD0.out hrow, gcell hg2 d1 hrow, ho2⟩
      have HVR : Hid (w2.cell? ⟨g, j * 3 + 2, none⟩ = some rv) := d2
      have HOut3 : Hid (Out B hi w w2) := hout2.trans (Out.of_grown hg2 (by have := hout2.below.size; omega) (fun b hb => ⟨(ho2.lt b hb).1, b1 b hb⟩))
      have hgw2 : g < w2.heap.size := Nat.lt_of_lt_of_le HGs.out hg2.size
      have HFz3 : Hid (∀ o, w2.frozen? ⟨g, o, none⟩ = false) := fun o => by
        rw [World.frozen?_of_block (w := w1.setCell ⟨g, j * 3, none⟩ (.string tx)) (a := ⟨g, o, none⟩) (hg2.block g HGs.out (fun e => hrow e.symm))]; exact hfz2 o
      have HM2 := Lib.hid (markIntS_own rv r ((k : Int) + (K : Int) + 1 + s.length) B w2 q2' hsl2 (by omega) (by omega))
      clear hsh2 hap2 hout2 hfz2 q2' q2 q1 hg2 ho2 c1' c2' c2s hrv HM1 HW2 HC HGs HMd2 HD0 HKp2 HZ2
      go_wp2_with fail
      go_at_call 51
      ((with_reducible refine HM2.out.mono ?_))
      rintro e w3 ⟨rfl, ho3, hg3⟩
      have hrow3 : rv.ownBlock ≠ some g := n2
      have HSh4 : Hid (∀ i (hi' : i < ls.length), LineShape B hi w3 g (i * 3) ls[i].stops.length ls[i].runs.length) := fun i hi' => by
        by_cases he : i = j
        · subst he
          obtain ⟨nm', sv', rv', s', r', x0, x1, x2, y1, y2, z1, z2, m1, m2, m3, m4⟩ := HSh3.out i hi'
          have e2' : rv' = rv := by rw [d2] at x2; exact (Option.some.inj x2).symm
          subst e2'
          have hsv : sv'.ownBlock = none ∨ sv'.ownBlock ≠ rv'.ownBlock := HAp3.out i 1 i 2 sv' rv' hi' hi' (.inl rfl) (.inr rfl) (.inr (by omega)) x1 x2
          refine ⟨nm', sv', rv', s', countUp ((k : Int) + (K : Int) + 1 + s.length) r.length, gcell hg3 x0 hrow3, gcell hg3 x1 hrow3, gcell hg3 x2 hrow3, y1, by rw [countUp_len]; exact HE2.out, z1.kept hg3 hsv, ?_, m1, m2, m3, m4⟩
          rw [countUp_len]; exact ho3
        · exact (HSh3.out i hi').grown hg3 hrow3 (fun v i' hi2 hc => HAp3.out i i' j 2 v rv hi' hlt hi2 (.inr rfl) (.inl he) hc d2)
      have HAp4 := Lib.hid (HAp3.out.grown hg3 hrow3 hgw2)
      have HKp4 : Hid (MkKeeps w g ls.length w3) := HKp3.out.grown HZ3.out hgw2 hlt (.inr rfl) HVR.out hg3 hrow3
      have HMd4 : Hid (∀ i (hi' : i < ls.length), i < j + 1 → LineAt w3 g (i * 3) (markedL (k + rowTot (ls.take i)) ls[i])) := fun i hi' h => by
        by_cases he : i = j
        · subst he
          have hsv : sv.ownBlock = none ∨ sv.ownBlock ≠ rv.ownBlock := HAp3.out i 1 i 2 sv rv hi' hi' (.inl rfl) (.inr rfl) (.inr (by omega)) HD1.out.2.1 HVR.out
          have q1 := HE1.out
          have q2 := HE2.out
          have q3 := HK.out
          have q4 := HTx.out
          refine ⟨sv, rv, ?_, gcell hg3 HD1.out.2.1 hrow3, gcell hg3 HVR.out hrow3, ?_, ?_⟩
          · rw [q3]; simp only [markedL]; rw [q4]; exact gcell hg3 HD1.out.1 hrow3
          · rw [q3]; simp only [markedL, Int.natCast_add]; rw [← q1]; exact row_grown (rowAt_own HD1.out.2.2) hg3 hsv
          · rw [q3]; simp only [markedL, Int.natCast_add]; rw [← q1, ← q2]; exact rowAt_own ho3
        · exact (HMd3.out i hi' (by omega)).grown hg3 hrow3 (fun v i' hi2 hc => HAp3.out i i' j 2 v rv hi' hlt hi2 (.inr rfl) (.inl he) hc HVR.out)
      have HOut4 : Hid (Out B hi w w3) := HOut3.out.trans (Out.of_grown hg3 (by have := HOut3.out.below.size; omega) (fun b hb => ⟨(ho3.lt b hb).1, b2 b hb⟩))
      have hgw3 : g < w3.heap.size := Nat.lt_of_lt_of_le hgw2 hg3.size
      have HFz4 : Hid (∀ o, w3.frozen? ⟨g, o, none⟩ = false) := fun o => by
        rw [World.frozen?_of_block (w := w2) (a := ⟨g, o, none⟩) (hg3.block g hgw2 (fun e => hrow3 e.symm))]; exact HFz3.out o
      have HE : Hid ((k : Int) + (K : Int) + 1 + s.length + r.length = ((k + rowTot (ls.take (j + 1)) : Nat) : Int)) := by have := HRT.out; have := HE1.out; have := HE2.out; show _ = _; omega
      clear hg3 ho3 HSh3 HAp3 HOut3 HFz3 HM2 d1 d2 hle2 HMd3 HD1 HVR HKp3 HZ3
      go_wp2_with fail
      go_roundw
      case rel => exact ⟨j + 1, by omega, by go_num, by rw [← HE.out], HSh4, HAp4, HOut4, hgw3, HFz4, HMd4, HKp4⟩
      case measure => simp [RowKit.intOf]; omega
    · have hjl : j = ls.length := by omega
      subst hjl
      have HE : Hid (rowTot (ls.take ls.length) = rowTot ls) := by show _ = _; rw [List.take_length]
      go_wp2_with fail
      go_ret
      refine ⟨ret_int (by rw [HE.out]), fun W hWz hWq => ⟨some ⟨g, 0, none⟩, c, by rw [markedLs_len], by rw [markedLs_len]; exact hc1, hc2, fun i l hl => ?_⟩, HO.out, fun g' n' c' e => by simp at e; obtain ⟨rfl, rfl, rfl⟩ := e; exact HKp.out⟩
      have hi : i < ls.length := by have := (List.getElem?_eq_some_iff.1 hl).1; rw [markedLs_len] at this; exact this
      rw [markedLs_get k ls i hi] at hl
      cases hl
      exact ⟨g, 0, rfl, Nat.lt_of_lt_of_le hgw hWz, by rw [Nat.zero_add]; exact (HMd.out i hi hi).keepIn (HS.out i hi) hg hghi hgw hWz hWq⟩

end Go.Proofs.Ytfgkfdkdjegaiaa

namespace Go.Proofs.Ytfgkfdkdjegaiaa
open Go.RowKit
set_option linter.unusedVariables false

/-- the block x is none of those in which lines lie -/
def LinesClear (w : World) (v : Value) (x : Nat) : Prop := ∀ g n c, v = .slice (some ⟨g, 0, none⟩) n c → x ≠ g ∧ ∀ j i v', j < n → (i = 1 ∨ i = 2) → w.cell? ⟨g, j * 3 + i, none⟩ = some v' → v'.ownBlock ≠ some x
theorem LineShape.base {B hi B' hi' : Nat} {w : World} {g o p q : Nat} (h : LineShape B hi w g o p q) (hB : B' ≤ B) (hh : hi ≤ hi') : LineShape B' hi' w g o p q := by
  obtain ⟨nm, sv, rv, s, r, c0, c1, c2, e1, e2, r1, r2, n1, n2, b1, b2⟩ := h
  exact ⟨nm, sv, rv, s, r, c0, c1, c2, e1, e2, own_base r1 hB, own_base r2 hB, n1, n2, fun b hb => Nat.lt_of_lt_of_le (b1 b hb) hh, fun b hb => Nat.lt_of_lt_of_le (b2 b hb) hh⟩
theorem LinesShape.base {B hi B' hi' : Nat} {w : World} {v : Value} {ls : List LineD} (h : LinesShape B hi w v ls) (hB : B' ≤ B) (hh : hi ≤ hi') : LinesShape B' hi' w v ls := by
  obtain ⟨g, c, cur, hv, hg, hgh, hblk, h1, h2, h3, h4⟩ := h
  exact ⟨g, c, cur, hv, by omega, by omega, hblk, h1, h2, fun j hj => (h3 j hj).base hB hh, h4⟩
theorem LinesShape.grownC {B hi : Nat} {w w' : World} {v : Value} {ls : List LineD} {row : Option Nat} (h : LinesShape B hi w v ls) (hg : w.grownBy w' row) (hr : ∀ b, row = some b → LinesClear w v b) : LinesShape B hi w' v ls := by
  obtain ⟨g, c, cur, hv, hgB, hgh, hh, h1, h2, h4, h5⟩ := h
  have hglt := (Array.getElem?_eq_some_iff.1 hh).1
  have hne : row ≠ some g := fun e => (hr g e g _ _ hv).1 rfl
  refine ⟨g, c, cur, hv, hgB, hgh, (hg.block g hglt (fun e => hne e.symm)).trans hh, h1, h2, fun j hj => (h4 j hj).grown hg hne (fun x i hi hc => ?_), h5.grown hg hne hglt⟩
  by_cases hx : x.ownBlock = none
  · exact .inl hx
  · refine .inr fun e => ?_
    obtain ⟨b, hb⟩ := Option.ne_none_iff_exists'.1 hx
    rw [hb] at e
    exact (hr b e.symm g _ _ hv).2 j i x hj hi hc hb
theorem LinesAt.keepIn {B hi : Nat} {w W : World} {v : Value} {ls : List LineD} (h : LinesAt w v ls) (hs : LinesShape B hi w v ls) (hz : w.heap.size ≤ W.heap.size) (hq : ∀ q, B ≤ q → q < hi → q < w.heap.size → W.heap[q]? = w.heap[q]?) : LinesAt W v ls := by
  obtain ⟨a, c, hv, h1, h2, h3⟩ := h
  obtain ⟨g, c', cur, hv', hg, hgh, hblk, _, _, hsh, _⟩ := hs
  have hgw := (Array.getElem?_eq_some_iff.1 hblk).1
  rw [hv] at hv'
  simp at hv'
  obtain ⟨rfl, rfl⟩ := hv'
  refine ⟨_, c, hv, h1, h2, fun k l hl => ?_⟩
  obtain ⟨b, off, ha, hlt, hla⟩ := h3 k l hl
  simp at ha
  obtain ⟨rfl, rfl⟩ := ha
  have hk := (List.getElem?_eq_some_iff.1 hl).1
  rw [Nat.zero_add] at hla
  exact ⟨g, 0, rfl, Nat.lt_of_lt_of_le hlt hz, by rw [Nat.zero_add]; exact hla.keepIn (hsh k hk) hg hgh hgw hz hq⟩

/-- a network of the call's own -/
def NetS (l u : Nat) (w : World) (v : Value) (n : NetD) : Prop := ∃ s lv, v = .agg #[s, lv] ∧ w.ownsRow l 9 1 s n.stops.length (strs n.stops) ∧ (∀ b, s.ownBlock = some b → b < u) ∧ LinesShape l u w lv n.lines ∧ LinesAt w lv n.lines ∧ ∀ b, s.ownBlock = some b → LinesClear w lv b
theorem NetS.at {l u : Nat} {w : World} {v : Value} {n : NetD} (h : NetS l u w v n) : NetAt w v n := by
  obtain ⟨s, lv, hv, h1, _, _, h2, _⟩ := h
  exact ⟨s, lv, hv, rowAt_own h1, h2⟩
theorem NetS.keep {l u : Nat} {w w' : World} {v : Value} {n : NetD} (h : NetS l u w v n) (hz : w.heap.size ≤ w'.heap.size) (hq : ∀ q, l ≤ q → q < u → q < w.heap.size → w'.heap[q]? = w.heap[q]?) : NetS l u w' v n := by
  obtain ⟨s, lv, hv, h1, h2, h3, h4, h5⟩ := h
  refine ⟨s, lv, hv, own_block h1 (fun g hg => hq g (h1.lt g hg).1 (h2 g hg) (h1.lt g hg).2), h2, h3.blocks hq, h4.keepIn h3 hz hq, fun b hb g n' c hc => ?_⟩
  obtain ⟨e1, e2⟩ := h5 b hb g n' c hc
  refine ⟨e1, fun j i v' hj hi hcell => e2 j i v' hj hi ?_⟩
  obtain ⟨g', c', cur, hv', hg, hgh, hblk, _⟩ := h3
  rw [hc] at hv'
  simp at hv'
  obtain ⟨rfl, _, _⟩ := hv'
  rw [← World.cell?_of_block (w := w) (a := ⟨g, j * 3 + i, none⟩) (hq g hg hgh (Array.getElem?_eq_some_iff.1 hblk).1)]
  exact hcell
theorem NetS.base {l u l' u' : Nat} {w : World} {v : Value} {n : NetD} (h : NetS l u w v n) (hl : l' ≤ l) (hu : u ≤ u') : NetS l' u' w v n := by
  obtain ⟨s, lv, hv, h1, h2, h3, h4, h5⟩ := h
  exact ⟨s, lv, hv, own_base h1 hl, fun b hb => Nat.lt_of_lt_of_le (h2 b hb) hu, h3.base hl hu, h4, h5⟩
theorem NetOwn.s {B : Nat} {w : World} {v : Value} {n : NetD} (h : NetOwn B w v n) : NetS B w.heap.size w v n := by
  obtain ⟨s, lv, B1, hv, h1, h2, h3, h4⟩ := h
  refine ⟨s, lv, hv, h1, fun b hb => (h1.lt b hb).2, (h2.shape (Nat.le_refl _)).base h3 (Nat.le_refl _), h2.at, fun b hb g n' c hc => ?_⟩
  obtain ⟨g', c', cur, hv', hg, hblk, _, _, _, hall, _⟩ := h2
  rw [hc] at hv'
  simp at hv'
  obtain ⟨rfl, hn, _⟩ := hv'
  have hbB := h4 b hb
  refine ⟨by omega, fun j i v' hj hi hcell e => ?_⟩
  obtain ⟨sv, rv, c0, c1, c2, r1, r2, _⟩ := hall j _ (List.getElem?_eq_getElem (show j < n.lines.length by omega))
  rcases hi with rfl | rfl
  · rw [c1] at hcell; cases hcell; have := (r1.lt b e).1; omega
  · rw [c2] at hcell; cases hcell; have := (r2.lt b e).1; omega

/-- a network in blocks from l to u, or the zero value -/
def NetIn (l u : Nat) (w : World) (v : Value) (n : NetD) : Prop := NetS l u w v n ∨ (v = .agg #[.slice none 0 0, .slice none 0 0] ∧ n = ⟨[], []⟩)
theorem netAt_zero (w : World) : NetAt w (.agg #[.slice none 0 0, .slice none 0 0]) ⟨[], []⟩ :=
  ⟨_, _, rfl, ⟨none, 0, rfl, Nat.le_refl _, by decide, fun k u hu => by simp [strs] at hu⟩, ⟨none, 0, rfl, Nat.le_refl _, by decide, fun k u hu => by simp at hu⟩⟩
theorem NetIn.at {l u : Nat} {w : World} {v : Value} {n : NetD} (h : NetIn l u w v n) : NetAt w v n := by
  rcases h with h | ⟨rfl, rfl⟩
  · exact h.at
  · exact netAt_zero w
theorem NetIn.mk {l : Nat} {w : World} {v : Value} {n : NetD} (h : NetOwn l w v n) : NetIn l w.heap.size w v n := .inl h.s
theorem NetIn.zero (l u : Nat) (w : World) : NetIn l u w (.agg #[.slice none 0 0, .slice none 0 0]) ⟨[], []⟩ := .inr ⟨rfl, rfl⟩
theorem NetIn.keep {l u : Nat} {w w' : World} {v : Value} {n : NetD} (h : NetIn l u w v n) (hz : w.heap.size ≤ w'.heap.size) (hq : ∀ q, l ≤ q → q < u → q < w.heap.size → w'.heap[q]? = w.heap[q]?) : NetIn l u w' v n := h.imp (·.keep hz hq) id
theorem NetIn.later {l u : Nat} {w w' : World} {v : Value} {n : NetD} (h : NetIn l u w v n) (hb : Below w.heap.size w w') : NetIn l u w' v n := h.keep hb.size fun q _ _ h3 => hb.block q h3
theorem NetIn.out {l u lo hi : Nat} {w w' : World} {v : Value} {n : NetD} (h : NetIn l u w v n) (ho : Out lo hi w w') (hs : u ≤ lo ∨ hi ≤ l) : NetIn l u w' v n :=
  h.keep ho.below.size fun q h1 h2 h3 => ho.block (by omega) h3
theorem NetIn.base {l l' u u' : Nat} {w : World} {v : Value} {n : NetD} (h : NetIn l u w v n) (hl : l' ≤ l) (hu : u ≤ u') : NetIn l' u' w v n := h.imp (·.base hl hu) id
end Go.Proofs.Ytfgkfdkdjegaiaa

namespace Go.Proofs.Ytfgkfdkdjegaiaa
open Go.RowKit
set_option linter.unusedVariables false

theorem szNetwork_x (v : Value) (n : NetD) (left : Int) (w : World) (hr : NetAt w v n) (hf : NetFits n) (h0 : 0 ≤ left) (h1 : left ≤ 1048576) :
    Calls Try.prog 40 #[v, .int .i64 left] w fun e w' => (∃ r : Int, e = .returned (.int .i64 r) ∧ (r = -1 ∨ (0 ≤ r ∧ r ≤ left ∧ NetSmall n))) ∧ Below w.heap.size w w' := by
  obtain ⟨sv, lv, rfl, hs, hrr⟩ := hr
  have HS := Lib.hid (fun W (hW : Below w.heap.size w W) => szStringS_any sv n.stops left W (hs.below rfl hW) hf.1 (by omega) (by omega))
  have HR := Lib.hid (fun W (hW : Below w.heap.size w W) r (g0 : 0 ≤ r) (g1 : r ≤ 1048576) => szLineS_any lv n.lines r W (hrr.below rfl hW) hf.2 g0 g1)
  obtain ⟨a, c, rfl, hc, hm, _⟩ := strs_open hs
  obtain ⟨a', c', rfl, hc', hm', _⟩ := lines_open hrr
  clear hs hrr hf
  go_enter Try.func40, Try.ntmps40
  go_wp2_with fail
  go_at_call 84
  refine (HS.out _ ((Below.refl _ _).alloc (Nat.le_refl _) _)).mono ?_
  rintro e w1 ⟨⟨r1, rfl, hr1⟩, rfl⟩
  rcases hr1 with rfl | ⟨hp1, he1⟩
  · go_wp2_with fail
    go_ret
    exact ⟨⟨-1, rfl, .inl rfl⟩, (Below.refl _ _).alloc (Nat.le_refl _) _⟩
  · have hb1 : r1 ≤ 1048576 ∧ n.stops.length ≤ 1048576 := by omega
    have hb3 : (n.stops.length : Int) + r1 ≤ left := by omega
    obtain ⟨hb1, hb2⟩ := hb1
    clear he1
    go_wp2_with fail
    go_at_call 85
    refine (HR.out _ ((Below.refl _ _).alloc (Nat.le_refl _) _) _ hp1 hb1).mono ?_
    rintro e w2 ⟨⟨r2, rfl, hr2⟩, hbw⟩
    have HBW : Hid (Below w.heap.size w w2) := ((Below.refl _ _).alloc (Nat.le_refl _) _).trans (hbw.mono (by simp))
    clear hbw
    rcases hr2 with rfl | ⟨hp2, hsm⟩
    · go_wp2_with fail
      go_ret
      exact ⟨⟨-1, rfl, .inl rfl⟩, HBW.out⟩
    · have HSm := Lib.hid hsm
      clear hsm
      go_wp2_with fail
      go_ret
      exact ⟨⟨r2, rfl, .inr ⟨hp2, by have := HSm.out.1; omega, hb2, by have := HSm.out.1; omega, HSm.out.2, by have := HSm.out.1; omega⟩⟩, HBW.out⟩

theorem Network_open {w : World} {v : Value} {n : NetD} (h : NetAt w v n) : ∃ a c a' c', v = .agg #[.slice a n.stops.length c, .slice a' n.lines.length c'] := by
  obtain ⟨a, c, a', c', hv, _⟩ := net_open h
  exact ⟨a, c, a', c', hv⟩
theorem toNetwork_x (v : Value) (n : NetD) (w : World) (hr : NetAt w v n) (hs : NetSmall n) :
    Calls Try.prog 43 #[v] w fun e w' => ∃ a c a' c', e = .returned (.agg #[.slice a n.stops.length c, .slice a' n.lines.length c']) ∧ NetIn w.heap.size w'.heap.size w' (.agg #[.slice a n.stops.length c, .slice a' n.lines.length c']) n ∧ Below w.heap.size w w' :=
  (toNetwork_any v n w hr hs.1 hs.2.1 (fun l hl => (hs.2.2.1 l hl).2)).mono fun e w' ⟨a, c, a', c', he, ho, hb⟩ => ⟨a, c, a', c', he, .mk ho, hb⟩
theorem eqNetwork_x (v v' : Value) (n : NetD) (w : World) (hr : NetAt w v n) (hr' : NetAt w v' n) (hs : NetSmall n) :
    Calls Try.prog 45 #[v, v'] w fun e w' => e = .returned (.bool true) ∧ Below w.heap.size w w' := eqNetwork_same v v' n w hr hr' hs.1

/-- a network that holds marks from k on -/
def netTot (n : NetD) : Int := (n.stops.length : Int) + (rowTot n.lines : Int)
def NetMk (k : Int) (w : World) (v : Value) (n : NetD) : Prop := ∃ s l, v = .agg #[s, l] ∧ StrsMk k w s n.stops ∧ LinesAt w l (markedLs (k.toNat + n.stops.length) n.lines)
theorem NetMk.later {k : Int} {w w' : World} {v : Value} {n : NetD} (h : NetMk k w v n) (hb : Below w.heap.size w w') : NetMk k w' v n := by
  obtain ⟨s, l, hv, h1, h2⟩ := h
  exact ⟨s, l, hv, h1.later hb, h2.below rfl hb⟩
/-- .. and lies in blocks from l to u -/
def NetMkIn (k : Int) (l u : Nat) (w : World) (v : Value) (n : NetD) : Prop := ∀ W : World, w.heap.size ≤ W.heap.size → (∀ q, l ≤ q → q < u → q < w.heap.size → W.heap[q]? = w.heap[q]?) → NetMk k W v n
theorem NetMkIn.at {k : Int} {l u : Nat} {w : World} {v : Value} {n : NetD} (h : NetMkIn k l u w v n) : NetMk k w v n := h w (Nat.le_refl _) (fun _ _ _ _ => rfl)
theorem netTot_le {n : NetD} (h : NetSmall n) : 0 ≤ netTot n ∧ netTot n ≤ 1048576 := by
  have h1 := rowTot_le n.lines
  have h2 := h.2.2.2
  unfold netTot; omega

theorem markStringS_nil (k : Int) (w : World) (hk0 : 0 < k) (hk : k ≤ 4194304) : Calls Try.prog 92 #[.slice none 0 0, .int .i64 k] w fun e w' => e = .returned (.int .i64 k) ∧ Below w.heap.size w w' := by
  go_enter Try.func92, Try.ntmps92
  go_wp2
  go_loop [1, 5] (fun q i => i = .int .i64 0 ∧ q = .int .i64 k) (fun _ i => 0)
  case atStart => exact ⟨rfl, rfl⟩
  case round =>
    obtain ⟨rfl, rfl⟩ := hrel
    go_wp2
    go_ret
    exact ⟨rfl, Below.refl _ _⟩
theorem markLineS_nil (k : Int) (w : World) (hk0 : 0 < k) (hk : k ≤ 4194304) : Calls Try.prog 93 #[.slice none 0 0, .int .i64 k] w fun e w' => e = .returned (.int .i64 k) ∧ Below w.heap.size w w' := by
  go_enter Try.func93, Try.ntmps93
  go_wp2
  go_loop [1, 5] (fun q i => i = .int .i64 0 ∧ q = .int .i64 k) (fun _ i => 0)
  case atStart => exact ⟨rfl, rfl⟩
  case round =>
    obtain ⟨rfl, rfl⟩ := hrel
    go_wp2
    go_ret
    exact ⟨rfl, Below.refl _ _⟩

set_option maxRecDepth 100000 in
set_option maxHeartbeats 1000000 in
theorem markNetwork_in (v : Value) (n : NetD) (k : Int) (l u : Nat) (w : World) (hr : NetIn l u w v n) (hl : l ≤ w.heap.size) (hu : u ≤ w.heap.size) (hs : NetSmall n) (hk0 : 0 < k) (hk : k ≤ 1048576) :
    Calls Try.prog 49 #[v, .int .i64 k] w fun e w' => e = .returned (.int .i64 (k + netTot n)) ∧ NetMkIn k l u w' v n ∧ Out l u w w' := by
  rcases hr with hr | ⟨rfl, rfl⟩
  · obtain ⟨K, rfl⟩ := Int.eq_ofNat_of_zero_le (Int.le_of_lt hk0)
    obtain ⟨sv, lv, rfl, hss, hlt, hll, hla, hcl⟩ := hr
    obtain ⟨a, c, rfl⟩ := own_shape hss
    obtain ⟨g, c', he⟩ : ∃ g c', lv = .slice (some ⟨g, 0, none⟩) n.lines.length c' := by obtain ⟨g, c', cur, hv, _⟩ := hll; exact ⟨_, _, hv⟩
    subst he
    have hgw : g < w.heap.size := by obtain ⟨g', c', cur, hv, _, _, hblk, _⟩ := hll; simp at hv; obtain ⟨rfl, _⟩ := hv; exact (Array.getElem?_eq_some_iff.1 hblk).1
    have hsz := hs.2.2.2
    have HB := Lib.hid (And.intro hs.1 (show n.lines.length + lineTot n.lines ≤ 1048576 by omega))
    have HS := Lib.hid hss
    have HL := Lib.hid hll
    have HLt := Lib.hid hlt
    have HCl := Lib.hid hcl
    have HW : Hid (l ≤ w.heap.size) := hl
    have HU : Hid (u ≤ w.heap.size) := hu
    have hab := (Below.refl w.heap.size w).alloc (Nat.le_refl _) (.cells #[.slice a n.stops.length c, .slice (some ⟨g, 0, none⟩) n.lines.length c'] 27 (0, 0))
    have HAb := Lib.hid hab
    clear hss hll hs hsz hlt hl hu hla hcl hab
    go_enter Try.func49, Try.ntmps49
    go_wp2_with fail
    go_at_call 92
    refine (markStringS_own _ n.stops K l _ (HS.out.alloc _) HB.out.1 (by omega) (by omega)).mono ?_
    rintro e w1 ⟨rfl, hx1, hg1⟩
    have HO1' : Hid (w1.ownsRow l 9 1 (.slice a n.stops.length c) n.stops.length (strs (marksL K n.stops.length))) := hx1
    have hcl1 : ∀ b, (Value.slice a n.stops.length c).ownBlock = some b → LinesClear (w.alloc (.cells #[.slice a n.stops.length c, .slice (some ⟨g, 0, none⟩) n.lines.length c'] 27 (0, 0))) (.slice (some ⟨g, 0, none⟩) n.lines.length c') b := fun b hb g' n' c'' hc => by
      have h1 := HCl.out b hb g' n' c'' hc
      simp at hc
      obtain ⟨rfl, rfl, rfl⟩ := hc
      exact ⟨h1.1, fun j i v' hj hi hcell => h1.2 j i v' hj hi (by rw [← HAb.out.cell (p := ⟨g, j * 3 + i, none⟩) hgw]; exact hcell)⟩
    have HL1 := Lib.hid ((HL.out.later HAb.out).grownC hg1 hcl1)
    have HX : Hid (∀ x, (Value.slice a n.stops.length c).ownBlock = some x → x ≠ g ∧ ∀ j i v', j < n.lines.length → (i = 1 ∨ i = 2) → w1.cell? ⟨g, j * 3 + i, none⟩ = some v' → v'.ownBlock ≠ some x) := fun x hx => by
      have h1 := hcl1 x hx g _ _ rfl
      refine ⟨h1.1, fun j i v' hj hi hcell => h1.2 j i v' hj hi ?_⟩
      rw [← World.cell?_of_block (a := ⟨g, j * 3 + i, none⟩) (hg1.block g (by simp; omega) (fun e => h1.1 (Option.some.inj (hx.symm.trans e.symm))))]
      exact hcell
    have HO1 : Hid (Out l u w w1) := (Out.of_below HAb.out HW.out).trans
      (Out.of_grown hg1 (by have := HW.out; simp; omega) (fun b hb => ⟨(HS.out.lt b hb).1, HLt.out b hb⟩))
    have p1 : w1.cell? ⟨w.heap.size, 1, none⟩ = some (.slice (some ⟨g, 0, none⟩) n.lines.length c') := gcell hg1 (by go_simp) (fun e => by have := (HS.out.lt _ e).2; omega)
    have hst := HB.out.1
    clear hg1 hx1 hcl1
    go_wp2_with fail
    go_at_call 93
    refine (markLineS_mk _ n.lines (K + n.stops.length) l u _ HL1.out HB.out.2 (by omega) (by omega)).mono ?_
    rintro e w2 ⟨rfl, hm2, ho2, hkp⟩
    have HO2 : Hid (Out l u w w2) := HO1.out.trans ho2
    have hkp' := hkp g _ _ rfl
    have HS2 : Hid (w2.ownsRow l 9 1 (.slice a n.stops.length c) n.stops.length (strs (marksL K n.stops.length))) := own_block HO1'.out (fun x hx => hkp'.2 x (HX.out x hx).1 (HX.out x hx).2 (HO1'.out.lt x hx).2)
    have HM2 := Lib.hid hm2
    clear ho2 hm2 hkp hkp'
    go_wp2_with fail
    go_ret
    refine ⟨ret_int (by unfold netTot; omega), fun W hz hq => ⟨_, _, rfl, ?_, by rw [Int.toNat_natCast]; exact HM2.out W hz hq⟩, HO2.out⟩
    show RowAt _ _ _
    rw [Int.toNat_natCast]
    exact row_keep (rowAt_own HS2.out) hz (fun b hb hlt => hq b (HS2.out.lt b hb).1 (HLt.out b hb) hlt)
  · clear hs hu
    have HL := Lib.hid hl
    clear hl
    go_enter Try.func49, Try.ntmps49
    go_wp2_with fail
    go_at_call 92
    refine (markStringS_nil k _ hk0 (by omega)).mono ?_
    rintro e w1 ⟨rfl, hb1⟩
    have HB1 : Hid (Below w.heap.size w w1) := ((Below.refl _ _).alloc (Nat.le_refl _) _).trans (hb1.mono (by simp))
    have p1 : w1.cell? ⟨w.heap.size, 1, none⟩ = some (.slice none 0 0) := bkeep hb1 (by go_simp)
    clear hb1
    go_wp2_with fail
    go_at_call 93
    refine (markLineS_nil k _ hk0 (by omega)).mono ?_
    rintro e w2 ⟨rfl, hb2⟩
    have HB2 : Hid (Below w.heap.size w w2) := HB1.out.trans (hb2.mono HB1.out.size)
    clear hb2
    go_wp2_with fail
    go_ret
    refine ⟨ret_int (by simp [netTot, rowTot]), fun W hz hq => ⟨_, _, rfl, ?_, ?_⟩, Out.of_below HB2.out HL.out⟩
    · exact ⟨none, 0, rfl, Nat.le_refl _, by decide, fun k u hu => by simp [strs, marksL] at hu⟩
    · exact ⟨none, 0, rfl, Nat.le_refl _, by decide, fun k u hu => by simp [markedLs] at hu⟩

theorem markNetwork_x (v : Value) (n : NetD) (k : Int) (l u : Nat) (w : World) (hr : NetIn l u w v n) (hl : l ≤ w.heap.size) (hu : u ≤ w.heap.size) (hs : NetSmall n) (hk0 : 0 < k) (hk : k ≤ 1048576) :
    Calls Try.prog 49 #[v, .int .i64 k] w fun e w' => e = .returned (.int .i64 (k + netTot n)) ∧ NetMk k w' v n ∧ Out l u w w' :=
  (markNetwork_in v n k l u w hr hl hu hs hk0 hk).mono fun e w' ⟨he, hm, ho⟩ => ⟨he, hm.at, ho⟩
theorem keepH3 {W w w' : World} {p0 p1 p2 : Addr} {x0 x1 x2 : Value} (hb : Below w.heap.size w w') (h : w.cell? p0 = some x0 ∧ w.cell? p1 = some x1 ∧ w.cell? p2 = some x2 ∧ Below W.heap.size W w) : w'.cell? p0 = some x0 ∧ w'.cell? p1 = some x1 ∧ w'.cell? p2 = some x2 ∧ Below W.heap.size W w' := by
  obtain ⟨h0, h1, h2, hl⟩ := h
  exact ⟨bkeep hb h0, bkeep hb h1, bkeep hb h2, hl.trans (hb.mono hl.size)⟩
end Go.Proofs.Ytfgkfdkdjegaiaa
