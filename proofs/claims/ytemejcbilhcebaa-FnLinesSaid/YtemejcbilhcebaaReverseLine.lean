import Derived.Test.YtemejcbilhcebaaLinesSnoc
import Derived.Test.YtemejcbilhcebaaCopyNet
import Derived.Test.YtemejcbilhcebaaMk38
import Derived.Test.YtemejcbilhcebaaMk32
import Derived.Test.YtemejcbilhcebaaMk26
namespace Go.Proofs.Ytemejcbilhcebaa
open Go.RowKit
set_option linter.unusedVariables false
set_option linter.unusedSimpArgs false

def rvN (n : NetD) (K : Nat) (name : ByteArray) : NetD := match n.lines[K]? with
  | some l => ⟨n.stops, n.lines ++ [⟨name, l.stops.reverse, l.runs.reverse⟩]⟩
  | none => n
theorem rvN_at {n : NetD} {K : Nat} (name : ByteArray) (h : K < n.lines.length) : rvN n K name = ⟨n.stops, n.lines ++ [⟨name, n.lines[K].stops.reverse, n.lines[K].runs.reverse⟩]⟩ := by
  unfold rvN; rw [List.getElem?_eq_getElem h]
noncomputable def rvF (n : NetD) (line : Int) (name : ByteArray) : NetD × Bool := if NetGood n ∧ (0 ≤ line ∧ line < (n.lines.length : Int)) ∧ NetGood (rvN n line.toNat name) then (rvN n line.toNat name, true) else (⟨[], []⟩, false)
theorem rvN_fits {n : NetD} {K : Nat} {name : ByteArray} (hf : NetFits n) (hn : name.size ≤ maxLen) : NetFits (rvN n K name) := by
  unfold rvN
  split
  · rename_i l hl
    have hm := List.mem_of_getElem? hl
    refine ⟨hf.1, fun x hx => ?_⟩
    rcases List.mem_append.1 hx with hx | hx
    · exact hf.2 x hx
    · simp at hx
      subst hx
      exact ⟨hn, fun z hz => (hf.2 l hm).2.1 z (by simpa using hz), fun z hz => (hf.2 l hm).2.2 z (by simpa using hz)⟩
  · exact hf

def Rz2 (w : World) (b : Nat) : Prop := w.cell? ⟨b, 0, none⟩ = some (.slice none 0 0) ∧ w.cell? ⟨b, 1, none⟩ = some (.slice none 0 0) ∧ b < w.heap.size ∧ ∀ o, w.frozen? ⟨b, o, none⟩ = false
theorem Rz2.later {w w' : World} {b : Nat} (h : Rz2 w b) (hb : Below w.heap.size w w') : Rz2 w' b :=
  ⟨bkeep hb h.1, bkeep hb h.2.1, Nat.lt_of_lt_of_le h.2.2.1 hb.size, fun o => by rw [hb.frozen (p := ⟨b, o, none⟩) h.2.2.1]; exact h.2.2.2 o⟩
theorem own_hole {w : World} {B : Nat} {e : TypeId} {sz : Nat} {v : Value} {n : Nat} {xs : List Value} (h : w.ownsRow B e sz v n xs) {x i : Nat} (hx : v.ownBlock ≠ some x) (u : Value) : (w.setCell ⟨x, i, none⟩ u).ownsRow B e sz v n xs :=
  own_block h (fun g hg => Below.heap_setCell _ _ _ _ (fun e => hx (by rw [hg, e])))

theorem netS_of {B gs k c : Nat} {w : World} {lv : Value} {n : NetD} (h1 : w.ownsRow B 9 1 (.slice (some ⟨gs, 0, none⟩) k c) n.stops.length (strs n.stops)) (h2 : LinesOwn B w lv n.lines) (h3 : LinesClear w lv gs) : NetS B w.heap.size w (.agg #[.slice (some ⟨gs, 0, none⟩) k c, lv]) n :=
  ⟨_, _, rfl, h1, fun b hb => (h1.lt b hb).2, h2.shape (Nat.le_refl _), h2.at, fun b hb => by simp [Value.ownBlock] at hb; subst hb; exact h3⟩

set_option maxRecDepth 100000 in
set_option maxHeartbeats 8000000 in
theorem implReverseLine_any (v : Value) (n : NetD) (line : Int) (name : ByteArray) (w : World) (hr : NetAt w v n) (hf : NetFits n) (hnm : name.size ≤ maxLen) :
    Calls Try.prog 8 #[v, .int .i64 line, .string name] w fun e w' => ∃ z, e = .returned (.tuple #[z, .bool (rvF n line name).2]) ∧ NetIn w.heap.size w'.heap.size w' z (rvF n line name).1 ∧ Below w.heap.size w w' := by
  have HIs := Lib.hid (fun W (hW : Below w.heap.size w W) => isLineOf_any v n line W (hr.below rfl hW) hf)
  have HCp := Lib.hid (fun W (hW : Below w.heap.size w W) (hg : NetGood n) => copyNetworkO_any v n W (hr.below rfl hW) hg)
  have HAt := Lib.hid hr
  have HFit := Lib.hid (fun K => rvN_fits (K := K) hf hnm)
  obtain ⟨a, c, a', c', rfl, -, -⟩ := net_open hr
  clear hr hf hnm
  have HR0 : Hid (Rz2 ((w.alloc (.cells #[.slice a n.stops.length c, .slice a' n.lines.length c'] 27 (0, 0))).alloc (.cells #[.slice none 0 0, .slice none 0 0] 27 (0, 0))) (w.heap.size + 1)) := ⟨by go_simp, by go_simp, by simp, fun o => by go_simp⟩
  have HB0 : Hid (Below w.heap.size w ((w.alloc (.cells #[.slice a n.stops.length c, .slice a' n.lines.length c'] 27 (0, 0))).alloc (.cells #[.slice none 0 0, .slice none 0 0] 27 (0, 0)))) := ((Below.refl _ _).alloc (Nat.le_refl _) _).alloc (by simp) _
  obtain ⟨i1, hi1, hy0, hy1, hy2⟩ := info_parts infoLine5
  go_enter Try.func8, Try.ntmps8
  go_wp2_with fail
  go_at_call 44
  refine (HIs.out _ HB0.out).mono ?_
  rintro e w1 ⟨he, hb1⟩
  have HB1 : Hid (Below w.heap.size w w1 ∧ w.heap.size + 1 < w1.heap.size) := ⟨HB0.out.trans (hb1.mono HB0.out.size), by have := hb1.size; simp at this; omega⟩
  have HR1 := Lib.hid (HR0.out.later hb1)
  have p0 : w1.cell? ⟨w.heap.size, 0, none⟩ = some (.slice a n.stops.length c) := bkeep hb1 (by go_simp)
  have p1 : w1.cell? ⟨w.heap.size, 1, none⟩ = some (.slice a' n.lines.length c') := bkeep hb1 (by go_simp)
  clear hb1 HIs HR0 HB0
  rcases he with ⟨⟨hg, hl0, hl1⟩, rfl⟩ | ⟨hno, rfl⟩
  · obtain ⟨K, rfl⟩ := Int.eq_ofNat_of_zero_le hl0
    have hK : K < n.lines.length := by omega
    have hK1 : (K : Int) < (n.lines.length : Int) := by omega
    obtain ⟨lb, lo, s0, s1, r0, r1, rfl, hlb, y0, y1, y2, hrs, hrr⟩ := net_line HAt.out K hK
    have hfa := line_facts hg K hK
    have hli := (good_line hg K hK).2.1
    have HCl := Lib.hid (fun W (hW : Below w.heap.size w W) => copyLine_any _ n.lines[K] W (show LineV W (.agg #[.string n.lines[K].name, .slice s0 n.lines[K].stops.length s1, .slice r0 n.lines[K].runs.length r1]) n.lines[K] from ⟨_, _, rfl, hrs.below rfl hW, hrr.below rfl hW⟩) (by omega) (by omega) (by omega) (by omega))
    have HCp2 := Lib.hid (fun W hW => HCp.out W hW hg)
    have hn58 : n.stops.length ≤ 8 ∧ n.lines.length ≤ 5 := ⟨hg.1.2.1, hg.1.2.2.2⟩
    have HG := Lib.hid hg
    have hsl : n.lines[K].stops.length ≤ 1048576 ∧ n.lines[K].runs.length ≤ 1048576 := by omega
    have hsl1 : 1 ≤ n.lines[K].stops.length ∧ 1 ≤ n.lines[K].runs.length := by omega
    have HRv := Lib.hid (rvN_at name hK)
    clear hrs hrr hfa hli hl0 hl1 hg HCp
    generalize n.lines[K] = l at *
    go_wp2_with fail
    go_at_call 45
    refine (HCp2.out _ HB1.out.1).mono ?_
    rintro e w2 ⟨gs, gl, rfl, hos, hol, hoc, hb2⟩
    have HB2 : Hid (Below w.heap.size w w2 ∧ w1.heap.size ≤ w2.heap.size) := ⟨HB1.out.1.trans (hb2.mono HB1.out.1.size), hb2.size⟩
    have HR2 := Lib.hid (HR1.out.later hb2)
    have HNt := Lib.hid (And.intro hos (And.intro hol hoc))
    have q0 := bkeep hb2 p0
    have q1 := bkeep hb2 p1
    have m0 := bkeep HB2.out.1 y0
    have m1 := bkeep HB2.out.1 y1
    have m2 := bkeep HB2.out.1 y2
    have hlw2 : lb < w2.heap.size := by have := HB2.out.1.size; omega
    have hww2 : w.heap.size < w2.heap.size := by have := HB2.out; have := HB1.out; omega
    clear hb2 hos hol hoc p0 p1 y0 y1 y2 HR1 HCp2
    go_wp2_with fail
    go_at_call 46
    refine (HCl.out _ (HB2.out.1.alloc HB2.out.1.size _)).mono ?_
    rintro e w3 ⟨g1, g2, rfl, ho1, ho2, hne, hb3⟩
    obtain ⟨wc, hwc⟩ : ∃ X, X = w2.alloc (.cells #[.slice (some ⟨gs, 0, none⟩) n.stops.length n.stops.length, .slice (some ⟨gl, 0, none⟩) n.lines.length n.lines.length] 27 (0, 0)) := ⟨_, rfl⟩
    rw [← hwc] at ho1 ho2 hb3
    have hcs : wc.heap.size = w2.heap.size + 1 := by rw [hwc]; simp
    have hcb : Below w2.heap.size w2 wc := by rw [hwc]; exact (Below.refl _ _).alloc (Nat.le_refl _) _
    have k0 : wc.cell? ⟨w2.heap.size, 0, none⟩ = some (.slice (some ⟨gs, 0, none⟩) n.stops.length n.stops.length) := by rw [hwc]; go_simp
    have k1 : wc.cell? ⟨w2.heap.size, 1, none⟩ = some (.slice (some ⟨gl, 0, none⟩) n.lines.length n.lines.length) := by rw [hwc]; go_simp
    have kf : ∀ o, wc.frozen? ⟨w2.heap.size, o, none⟩ = false := fun o => by rw [hwc]; go_simp
    have hl1 := ho1.lt g1 rfl
    have hl2 := ho2.lt g2 rfl
    obtain ⟨w4, hw4, hb4, own1, own2, c0, c1, c2, cf, hz4⟩ : ∃ X, X = w3.alloc (.cells #[.string name, .slice (some ⟨g1, 0, none⟩) l.stops.length l.stops.length, .slice (some ⟨g2, 0, none⟩) l.runs.length l.runs.length] 36 (0, 0)) ∧ Below wc.heap.size wc X ∧
        X.ownsRow wc.heap.size 3 1 (.slice (some ⟨g1, 0, none⟩) l.stops.length l.stops.length) l.stops.length (ints l.stops) ∧ X.ownsRow wc.heap.size 3 1 (.slice (some ⟨g2, 0, none⟩) l.runs.length l.runs.length) l.runs.length (ints l.runs) ∧
        X.cell? ⟨w3.heap.size, 0, none⟩ = some (.string name) ∧ X.cell? ⟨w3.heap.size, 1, none⟩ = some (.slice (some ⟨g1, 0, none⟩) l.stops.length l.stops.length) ∧ X.cell? ⟨w3.heap.size, 2, none⟩ = some (.slice (some ⟨g2, 0, none⟩) l.runs.length l.runs.length) ∧ (∀ o, X.frozen? ⟨w3.heap.size, o, none⟩ = false) ∧ X.heap.size = w3.heap.size + 1 :=
      ⟨_, rfl, hb3.alloc hb3.size _, ho1.alloc _, ho2.alloc _, by go_simp, by go_simp, by go_simp, fun o => by go_simp, by simp⟩
    have HRev1 := Lib.hid (reverseInts_own _ l.stops wc.heap.size w4 own1 hsl.1)
    go_wp2_with fail
    rw [← hw4]
    go_at_call 47
    refine HRev1.out.mono ?_
    rintro e w5 ⟨rfl, o15, hb5, hg5⟩
    have hb5' := hb5 wc hb4
    have o25 := own2.kept hg5 (.inr (by simp [Value.ownBlock]; omega))
    have hn1 : (some w3.heap.size : Option Nat) ≠ (Value.slice (some ⟨g1, 0, none⟩) l.stops.length l.stops.length).ownBlock := by simp [Value.ownBlock]; omega
    have d0 := hg5.cell c0 hn1
    have d1 := hg5.cell c1 hn1
    have d2 := hg5.cell c2 hn1
    have hz5 := hg5.size
    have HRev2 := Lib.hid (reverseInts_own _ l.runs wc.heap.size w5 o25 hsl.2)
    clear HRev1 hb5 hg5 c0 c1 c2 own1 own2 hb4 hw4 cf
    go_wp2_with fail
    go_at_call 47
    refine HRev2.out.mono ?_
    rintro e w6 ⟨rfl, o26, hb6, hg6⟩
    have hb6' := hb6 wc hb5'
    have o16 := o15.kept hg6 (.inr (by simp [Value.ownBlock]; omega))
    have hn2 : (some w3.heap.size : Option Nat) ≠ (Value.slice (some ⟨g2, 0, none⟩) l.runs.length l.runs.length).ownBlock := by simp [Value.ownBlock]; omega
    have e0 := hg6.cell d0 hn2
    have e1 := hg6.cell d1 hn2
    have e2 := hg6.cell d2 hn2
    have hz6 := hg6.size
    have u0 := bkeep hb6' k0
    have u1 := bkeep hb6' k1
    have uf : ∀ o, w6.frozen? ⟨w2.heap.size, o, none⟩ = false := fun o => by rw [hb6'.frozen (p := ⟨w2.heap.size, o, none⟩) (by show w2.heap.size < _; omega)]; exact kf o
    have hb26 : Below w2.heap.size w2 w6 := hcb.trans (hb6'.mono (by omega))
    obtain ⟨xs, hrow, hxl, hxc⟩ := HNt.out.2.1.row
    have HRow6 := Lib.hid (own_later hrow hb26)
    have hglb := hrow.lt gl rfl
    have hgsb := HNt.out.1.lt gs rfl
    have hgne : gs ≠ gl := (HNt.out.2.2 gl _ _ rfl).1
    have HO16 := Lib.hid o16
    have HO26 := Lib.hid o26
    have hg7s : w1.heap.size ≤ w6.heap.size := by have := HB2.out.2; omega
    clear HRev2 hb6 hg6 d0 d1 d2 o15 o25 hrow o16 o26 hn1 hn2 k0 k1
    go_wp2_with (at_builtin; refine wpList_append_lies _ rfl _ _ 25 rfl w1.heap.size 36 i1 (.agg #[.string ⟨#[]⟩, .slice none 0 0, .slice none 0 0]) 3 64 Try.underlying25 hi1 hy0 hy1 hy2 rfl (by decide) _ _ _ rfl (HRow6.out.alloc _) ⟨w6.heap.size, 0, none⟩ 1 1 [.string name, .slice (some ⟨g1, 0, none⟩) l.stops.length l.stops.length, .slice (some ⟨g2, 0, none⟩) l.runs.length l.runs.length] rfl rfl ?c1 ?c2 (by omega) ?c3 ?c4 ?c5 (w6.heap.size + 1) ?c6 ?_)
    case c1 => exact news5 _ _ _ _
    case c2 => intro u hu; simp at hu; rcases hu with rfl | rfl | rfl <;> rfl
    case c3 => unfold maxLen; omega
    case c4 => omega
    case c5 => simp; omega
    case c6 => simp
    intro g7 c7 w7 hown7 hg7 hat7 hlt7
    have hg7' : (w6.alloc (.cells #[.string name, .slice (some ⟨g1, 0, none⟩) l.stops.length l.stops.length, .slice (some ⟨g2, 0, none⟩) l.runs.length l.runs.length] 36 (0, 0))).grownBy w7 (Value.slice (some ⟨gl, 0, none⟩) n.lines.length n.lines.length).ownBlock := hg7
    have hbA := hb6'.alloc hb6'.size (.cells #[.string name, .slice (some ⟨g1, 0, none⟩) l.stops.length l.stops.length, .slice (some ⟨g2, 0, none⟩) l.runs.length l.runs.length] 36 (0, 0))
    have hbA2 := hb26.alloc hb26.size (.cells #[.string name, .slice (some ⟨g1, 0, none⟩) l.stops.length l.stops.length, .slice (some ⟨g2, 0, none⟩) l.runs.length l.runs.length] 36 (0, 0))
    obtain ⟨hL7, hC7⟩ := LinesOwn.snoc (l := ⟨name, l.stops.reverse, l.runs.reverse⟩) (HNt.out.2.1.later hcb) (by have := HB2.out.2; omega) hbA (by show World.ownsRow _ _ _ _ _ l.stops.reverse.length _; rw [List.length_reverse]; exact HO16.out.alloc _) (by show World.ownsRow _ _ _ _ _ l.runs.reverse.length _; rw [List.length_reverse]; exact HO26.out.alloc _) rfl rfl hne hown7 hxl (fun g hg j u hu => bkeep hcb (hxc g hg j u hu)) hg7' (by rw [World.size_alloc]; exact hat7)
    have hglc := hcb.block gl hglb.2
    have hclS := hC7 gs (by omega) (HNt.out.2.2.of_block hglc)
    have hclB := hC7 w2.heap.size (by omega) ((HNt.out.2.1.clear_new w2.heap.size (Nat.le_refl _)).of_block hglc)
    have hg7n : w2.heap.size ≠ g7 := (hclB g7 _ _ rfl).1
    have hnq : ∀ q, q ≠ gl → (some q : Option Nat) ≠ (Value.slice (some ⟨gl, 0, none⟩) n.lines.length n.lines.length).ownBlock := fun q hq e => hq (by simpa [Value.ownBlock] using e)
    have hS7 := (own_later HNt.out.1 hbA2).kept hg7' (.inr (by simp [Value.ownBlock]; exact hgne))
    have t0 := hg7'.cell (acell u0 (.cells #[.string name, .slice (some ⟨g1, 0, none⟩) l.stops.length l.stops.length, .slice (some ⟨g2, 0, none⟩) l.runs.length l.runs.length] 36 (0, 0))) (hnq _ (by dsimp only; omega))
    have t1 := hg7'.cell (acell u1 (.cells #[.string name, .slice (some ⟨g1, 0, none⟩) l.stops.length l.stops.length, .slice (some ⟨g2, 0, none⟩) l.runs.length l.runs.length] 36 (0, 0))) (hnq _ (by dsimp only; omega))
    have hz7 := hg7'.size
    simp only [World.size_alloc] at hz7
    have tf : ∀ o, w7.frozen? ⟨w2.heap.size, o, none⟩ = false := fun o => by
      rw [hg7'.frozen_far ⟨w2.heap.size, o, none⟩ (by simp; omega) (hnq _ (by dsimp only; omega)), ((Below.refl w6.heap.size w6).alloc (Nat.le_refl _) (.cells #[.string name, .slice (some ⟨g1, 0, none⟩) l.stops.length l.stops.length, .slice (some ⟨g2, 0, none⟩) l.runs.length l.runs.length] 36 (0, 0))).frozen (p := ⟨w2.heap.size, o, none⟩) (by show w2.heap.size < w6.heap.size; omega)]; exact uf o
    have HB7 : Hid (Below w.heap.size w w7) := (HB2.out.1.trans (hbA2.mono HB2.out.1.size)).grown hg7' (by simp; omega) (fun q hq => by simp [Value.ownBlock] at hq; have := HB1.out.1.size; omega)
    have hgl1 : w.heap.size + 1 ≠ gl := by have := HB1.out.2; omega
    obtain ⟨r20, r21, r2z, r2f⟩ := (HR2.out.later hbA2)
    have r70 := hg7'.cell r20 (hnq _ hgl1)
    have r71 := hg7'.cell r21 (hnq _ hgl1)
    have r7f : ∀ o, w7.frozen? ⟨w.heap.size + 1, o, none⟩ = false := fun o => by rw [hg7'.frozen_far ⟨w.heap.size + 1, o, none⟩ r2z (hnq _ hgl1)]; exact r2f o
    have hL8 := Lib.hid (hL7.hole (i := 1) hclB (.slice (some ⟨g7, 0, none⟩) (n.lines.length + 1) c7))
    have hS8 := Lib.hid (own_hole (i := 1) (x := w2.heap.size) hS7 (by simp [Value.ownBlock]; omega) (.slice (some ⟨g7, 0, none⟩) (n.lines.length + 1) c7))
    have hC8 : Hid (LinesClear (w7.setCell ⟨w2.heap.size, 1, none⟩ (.slice (some ⟨g7, 0, none⟩) (n.lines.length + 1) c7)) (.slice (some ⟨g7, 0, none⟩) (n.lines.length + 1) c7) gs) := hclS.of_block (Below.heap_setCell _ _ _ _ (fun e => hg7n e.symm))
    have HV8 : Hid (NetAt (w7.setCell ⟨w2.heap.size, 1, none⟩ (.slice (some ⟨g7, 0, none⟩) (n.lines.length + 1) c7)) (.agg #[.slice (some ⟨gs, 0, none⟩) n.stops.length n.stops.length, .slice (some ⟨g7, 0, none⟩) (n.lines.length + 1) c7]) (rvN n K name)) := by
      show NetAt _ _ _
      rw [HRv.out]
      exact ⟨_, _, rfl, rowAt_own hS8.out, hL8.out.at⟩
    have HIv := Lib.hid (implValid_any _ _ _ HV8.out (HFit.out K))
    have HB8 : Hid (Below w.heap.size w (w7.setCell ⟨w2.heap.size, 1, none⟩ (.slice (some ⟨g7, 0, none⟩) (n.lines.length + 1) c7))) := HB7.out.setCell (p := ⟨w2.heap.size, 1, none⟩) (by show w.heap.size ≤ w2.heap.size; omega) _
    have x0 : (w7.setCell ⟨w2.heap.size, 1, none⟩ (.slice (some ⟨g7, 0, none⟩) (n.lines.length + 1) c7)).cell? ⟨w2.heap.size, 0, none⟩ = some (.slice (some ⟨gs, 0, none⟩) n.stops.length n.stops.length) := (World.cell?_setCell_other _ _ _ _ (fun e => by simp at e)).trans t0
    have x1 : (w7.setCell ⟨w2.heap.size, 1, none⟩ (.slice (some ⟨g7, 0, none⟩) (n.lines.length + 1) c7)).cell? ⟨w2.heap.size, 1, none⟩ = some (.slice (some ⟨g7, 0, none⟩) (n.lines.length + 1) c7) := World.cell?_setCell_same _ _ _ t1
    have hww : w.heap.size + 1 ≠ w2.heap.size := by have := HB1.out.2; have := HB2.out.2; omega
    have s0' : (w7.setCell ⟨w2.heap.size, 1, none⟩ (.slice (some ⟨g7, 0, none⟩) (n.lines.length + 1) c7)).cell? ⟨w.heap.size + 1, 0, none⟩ = some (.slice none 0 0) := (set_otherT hww.symm.symm).trans r70
    have s1' : (w7.setCell ⟨w2.heap.size, 1, none⟩ (.slice (some ⟨g7, 0, none⟩) (n.lines.length + 1) c7)).cell? ⟨w.heap.size + 1, 1, none⟩ = some (.slice none 0 0) := (set_otherT hww.symm.symm).trans r71
    have s2' : w.heap.size + 1 < (w7.setCell ⟨w2.heap.size, 1, none⟩ (.slice (some ⟨g7, 0, none⟩) (n.lines.length + 1) c7)).heap.size := by have := HB1.out.2; have := HB2.out.2; simp [World.setCell]; omega
    have s3' : ∀ o, (w7.setCell ⟨w2.heap.size, 1, none⟩ (.slice (some ⟨g7, 0, none⟩) (n.lines.length + 1) c7)).frozen? ⟨w.heap.size + 1, o, none⟩ = false := fun o => by rw [World.frozen?_setCell]; exact r7f o
    have HZ8 : Hid (Rz2 (w7.setCell ⟨w2.heap.size, 1, none⟩ (.slice (some ⟨g7, 0, none⟩) (n.lines.length + 1) c7)) (w.heap.size + 1)) := ⟨s0', s1', s2', s3'⟩
    have hw1 := HB1.out.2
    clear hL7 hC7 hclS hclB hS7 hown7 hg7 hg7' hat7 hlt7 r70 r71 r7f r20 r21 r2z r2f s0' s1' s2' s3' hbA hbA2 hglc u0 u1 uf e0 e1 e2 q0 q1 m0 m1 m2 hnq
    go_wp2_with fail
    have e0 := x0
    have e1 := x1
    generalize hX8 : w7.setCell ⟨w2.heap.size, 1, none⟩ (.slice (some ⟨g7, 0, none⟩) (n.lines.length + 1) c7) = w8 at *
    go_at_call 11
    refine HIv.out.mono ?_
    rintro e w9 ⟨rfl, hb9⟩
    have HB9 : Hid (Below w.heap.size w w9) := HB8.out.trans (hb9.mono HB8.out.size)
    have y0 := bkeep hb9 x0
    have y1 := bkeep hb9 x1
    obtain ⟨z0, z1, zz, zf⟩ := HZ8.out.later hb9
    have hS9 := Lib.hid (own_later hS8.out hb9)
    have hL9 := Lib.hid (hL8.out.later hb9)
    have hC9 : Hid (LinesClear w9 (.slice (some ⟨g7, 0, none⟩) (n.lines.length + 1) c7) gs) := hC8.out.of_block (hb9.block g7 (by obtain ⟨_, _, _, hv, _, hh, _⟩ := hL8.out; simp at hv; obtain ⟨rfl, _⟩ := hv; exact (Array.getElem?_eq_some_iff.1 hh).1))
    clear hb9 HIv x0 x1 e0 e1 hX8 t0 t1 tf
    by_cases hgr : NetGood (rvN n K name)
    · have HN : Hid (rvF n (K : Int) name = (rvN n K name, true)) := by
        show _ = _
        unfold rvF
        rw [Int.toNat_natCast]
        exact if_pos ⟨HG.out, ⟨by omega, hK1⟩, hgr⟩
      rw [netB_yes hgr]
      go_wp2_with fail
      refine bodyPost_ret (v := .tuple #[.agg #[.slice (some ⟨gs, 0, none⟩) n.stops.length n.stops.length, .slice (some ⟨g7, 0, none⟩) (n.lines.length + 1) c7], .bool true]) (by simp only [results, Try.results8]; go_simp) rfl ?_
      rw [HN.out]
      have hbz := fun (u0 u1 : Value) => (HB9.out.setCell (p := ⟨w.heap.size + 1, 0, none⟩) (by simp) u0).setCell (p := ⟨w.heap.size + 1, 1, none⟩) (by simp) u1
      refine ⟨_, rfl, .inl ?_, hbz _ _⟩
      rw [HRv.out]
      have hL := (hL9.out.far (p := ⟨w.heap.size + 1, 0, none⟩) (.slice (some ⟨gs, 0, none⟩) n.stops.length n.stops.length) (by show w.heap.size + 1 < w1.heap.size; omega)).far (p := ⟨w.heap.size + 1, 1, none⟩) (.slice (some ⟨g7, 0, none⟩) (n.lines.length + 1) c7) (by show w.heap.size + 1 < w1.heap.size; omega)
      have hgsn : (Value.slice (some ⟨gs, 0, none⟩) n.stops.length n.stops.length).ownBlock ≠ some (w.heap.size + 1) := by simp [Value.ownBlock]; omega
      have hS := own_hole (i := 1) (x := w.heap.size + 1) (own_hole (i := 0) (x := w.heap.size + 1) hS9.out hgsn (.slice (some ⟨gs, 0, none⟩) n.stops.length n.stops.length)) hgsn (.slice (some ⟨g7, 0, none⟩) (n.lines.length + 1) c7)
      have hg7b : w1.heap.size ≤ g7 := by obtain ⟨_, _, _, hv, hB, _⟩ := hL9.out; simp at hv; obtain ⟨rfl, _⟩ := hv; exact hB
      have hC := hC9.out.of_block (w' := (w9.setCell ⟨w.heap.size + 1, 0, none⟩ (.slice (some ⟨gs, 0, none⟩) n.stops.length n.stops.length)).setCell ⟨w.heap.size + 1, 1, none⟩ (.slice (some ⟨g7, 0, none⟩) (n.lines.length + 1) c7)) ((Below.heap_setCell _ _ _ _ (by show g7 ≠ w.heap.size + 1; omega)).trans (Below.heap_setCell _ _ _ _ (by show g7 ≠ w.heap.size + 1; omega)))
      have hfin := netS_of (n := ⟨n.stops, n.lines ++ [⟨name, l.stops.reverse, l.runs.reverse⟩]⟩) hS hL hC
      exact hfin.base (by omega) (Nat.le_refl _)
    · have HN : Hid (rvF n (K : Int) name = (⟨[], []⟩, false)) := by
        show _ = _
        unfold rvF
        rw [Int.toNat_natCast]
        exact if_neg fun h => hgr h.2.2
      rw [netB_no hgr]
      go_wp2_with fail
      refine bodyPost_ret (v := .tuple #[.agg #[.slice none 0 0, .slice none 0 0], .bool false]) (by simp only [results, Try.results8]; go_simp) rfl ?_
      rw [HN.out]
      have hbz := fun (u0 u1 : Value) => (HB9.out.setCell (p := ⟨w.heap.size + 1, 0, none⟩) (by simp) u0).setCell (p := ⟨w.heap.size + 1, 1, none⟩) (by simp) u1
      exact ⟨_, rfl, NetIn.zero _ _ _, hbz _ _⟩
  · have HN : Hid (rvF n line name = (⟨[], []⟩, false)) := if_neg fun h => hno ⟨h.1, h.2.1.1, h.2.1.2⟩
    obtain ⟨z0, z1, zz, zf⟩ := HR1.out
    clear hno HCp HFit HAt
    go_wp2_with fail
    refine bodyPost_ret (v := .tuple #[.agg #[.slice none 0 0, .slice none 0 0], .bool false]) (by simp only [results, Try.results8]; go_simp) rfl ?_
    rw [HN.out]
    have hbz := fun (u0 u1 : Value) => (HB1.out.1.setCell (p := ⟨w.heap.size + 1, 0, none⟩) (by simp) u0).setCell (p := ⟨w.heap.size + 1, 1, none⟩) (by simp) u1
    exact ⟨_, rfl, NetIn.zero _ _ _, hbz _ _⟩
end Go.Proofs.Ytemejcbilhcebaa
