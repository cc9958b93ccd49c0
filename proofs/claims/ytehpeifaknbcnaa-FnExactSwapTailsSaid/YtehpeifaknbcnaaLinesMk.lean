import Derived.Test.YtehpeifaknbcnaaMk22
import Derived.Test.YtehpeifaknbcnaaIntsX
namespace Go.Proofs.Ytehpeifaknbcnaa
open Go.RowKit
set_option linter.unusedVariables false

def markedL (K : Nat) (l : LineD) : LineD := ⟨⟨(markL K).toArray⟩, countUp ((K : Int) + 1) l.stops.length, countUp ((K : Int) + 1 + l.stops.length) l.runs.length⟩
def lineW (l : LineD) : Nat := 1 + l.stops.length + l.runs.length
def markedLs (k : Nat) : List LineD → List LineD
  | [] => []
  | l :: ls => markedL k l :: markedLs (k + lineW l) ls
theorem markedLs_len : ∀ (k : Nat) (ls : List LineD), (markedLs k ls).length = ls.length
  | _, [] => rfl
  | k, l :: ls => by simp [markedLs, markedLs_len]
theorem markedLs_get : ∀ (k : Nat) (ls : List LineD) (i : Nat) (h : i < ls.length), (markedLs k ls)[i]? = some (markedL (k + rowTot (ls.take i)) ls[i])
  | _, [], i, h => by simp at h
  | k, l :: ls, 0, h => by simp [markedLs, rowTot]
  | k, l :: ls, i + 1, h => by
    have := markedLs_get (k + lineW l) ls i (by simpa using h)
    simp only [markedLs, List.getElem?_cons_succ, this, List.getElem_cons_succ, List.take_succ_cons]
    congr 2
    simp [rowTot, lineW]; omega

theorem row_grown {w w' : World} {v : Value} {xs : List Value} {row : Option Nat} (h : RowAt w v xs) (hg : w.grownBy w' row) (hne : v.ownBlock = none ∨ v.ownBlock ≠ row) : RowAt w' v xs := by
  obtain ⟨a, c, hv, h1, h2, h3⟩ := h
  refine ⟨a, c, hv, h1, h2, fun k u hu => ?_⟩
  obtain ⟨b, off, ha, hlt, hc⟩ := h3 k u hu
  have ho : v.ownBlock = some b := by rw [hv, ha]; rfl
  refine ⟨b, off, ha, Nat.lt_of_lt_of_le hlt hg.size, gcell hg hc (fun e => ?_)⟩
  rcases hne with h0 | h0
  · rw [ho] at h0; cases h0
  · exact h0 (by rw [ho, e])
theorem LineAt.grown {w w' : World} {g o : Nat} {l : LineD} {row : Option Nat} (h : LineAt w g o l) (hg : w.grownBy w' row) (hne : row ≠ some g)
    (hs : ∀ v i, (i = 1 ∨ i = 2) → w.cell? ⟨g, o + i, none⟩ = some v → v.ownBlock = none ∨ v.ownBlock ≠ row) : LineAt w' g o l := by
  obtain ⟨sv, rv, c0, c1, c2, r1, r2⟩ := h
  exact ⟨sv, rv, gcell hg c0 hne, gcell hg c1 hne, gcell hg c2 hne, row_grown r1 hg (hs sv 1 (.inl rfl) c1), row_grown r2 hg (hs rv 2 (.inr rfl) c2)⟩
theorem row_keep {w W : World} {v : Value} {xs : List Value} (h : RowAt w v xs) (hz : w.heap.size ≤ W.heap.size) (hb : ∀ b, v.ownBlock = some b → b < w.heap.size → W.heap[b]? = w.heap[b]?) : RowAt W v xs := by
  obtain ⟨a, c, hv, h1, h2, h3⟩ := h
  refine ⟨a, c, hv, h1, h2, fun k u hu => ?_⟩
  obtain ⟨b, off, ha, hlt, hc⟩ := h3 k u hu
  have ho : v.ownBlock = some b := by rw [hv, ha]; rfl
  exact ⟨b, off, ha, Nat.lt_of_lt_of_le hlt hz, by rw [World.cell?_of_block (w := w) (a := ⟨b, off + k, none⟩) (hb b ho hlt)]; exact hc⟩
theorem LineAt.keepIn {B hi : Nat} {w W : World} {g o p q : Nat} {l : LineD} (h : LineAt w g o l) (hsh : LineShape B hi w g o p q) (hg : B ≤ g) (hgh : g < hi) (hgw : g < w.heap.size) (hz : w.heap.size ≤ W.heap.size) (hq : ∀ q, B ≤ q → q < hi → q < w.heap.size → W.heap[q]? = w.heap[q]?) : LineAt W g o l := by
  obtain ⟨sv, rv, c0, c1, c2, r1, r2⟩ := h
  obtain ⟨nm, sv', rv', s, r, d0, d1, d2, _, _, o1, o2, n1, n2, b1, b2⟩ := hsh
  have e1 : sv' = sv := by rw [c1] at d1; exact (Option.some.inj d1).symm
  have e2 : rv' = rv := by rw [c2] at d2; exact (Option.some.inj d2).symm
  subst e1; subst e2
  have hc : ∀ o, W.cell? ⟨g, o, none⟩ = w.cell? ⟨g, o, none⟩ := fun o => World.cell?_of_block (w := w) (a := ⟨g, o, none⟩) (hq g hg hgh hgw)
  exact ⟨sv', rv', (hc _).trans c0, (hc _).trans c1, (hc _).trans c2, row_keep r1 hz (fun b hb hlt => hq b (o1.lt b hb).1 (b1 b hb) hlt), row_keep r2 hz (fun b hb hlt => hq b (o2.lt b hb).1 (b2 b hb) hlt)⟩
theorem row_set {w : World} {v : Value} {xs : List Value} (h : RowAt w v xs) {p : Addr} (hp : v.ownBlock ≠ some p.block) (u : Value) : RowAt (w.setCell p u) v xs := by
  obtain ⟨a, c, hv, h1, h2, h3⟩ := h
  refine ⟨a, c, hv, h1, h2, fun k x hu => ?_⟩
  obtain ⟨b, off, ha, hlt, hc⟩ := h3 k x hu
  have ho : v.ownBlock = some b := by rw [hv, ha]; rfl
  refine ⟨b, off, ha, by simpa [World.setCell] using hlt, ?_⟩
  rw [World.cell?_setCell_other _ _ _ _ (fun e => hp (by rw [ho, e]))]; exact hc
theorem LineAt.named {B hi : Nat} {w : World} {g o p q : Nat} {l : LineD} (h : LineAt w g o l) (hsh : LineShape B hi w g o p q) (i : Nat) (x : ByteArray) (h0 : i ≠ o) (h1 : i ≠ o + 1) (h2 : i ≠ o + 2) : LineAt (w.setCell ⟨g, i, none⟩ (.string x)) g o l := by
  obtain ⟨sv, rv, c0, c1, c2, r1, r2⟩ := h
  obtain ⟨nm, sv', rv', s, r, d0, d1, d2, _, _, _, _, n1, n2, _⟩ := hsh
  have e1 : sv' = sv := by rw [c1] at d1; exact (Option.some.inj d1).symm
  have e2 : rv' = rv := by rw [c2] at d2; exact (Option.some.inj d2).symm
  subst e1; subst e2
  exact ⟨sv', rv', (set_other h0).trans c0, (set_other h1).trans c1, (set_other h2).trans c2, row_set r1 n1 _, row_set r2 n2 _⟩

def MkKeeps (w : World) (g n : Nat) (w' : World) : Prop := (∀ j i, j < n → (i = 1 ∨ i = 2) → w'.cell? ⟨g, j * 3 + i, none⟩ = w.cell? ⟨g, j * 3 + i, none⟩) ∧
  ∀ x, x ≠ g → (∀ j i v', j < n → (i = 1 ∨ i = 2) → w.cell? ⟨g, j * 3 + i, none⟩ = some v' → v'.ownBlock ≠ some x) → x < w.heap.size → w'.heap[x]? = w.heap[x]?
theorem MkKeeps.refl (w : World) (g n : Nat) : MkKeeps w g n w := ⟨fun _ _ _ _ => rfl, fun _ _ _ _ => rfl⟩
theorem MkKeeps.below {w a b : World} {g n : Nat} (h : MkKeeps w g n a) (hz : w.heap.size ≤ a.heap.size) (hg : g < a.heap.size) (hb : Below a.heap.size a b) : MkKeeps w g n b :=
  ⟨fun j i hj hi => (hb.cell (p := ⟨g, _, none⟩) hg).trans (h.1 j i hj hi), fun x h1 h2 h3 => (hb.block x (by omega)).trans (h.2 x h1 h2 h3)⟩
theorem MkKeeps.set {w a : World} {g n o : Nat} (h : MkKeeps w g n a) (ho : ∀ j i, (i = 1 ∨ i = 2) → o ≠ j * 3 + i) (u : Value) : MkKeeps w g n (a.setCell ⟨g, o, none⟩ u) :=
  ⟨fun j i hj hi => (set_other (ho j i hi)).trans (h.1 j i hj hi), fun x h1 h2 h3 => (Below.heap_setCell _ _ _ _ (fun e => h1 e)).trans (h.2 x h1 h2 h3)⟩
theorem MkKeeps.grown {w a b : World} {g n j i : Nat} {v : Value} (h : MkKeeps w g n a) (hz : w.heap.size ≤ a.heap.size) (hg : g < a.heap.size) (hj : j < n) (hi : i = 1 ∨ i = 2) (hc : a.cell? ⟨g, j * 3 + i, none⟩ = some v) (hr : a.grownBy b v.ownBlock) (hne : v.ownBlock ≠ some g) : MkKeeps w g n b :=
  ⟨fun j' i' hj' hi' => (World.cell?_of_block (w := a) (a := ⟨g, _, none⟩) (hr.block g hg (fun e => hne e.symm))).trans (h.1 j' i' hj' hi'),
   fun x h1 h2 h3 => (hr.block x (by omega) (fun e => h2 j i v hj hi ((h.1 j i hj hi).symm.trans hc) e.symm)).trans (h.2 x h1 h2 h3)⟩

set_option maxRecDepth 100000 in
set_option maxHeartbeats 2000000 in
theorem markLineS_mk (v : Value) (ls : List LineD) (k B hi : Nat) (w : World) (hr : LinesShape B hi w v ls) (hn : ls.length + lineTot ls ≤ 1048576) (hk0 : 0 < k) (hk : k ≤ 2097152) :
    Calls Try.prog 114 #[v, .int .i64 k] w fun e w' => e = .returned (.int .i64 ((k + rowTot ls : Nat) : Int)) ∧ (∀ W : World, w'.heap.size ≤ W.heap.size → (∀ q, B ≤ q → q < hi → q < w'.heap.size → W.heap[q]? = w'.heap[q]?) → LinesAt W v (markedLs k ls)) ∧ Out B hi w w' ∧ ∀ g n c, v = .slice (some ⟨g, 0, none⟩) n c → MkKeeps w g n w' := by
  obtain ⟨g, c, cur, rfl, hg, hghi, hblk, hc1, hc2, hsh, hap⟩ := hr
  have hglt : g < w.heap.size := (Array.getElem?_eq_some_iff.1 hblk).1
  have hfz : ∀ o, w.frozen? ⟨g, o, none⟩ = false := fun o => by simp [World.frozen?, hblk]
  have HMk := Lib.hid (fun W j (h0 : 0 < j) (h : j ≤ 4194304) => markText_any j W h0 (by omega))
  have hrt := rowTot_le ls
  have HSh := Lib.hid hsh
  have HAp := Lib.hid hap
  clear hap hblk hsh
  go_enter Try.func114, Try.ntmps114
  go_wp2
  go_loopw [1, 5] (fun q i wr => ∃ j : Nat, j ≤ ls.length ∧ i = .int .i64 j ∧ q = .int .i64 ((k + rowTot (ls.take j) : Nat) : Int) ∧ Hid (∀ j (hj : j < ls.length), LineShape B hi wr g (j * 3) ls[j].stops.length ls[j].runs.length) ∧ Hid (RowsApart wr g ls.length) ∧ Hid (Out B hi w wr) ∧ g < wr.heap.size ∧ Hid (∀ o, wr.frozen? ⟨g, o, none⟩ = false) ∧ Hid (∀ i (hi' : i < ls.length), i < j → LineAt wr g (i * 3) (markedL (k + rowTot (ls.take i)) ls[i])) ∧ Hid (MkKeeps w g ls.length wr))
    (fun _ i _ => ls.length - (RowKit.intOf i).toNat)
  case atStart => exact ⟨0, Nat.zero_le _, rfl, by simp [rowTot], HSh.out, HAp.out, Out.refl _ _ _, hglt, hfz, (fun i hi' h => by omega), MkKeeps.refl _ _ _⟩
  case round =>
    obtain ⟨j, hj, rfl, rfl, HS, HA, HO, hgw, HF, HMd, HKp⟩ := hrel
    have hle := rowTot_take_le ls j
    by_cases hlt : j < ls.length
    · have hkb : k + rowTot (ls.take j) ≤ 4194304 := by omega
      have HRT := Lib.hid (rowTot_take ls j hlt)
      have hle2 := rowTot_take_le ls (j + 1)
      generalize hK : rowTot (ls.take j) = K at *
      have HK := Lib.hid hK
      clear hK
      have hj3 : (j : Int) < (ls.length : Int) := by omega
      clear hfz
      go_wp2_with fail
      go_at_call 127
      refine (HMk.out _ _ (by omega) (by omega)).mono ?_
      rintro e w1 ⟨rfl, hb1⟩
      have HS1 : Hid (∀ i (hi' : i < ls.length), LineShape B hi w1 g (i * 3) ls[i].stops.length ls[i].runs.length) := fun i hi' => (HS.out i hi').later hb1
      have hA1 : RowsApart w1 g ls.length := HA.out.of_cells fun o => hb1.cell (p := ⟨g, o, none⟩) hgw
      have HO1 : Hid (Out B hi w w1) := HO.out.trans (Out.of_below hb1 (by have := HO.out.below.size; omega))
      have hg1 : g < w1.heap.size := Nat.lt_of_lt_of_le hgw hb1.size
      have HF1 : Hid (∀ o, w1.frozen? ⟨g, o, none⟩ = false) := fun o => fkeep hb1 hgw (HF.out o)
      have HKp1 : Hid (MkKeeps w g ls.length w1) := HKp.out.below HO.out.below.size hgw hb1
      have hz1 : w.heap.size ≤ w1.heap.size := Nat.le_trans HO.out.below.size hb1.size
      have HMd1 : Hid (∀ i (hi' : i < ls.length), i < j → LineAt w1 g (i * 3) (markedL (k + rowTot (ls.take i)) ls[i])) := fun i hi' h => (HMd.out i hi' h).below rfl hb1
      obtain ⟨nm, sv, rv, s, r, c0, c1, c2, e1, e2, r1, r2, n1, n2, b1, b2⟩ := HS1.out j hlt
      have hf0 := HF1.out (j * 3)
      clear hb1 HS HA HO HF HMd HKp
      have hsl : s.length ≤ 1048576 ∧ r.length ≤ 1048576 := by have := HRT.out; omega
      obtain ⟨hsl1, hsl2⟩ := hsl
      have HE1 := Lib.hid e1
      have HE2 := Lib.hid e2
      clear e1 e2
      have HM1 := Lib.hid (markIntS_own sv s ((k : Int) + (K : Int) + 1) B (w1.setCell ⟨g, j * 3, none⟩ (.string ⟨(markL (k + K)).toArray⟩)) (own_other r1 n1 _) hsl1 (by omega) (by omega))
      have d1 : (w1.setCell ⟨g, j * 3, none⟩ (.string ⟨(markL (k + K)).toArray⟩)).cell? ⟨g, j * 3 + 1, none⟩ = some sv := (set_other (by omega)).trans c1
      have HW2 : Hid ((∀ i (hi' : i < ls.length), LineShape B hi (w1.setCell ⟨g, j * 3, none⟩ (.string ⟨(markL (k + K)).toArray⟩)) g (i * 3) ls[i].stops.length ls[i].runs.length) ∧ RowsApart (w1.setCell ⟨g, j * 3, none⟩ (.string ⟨(markL (k + K)).toArray⟩)) g ls.length ∧
          Out B hi w (w1.setCell ⟨g, j * 3, none⟩ (.string ⟨(markL (k + K)).toArray⟩)) ∧ ∀ o, (w1.setCell ⟨g, j * 3, none⟩ (.string ⟨(markL (k + K)).toArray⟩)).frozen? ⟨g, o, none⟩ = false) :=
        ⟨fun i hi' => (HS1.out i hi').named _ _ (by omega) (by omega), fun q i q' i' v v' h1 h2 h3 h4 h5 x y => hA1 q i q' i' v v' h1 h2 h3 h4 h5 ((set_other (by omega)).symm.trans x) ((set_other (by omega)).symm.trans y),
          HO1.out.setCell (p := ⟨g, _, none⟩) hg (by show g < hi; omega) _, fun o => by rw [World.frozen?_setCell]; exact HF1.out o⟩
      have HKp2 : Hid (MkKeeps w g ls.length (w1.setCell ⟨g, j * 3, none⟩ (.string ⟨(markL (k + K)).toArray⟩))) := HKp1.out.set (fun j' i hi => by omega) _
      have hz2 : w.heap.size ≤ (w1.setCell ⟨g, j * 3, none⟩ (.string ⟨(markL (k + K)).toArray⟩)).heap.size := by simpa [World.setCell] using hz1
      have HZ2 := Lib.hid hz2
      clear hz2 hz1 HKp1
      have HMd2 : Hid (∀ i (hi' : i < ls.length), i < j → LineAt (w1.setCell ⟨g, j * 3, none⟩ (.string ⟨(markL (k + K)).toArray⟩)) g (i * 3) (markedL (k + rowTot (ls.take i)) ls[i])) := fun i hi' h => (HMd1.out i hi' h).named (HS1.out i hi') _ _ (by omega) (by omega) (by omega)
      have d0 : (w1.setCell ⟨g, j * 3, none⟩ (.string ⟨(markL (k + K)).toArray⟩)).cell? ⟨g, j * 3, none⟩ = some (.string ⟨(markL (k + K)).toArray⟩) := set_same c0
      have HD0 := Lib.hid d0
      clear d0
      have HC := Lib.hid (And.intro c1 (And.intro c2 (And.intro r2 r1)))
      have hgs : g < (w1.setCell ⟨g, j * 3, none⟩ (.string ⟨(markL (k + K)).toArray⟩)).heap.size := by simp [World.setCell]; exact hg1
      have HGs := Lib.hid hgs
      clear c2 r1 r2 hA1 HS1 HO1 HF1 hgs HMd1
      generalize hTx : ByteArray.mk (markL (k + K)).toArray = tx at *
      have HTx := Lib.hid hTx
      clear hTx
      go_wp2_with fail
      go_at_call 82
      ((with_reducible refine HM1.out.mono ?_))
      rintro e w2 ⟨rfl, ho2, hg2⟩
      obtain ⟨hsh2, hap2, hout2, hfz2⟩ := HW2.out
      obtain ⟨c1', c2', q2, q1⟩ := HC.out
      have c2s := (set_other (u := .string tx) (show j * 3 ≠ j * 3 + 2 by omega)).trans c2'
      have hrow : sv.ownBlock ≠ some g := n1

      have hrv : rv.ownBlock = none ∨ rv.ownBlock ≠ sv.ownBlock := hap2 j 2 j 1 rv sv hlt hlt (.inr rfl) (.inl rfl) (.inr (by omega)) c2s d1
      have d2 : w2.cell? ⟨g, j * 3 + 2, none⟩ = some rv := gcell hg2 c2s hrow
      have q2' : w2.ownsRow B 3 1 rv r.length (ints r) := (own_other q2 n2 _).kept hg2 hrv
      have HSh3 : Hid (∀ i (hi' : i < ls.length), LineShape B hi w2 g (i * 3) ls[i].stops.length ls[i].runs.length) := fun i hi' => by
        by_cases he : i = j
        · subst he
          obtain ⟨nm', sv', rv', s', r', x0, x1, x2, y1, y2, z1, z2, rest⟩ := hsh2 i hi'
          have e1' : sv' = sv := by rw [d1] at x1; exact (Option.some.inj x1).symm
          subst e1'
          have e2' : rv' = rv := by rw [c2s] at x2; exact (Option.some.inj x2).symm
          subst e2'
          refine ⟨nm', sv', rv', countUp ((k : Int) + (K : Int) + 1) s.length, r, gcell hg2 x0 hrow, gcell hg2 x1 hrow, d2, by rw [countUp_len]; exact HE1.out, HE2.out, ?_, q2', rest⟩
          rw [countUp_len]; exact ho2
        · exact (hsh2 i hi').grown hg2 hrow (fun v i' hi2 hc => hap2 i i' j 1 v sv hi' hlt hi2 (.inl rfl) (.inl he) hc d1)
      have HAp3 := Lib.hid (hap2.grown hg2 hrow HGs.out)
      have HKp3 : Hid (MkKeeps w g ls.length w2) := HKp2.out.grown HZ2.out HGs.out hlt (.inl rfl) d1 hg2 hrow
      have HZ3 : Hid (w.heap.size ≤ w2.heap.size) := Nat.le_trans HZ2.out hg2.size
      have HMd3 : Hid (∀ i (hi' : i < ls.length), i < j → LineAt w2 g (i * 3) (markedL (k + rowTot (ls.take i)) ls[i])) := fun i hi' h => (HMd2.out i hi' h).grown hg2 hrow (fun v i' hi2 hc => hap2 i i' j 1 v sv hi' hlt hi2 (.inl rfl) (.inl (by omega)) hc d1)
      have HD1 : Hid (w2.cell? ⟨g, j * 3, none⟩ = some (.string tx) ∧ w2.cell? ⟨g, j * 3 + 1, none⟩ = some sv ∧ w2.ownsRow B 3 1 sv s.length (ints (countUp ((k : Int) + (K : Int) + 1) s.length))) := ⟨gcell hg2 HD0.out hrow, gcell hg2 d1 hrow, ho2⟩
      have HVR : Hid (w2.cell? ⟨g, j * 3 + 2, none⟩ = some rv) := d2
      have HOut3 : Hid (Out B hi w w2) := hout2.trans (Out.of_grown hg2 (by have := hout2.below.size; omega) (fun b hb => ⟨(ho2.lt b hb).1, b1 b hb⟩))
      have hgw2 : g < w2.heap.size := Nat.lt_of_lt_of_le HGs.out hg2.size
      have HFz3 : Hid (∀ o, w2.frozen? ⟨g, o, none⟩ = false) := fun o => by
        rw [World.frozen?_of_block (w := w1.setCell ⟨g, j * 3, none⟩ (.string tx)) (a := ⟨g, o, none⟩) (hg2.block g HGs.out (fun e => hrow e.symm))]; exact hfz2 o
      have HM2 := Lib.hid (markIntS_own rv r ((k : Int) + (K : Int) + 1 + s.length) B w2 q2' hsl2 (by omega) (by omega))
      clear hsh2 hap2 hout2 hfz2 q2' q2 q1 hg2 ho2 c1' c2' c2s hrv HM1 HW2 HC HGs HMd2 HD0 HKp2 HZ2
      go_wp2_with fail
      go_at_call 82
      ((with_reducible refine HM2.out.mono ?_))
      rintro e w3 ⟨rfl, ho3, hg3⟩
      have hrow3 : rv.ownBlock ≠ some g := n2
      have HSh4 : Hid (∀ i (hi' : i < ls.length), LineShape B hi w3 g (i * 3) ls[i].stops.length ls[i].runs.length) := fun i hi' => by
        by_cases he : i = j
        · subst he
          obtain ⟨nm', sv', rv', s', r', x0, x1, x2, y1, y2, z1, z2, m1, m2, m3, m4⟩ := HSh3.out i hi'
          have e2' : rv' = rv := by rw [d2] at x2; exact (Option.some.inj x2).symm
          subst e2'
          have hsv : sv'.ownBlock = none ∨ sv'.ownBlock ≠ rv'.ownBlock := HAp3.out i 1 i 2 sv' rv' hi' hi' (.inl rfl) (.inr rfl) (.inr (by omega)) x1 x2
          refine ⟨nm', sv', rv', s', countUp ((k : Int) + (K : Int) + 1 + s.length) r.length, gcell hg3 x0 hrow3, gcell hg3 x1 hrow3, gcell hg3 x2 hrow3, y1, by rw [countUp_len]; exact HE2.out, z1.kept hg3 hsv, ?_, m1, m2, m3, m4⟩
          rw [countUp_len]; exact ho3
        · exact (HSh3.out i hi').grown hg3 hrow3 (fun v i' hi2 hc => HAp3.out i i' j 2 v rv hi' hlt hi2 (.inr rfl) (.inl he) hc d2)
      have HAp4 := Lib.hid (HAp3.out.grown hg3 hrow3 hgw2)
      have HKp4 : Hid (MkKeeps w g ls.length w3) := HKp3.out.grown HZ3.out hgw2 hlt (.inr rfl) HVR.out hg3 hrow3
      have HMd4 : Hid (∀ i (hi' : i < ls.length), i < j + 1 → LineAt w3 g (i * 3) (markedL (k + rowTot (ls.take i)) ls[i])) := fun i hi' h => by
        by_cases he : i = j
        · subst he
          have hsv : sv.ownBlock = none ∨ sv.ownBlock ≠ rv.ownBlock := HAp3.out i 1 i 2 sv rv hi' hi' (.inl rfl) (.inr rfl) (.inr (by omega)) HD1.out.2.1 HVR.out
          have q1 := HE1.out
          have q2 := HE2.out
          have q3 := HK.out
          have q4 := HTx.out
          refine ⟨sv, rv, ?_, gcell hg3 HD1.out.2.1 hrow3, gcell hg3 HVR.out hrow3, ?_, ?_⟩
          · rw [q3]; simp only [markedL]; rw [q4]; exact gcell hg3 HD1.out.1 hrow3
          · rw [q3]; simp only [markedL, Int.natCast_add]; rw [← q1]; exact row_grown (rowAt_own HD1.out.2.2) hg3 hsv
          · rw [q3]; simp only [markedL, Int.natCast_add]; rw [← q1, ← q2]; exact rowAt_own ho3
        · exact (HMd3.out i hi' (by omega)).grown hg3 hrow3 (fun v i' hi2 hc => HAp3.out i i' j 2 v rv hi' hlt hi2 (.inr rfl) (.inl he) hc HVR.out)
      have HOut4 : Hid (Out B hi w w3) := HOut3.out.trans (Out.of_grown hg3 (by have := HOut3.out.below.size; omega) (fun b hb => ⟨(ho3.lt b hb).1, b2 b hb⟩))
      have hgw3 : g < w3.heap.size := Nat.lt_of_lt_of_le hgw2 hg3.size
      have HFz4 : Hid (∀ o, w3.frozen? ⟨g, o, none⟩ = false) := fun o => by
        rw [World.frozen?_of_block (w := w2) (a := ⟨g, o, none⟩) (hg3.block g hgw2 (fun e => hrow3 e.symm))]; exact HFz3.out o
      have HE : Hid ((k : Int) + (K : Int) + 1 + s.length + r.length = ((k + rowTot (ls.take (j + 1)) : Nat) : Int)) := by have := HRT.out; have := HE1.out; have := HE2.out; show _ = _; omega
      clear hg3 ho3 HSh3 HAp3 HOut3 HFz3 HM2 d1 d2 hle2 HMd3 HD1 HVR HKp3 HZ3
      go_wp2_with fail
      go_roundw
      case rel => exact ⟨j + 1, by omega, by go_num, by rw [← HE.out], HSh4, HAp4, HOut4, hgw3, HFz4, HMd4, HKp4⟩
      case measure => simp [RowKit.intOf]; omega
    · have hjl : j = ls.length := by omega
      subst hjl
      have HE : Hid (rowTot (ls.take ls.length) = rowTot ls) := by show _ = _; rw [List.take_length]
      go_wp2_with fail
      go_ret
      refine ⟨ret_int (by rw [HE.out]), fun W hWz hWq => ⟨some ⟨g, 0, none⟩, c, by rw [markedLs_len], by rw [markedLs_len]; exact hc1, hc2, fun i l hl => ?_⟩, HO.out, fun g' n' c' e => by simp at e; obtain ⟨rfl, rfl, rfl⟩ := e; exact HKp.out⟩
      have hi : i < ls.length := by have := (List.getElem?_eq_some_iff.1 hl).1; rw [markedLs_len] at this; exact this
      rw [markedLs_get k ls i hi] at hl
      cases hl
      exact ⟨g, 0, rfl, Nat.lt_of_lt_of_le hgw hWz, by rw [Nat.zero_add]; exact (HMd.out i hi hi).keepIn (HS.out i hi) hg hghi hgw hWz hWq⟩

end Go.Proofs.Ytehpeifaknbcnaa
