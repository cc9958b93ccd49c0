/-
  What spec.SameText and impl.SameText both return.
-/
import Derived.Test.YtffcgblionlhhaaDoorFormatTimetable
namespace Go.Proofs.YtffcgblionlhhaaDoor
open Go.RowKit
set_option linter.unusedVariables false
set_option linter.unusedSimpArgs false

def txB (t : TTD) : ByteArray := ⟨(ttTx t).toArray⟩
noncomputable def smF (s t : TTD) : Bool × Bool := if TTGood s ∧ TTGood t then ((txB s).toList == (txB t).toList, true) else (false, false)
theorem keepW6 {W w w' : World} {p0 p1 p2 p3 p4 p5 : Addr} {x0 x1 x2 x3 x4 x5 : Value} (hb : Below w.heap.size w w') (h : w.cell? p0 = some x0 ∧ w.cell? p1 = some x1 ∧ w.cell? p2 = some x2 ∧ w.cell? p3 = some x3 ∧ w.cell? p4 = some x4 ∧ w.cell? p5 = some x5 ∧ Below W.heap.size W w) :
    w'.cell? p0 = some x0 ∧ w'.cell? p1 = some x1 ∧ w'.cell? p2 = some x2 ∧ w'.cell? p3 = some x3 ∧ w'.cell? p4 = some x4 ∧ w'.cell? p5 = some x5 ∧ Below W.heap.size W w' :=
  ⟨bkeep hb h.1, bkeep hb h.2.1, bkeep hb h.2.2.1, bkeep hb h.2.2.2.1, bkeep hb h.2.2.2.2.1, bkeep hb h.2.2.2.2.2.1, h.2.2.2.2.2.2.trans (hb.mono h.2.2.2.2.2.2.size)⟩
theorem belW6 {W w : World} {p0 p1 p2 p3 p4 p5 : Addr} {x0 x1 x2 x3 x4 x5 : Value} (h : w.cell? p0 = some x0 ∧ w.cell? p1 = some x1 ∧ w.cell? p2 = some x2 ∧ w.cell? p3 = some x3 ∧ w.cell? p4 = some x4 ∧ w.cell? p5 = some x5 ∧ Below W.heap.size W w) : Below W.heap.size W w := h.2.2.2.2.2.2

set_option maxRecDepth 100000 in
set_option maxHeartbeats 4000000 in
theorem specSameText_any (v u : Value) (s t : TTD) (w : World) (hr : TTAt w v s) (hr2 : TTAt w u t) (hf : TTFits s) (hf2 : TTFits t) :
    Calls Tryd.prog 37 #[v, u] w fun e w' => e = .returned (.tuple #[.bool (smF s t).1, .bool (smF s t).2]) ∧ Below w.heap.size w w' := by
  have HG := Lib.hid (fun W (hW : Below w.heap.size w W) => l5Good_any v s W (hr.below rfl hW) hf)
  have HG2 := Lib.hid (fun W (hW : Below w.heap.size w W) => l5Good_any u t W (hr2.below rfl hW) hf2)
  have HL := Lib.hid (fun W (hW : Below w.heap.size w W) (hg : TTGood s) => l6Timetable_any v s W (hr.below rfl hW) hg)
  have HL2 := Lib.hid (fun W (hW : Below w.heap.size w W) (hg : TTGood t) => l6Timetable_any u t W (hr2.below rfl hW) hg)
  obtain ⟨a, c, a', c', b, d, rfl, -, -⟩ := tt_open hr
  obtain ⟨e1, f1, e2, f2, e3, f3, rfl, -, -⟩ := tt_open hr2
  clear hr hf hr2 hf2
  by_cases hg : TTGood s
  · rw [ttB_yes hg] at HG
    by_cases hg2 : TTGood t
    · rw [ttB_yes hg2] at HG2
      rw [show smF s t = ((txB s).toList == (txB t).toList, true) from if_pos ⟨hg, hg2⟩]
      have HLa : Hid (∀ W, Below w.heap.size w W → Calls Tryd.prog 92 #[.agg #[.slice a s.net.stops.length c, .slice a' s.net.lines.length c', .slice b s.trips.length d]] W fun e w' => e = .returned (.string (txB s)) ∧ Below W.heap.size W w') := fun W hW => HL.out W hW hg
      have HLb : Hid (∀ W, Below w.heap.size w W → Calls Tryd.prog 92 #[.agg #[.slice e1 t.net.stops.length f1, .slice e2 t.net.lines.length f2, .slice e3 t.trips.length f3]] W fun e w' => e = .returned (.string (txB t)) ∧ Below W.heap.size W w') := fun W hW => HL2.out W hW hg2
      clear HL HL2 hg hg2
      generalize txB s = X at *
      generalize txB t = Y at *
      go_enter Tryd.func37, Tryd.ntmps37
      go_wp2_with fail
      go_at_call 57
      refine (HG.out _ (((Below.refl _ _).alloc (Nat.le_refl _) _).alloc (by simp) _)).mono ?_
      rintro e w1 ⟨rfl, hb1⟩
      have HB1 : Hid (Below w.heap.size w w1) := (((Below.refl _ _).alloc (Nat.le_refl _) _).alloc (by simp) _).trans (hb1.mono (by simp; omega))
      have p0 : w1.cell? ⟨w.heap.size, 0, none⟩ = some (.slice a s.net.stops.length c) := bkeep hb1 (by go_simp)
      have p1 : w1.cell? ⟨w.heap.size, 1, none⟩ = some (.slice a' s.net.lines.length c') := bkeep hb1 (by go_simp)
      have p2 : w1.cell? ⟨w.heap.size, 2, none⟩ = some (.slice b s.trips.length d) := bkeep hb1 (by go_simp)
      have r0 : w1.cell? ⟨w.heap.size + 1, 0, none⟩ = some (.slice e1 t.net.stops.length f1) := bkeep hb1 (by go_simp)
      have r1 : w1.cell? ⟨w.heap.size + 1, 1, none⟩ = some (.slice e2 t.net.lines.length f2) := bkeep hb1 (by go_simp)
      have r2 : w1.cell? ⟨w.heap.size + 1, 2, none⟩ = some (.slice e3 t.trips.length f3) := bkeep hb1 (by go_simp)
      clear hb1
      go_wp2_with fail
      go_at_call 57
      refine (HG2.out _ HB1.out).mono ?_
      rintro e w2 ⟨rfl, hb2⟩
      have hbel : Below w.heap.size w w2 := HB1.out.trans (hb2.mono HB1.out.size)
      have q0 := bkeep hb2 p0
      have q1 := bkeep hb2 p1
      have q2 := bkeep hb2 p2
      have t0 := bkeep hb2 r0
      have t1 := bkeep hb2 r1
      have t2 := bkeep hb2 r2
      clear hb2 p0 p1 p2 r0 r1 r2 HB1
      go_wp2_with fail
      go_region_held3 (fun w' => w'.cell? ⟨w.heap.size, 0, none⟩ = some (.slice a s.net.stops.length c) ∧ w'.cell? ⟨w.heap.size, 1, none⟩ = some (.slice a' s.net.lines.length c') ∧ w'.cell? ⟨w.heap.size, 2, none⟩ = some (.slice b s.trips.length d) ∧ w'.cell? ⟨w.heap.size + 1, 0, none⟩ = some (.slice e1 t.net.stops.length f1) ∧ w'.cell? ⟨w.heap.size + 1, 1, none⟩ = some (.slice e2 t.net.lines.length f2) ∧ w'.cell? ⟨w.heap.size + 1, 2, none⟩ = some (.slice e3 t.trips.length f3) ∧ Below w.heap.size w w')
        (first | (exact ⟨q0, q1, q2, t0, t1, t2, hbel.drew⟩) | (exact keepW6 hb (by assumption)))
        (first | (go_at_call_of 92 s; refine (HLa.out _ (belW6 (by assumption))).mono ?_; rintro e w' ⟨rfl, hb⟩) | (go_at_call_of 92 t; refine (HLb.out _ (belW6 (by assumption))).mono ?_; rintro e w' ⟨rfl, hb⟩))
      all_goals
        obtain ⟨-, -, -, -, -, -, qb⟩ := (by assumption : _ ∧ _)
        clear q0 q1 q2 t0 t1 t2
        go_wp2_with fail
        go_ret2
        exact ⟨rfl, qb⟩
    · rw [ttB_no hg2] at HG2
      rw [show smF s t = (false, false) from if_neg fun h => hg2 h.2]
      clear HL HL2 hg hg2
      go_enter Tryd.func37, Tryd.ntmps37
      go_wp2_with fail
      go_at_call 57
      refine (HG.out _ (((Below.refl _ _).alloc (Nat.le_refl _) _).alloc (by simp) _)).mono ?_
      rintro e w1 ⟨rfl, hb1⟩
      have HB1 : Hid (Below w.heap.size w w1) := (((Below.refl _ _).alloc (Nat.le_refl _) _).alloc (by simp) _).trans (hb1.mono (by simp; omega))
      have r0 : w1.cell? ⟨w.heap.size + 1, 0, none⟩ = some (.slice e1 t.net.stops.length f1) := bkeep hb1 (by go_simp)
      have r1 : w1.cell? ⟨w.heap.size + 1, 1, none⟩ = some (.slice e2 t.net.lines.length f2) := bkeep hb1 (by go_simp)
      have r2 : w1.cell? ⟨w.heap.size + 1, 2, none⟩ = some (.slice e3 t.trips.length f3) := bkeep hb1 (by go_simp)
      clear hb1
      go_wp2_with fail
      go_at_call 57
      refine (HG2.out _ HB1.out).mono ?_
      rintro e w2 ⟨rfl, hb2⟩
      have HB2 : Hid (Below w.heap.size w w2) := HB1.out.trans (hb2.mono HB1.out.size)
      clear hb2 r0 r1 r2 HB1
      go_wp2_with fail
      go_ret2
      exact ⟨rfl, HB2.out⟩
  · rw [ttB_no hg] at HG
    rw [show smF s t = (false, false) from if_neg fun h => hg h.1]
    clear HL HL2 hg HG2
    go_enter Tryd.func37, Tryd.ntmps37
    go_wp2_with fail
    go_at_call 57
    refine (HG.out _ (((Below.refl _ _).alloc (Nat.le_refl _) _).alloc (by simp) _)).mono ?_
    rintro e w1 ⟨rfl, hb1⟩
    have HB1 : Hid (Below w.heap.size w w1) := (((Below.refl _ _).alloc (Nat.le_refl _) _).alloc (by simp) _).trans (hb1.mono (by simp; omega))
    clear hb1
    go_wp2_with fail
    go_ret2
    exact ⟨rfl, HB1.out⟩

set_option maxRecDepth 100000 in
set_option maxHeartbeats 4000000 in
theorem implSameText_any (v u : Value) (s t : TTD) (w : World) (hr : TTAt w v s) (hr2 : TTAt w u t) (hf : TTFits s) (hf2 : TTFits t) (hp : PowAt w) :
    Calls Tryd.prog 38 #[v, u] w fun e w' => e = .returned (.tuple #[.bool (smF s t).1, .bool (smF s t).2]) ∧ Below w.heap.size w w' := by
  have HF := Lib.hid (fun W (hW : Below w.heap.size w W) => implFormatTimetable_any v s W (hr.below rfl hW) hf (hp.later hW))
  have HF2 := Lib.hid (fun W (hW : Below w.heap.size w W) => implFormatTimetable_any u t W (hr2.below rfl hW) hf2 (hp.later hW))
  obtain ⟨a, c, a', c', b, d, rfl, -, -⟩ := tt_open hr
  obtain ⟨e1, f1, e2, f2, e3, f3, rfl, -, -⟩ := tt_open hr2
  have H : Hid (∀ x y, (ftF s).2 = x → (ftF t).2 = y → smF s t = if x && y then ((ftF s).1.toList == (ftF t).1.toList, true) else (false, false)) := by
    intro x y hx hy
    unfold ftF at hx hy ⊢
    unfold smF
    by_cases hg : TTGood s
    · by_cases hg2 : TTGood t
      · simp only [hg, hg2, if_true] at hx hy ⊢; subst hx; subst hy; rfl
      · simp only [hg, hg2, if_true, if_false] at hx hy ⊢; subst hx; subst hy; simp
    · simp only [hg, if_false] at hx ⊢; subst hx; simp
  clear hr hf hr2 hf2 hp
  generalize ftF s = X at *
  generalize ftF t = Y at *
  obtain ⟨X1, X2⟩ := X
  obtain ⟨Y1, Y2⟩ := Y
  have HE := Lib.hid (H.out X2 Y2 rfl rfl)
  clear H
  simp only at HE HF HF2
  go_enter Tryd.func38, Tryd.ntmps38
  go_wp2_with fail
  go_at_call 36
  refine (HF.out _ (((Below.refl _ _).alloc (Nat.le_refl _) _).alloc (by simp) _)).mono ?_
  rintro e w1 ⟨rfl, hb1⟩
  have HB1 : Hid (Below w.heap.size w w1) := (((Below.refl _ _).alloc (Nat.le_refl _) _).alloc (by simp) _).trans (hb1.mono (by simp; omega))
  have r0 : w1.cell? ⟨w.heap.size + 1, 0, none⟩ = some (.slice e1 t.net.stops.length f1) := bkeep hb1 (by go_simp)
  have r1 : w1.cell? ⟨w.heap.size + 1, 1, none⟩ = some (.slice e2 t.net.lines.length f2) := bkeep hb1 (by go_simp)
  have r2 : w1.cell? ⟨w.heap.size + 1, 2, none⟩ = some (.slice e3 t.trips.length f3) := bkeep hb1 (by go_simp)
  clear hb1
  go_wp2_with fail
  go_at_call 36
  refine (HF2.out _ HB1.out).mono ?_
  rintro e w2 ⟨rfl, hb2⟩
  have HB2 : Hid (Below w.heap.size w w2) := HB1.out.trans (hb2.mono HB1.out.size)
  clear hb2 r0 r1 r2 HB1
  cases X2 with
  | true =>
    cases Y2 with
    | true =>
      go_wp2_with fail
      go_ret2
      exact ⟨by rw [HE.out]; rfl, HB2.out⟩
    | false =>
      go_wp2_with fail
      go_ret2
      exact ⟨by rw [HE.out]; rfl, HB2.out⟩
  | false =>
    go_wp2_with fail
    go_ret2
    exact ⟨by rw [HE.out]; rfl, HB2.out⟩

theorem bothSameText (s : TTD) (hf : TTFits s) (hs : TTSmall s) (t : TTD) (hf2 : TTFits t) (hs2 : TTSmall t) : ∃ (r b : Bool), ∀ (v u : Value) (w : World), TTAt w v s → TTAt w u t →
    Calls Tryd.prog 37 #[v, u] w (fun e w' => e = .returned (.tuple #[.bool r, .bool b]) ∧ Below w.heap.size w w') ∧
    (PowAt w → Calls Tryd.prog 38 #[v, u] w (fun e w' => e = .returned (.tuple #[.bool r, .bool b]) ∧ Below w.heap.size w w')) :=
  ⟨_, _, fun v u w h h2 => ⟨specSameText_any v u s t w h h2 hf hf2, implSameText_any v u s t w h h2 hf hf2⟩⟩
end Go.Proofs.YtffcgblionlhhaaDoor
