/-
  WHAT IS ASKED OF TWO STOPS: impl.canTravelBetween, spec.l8Pair.
-/
import Derived.Test.YtmcpafflnccfaaaEarliestArrivals
namespace Go.Proofs.Ytmcpafflnccfaaa
open Go.RowKit Go.Maps Jrn
set_option linter.unusedVariables false
set_option linter.unusedSimpArgs false

noncomputable def pairB (t : TTD) (ch frm too at_ : Int) : Bool := eokB t ch frm at_ && (decide (0 ≤ too ∧ too < (t.net.stops.length : Int)) && !decide (frm = too))
theorem pairB_no1 {t : TTD} {ch frm too at_ : Int} (h : eokB t ch frm at_ = false) : pairB t ch frm too at_ = false := by unfold pairB; rw [h]; rfl
theorem pairB_no2 {t : TTD} {ch frm too at_ : Int} (h : ¬ (0 ≤ too ∧ too < (t.net.stops.length : Int))) : pairB t ch frm too at_ = false := by unfold pairB; rw [decide_eq_false h]; simp
theorem pairB_no3 {t : TTD} {ch frm too at_ : Int} (h : frm = too) : pairB t ch frm too at_ = false := by unfold pairB; rw [decide_eq_true h]; simp
theorem pairB_yes {t : TTD} {ch frm too at_ : Int} (h : eokB t ch frm at_ = true) (h2 : 0 ≤ too ∧ too < (t.net.stops.length : Int)) (h3 : ¬ frm = too) : pairB t ch frm too at_ = true := by unfold pairB; rw [h, decide_eq_true h2, decide_eq_false h3]; rfl
theorem pairB_iff {t : TTD} {ch frm too at_ : Int} (h : pairB t ch frm too at_ = true) : EOk t ch frm at_ ∧ (0 ≤ too ∧ too < (t.net.stops.length : Int)) ∧ frm ≠ too := by
  unfold pairB at h
  rw [Bool.and_eq_true, Bool.and_eq_true] at h
  exact ⟨eokB_iff h.1, of_decide_eq_true h.2.1, by simpa using h.2.2⟩

set_option maxHeartbeats 2000000 in
theorem l8Pair_any (v : Value) (t : TTD) (ch frm too at_ : Int) (w : World) (hr : TTAt w v t) (hf : TTFits t) (hs : TTSmall t) :
    Calls Try.prog 51 #[v, .int .i64 ch, .int .i64 frm, .int .i64 too, .int .i64 at_] w fun e w' => e = .returned (.bool (pairB t ch frm too at_)) ∧ Below w.heap.size w w' := by
  have HF := Lib.hid (fun W (hW : Below w.heap.size w W) => l8From_any v t ch frm at_ W (hr.below rfl hW) hf hs)
  obtain ⟨a, c, a', c', b, d, rfl, -, -⟩ := tt_open hr
  clear hr hf
  cases he : eokB t ch frm at_ with
  | false =>
    rw [pairB_no1 he]
    rw [he] at HF
    clear he
    go_enter Try.func51, Try.ntmps51
    go_wp2_with fail
    go_at_call 94
    refine (HF.out _ ((Below.refl _ _).alloc (Nat.le_refl _) _)).mono ?_
    rintro e w1 ⟨rfl, hb⟩
    have HB1 : Hid (Below w.heap.size w w1) := ((Below.refl _ _).alloc (Nat.le_refl _) _).trans (hb.mono (by simp))
    clear hb
    go_wp2_with fail
    go_ret
    exact ⟨rfl, HB1.out⟩
  | true =>
    rw [he] at HF
    have h8 := (eokB_iff he).1.1.1.2.1
    have hws : IntKind.i64.wrap ((t.net.stops.length : Int) - 1) = (t.net.stops.length : Int) - 1 := IntWalk.i64_in _ (by omega)
    by_cases hst : 0 ≤ too ∧ too ≤ (t.net.stops.length : Int) - 1
    · by_cases hft : frm = too
      · rw [pairB_no3 hft]
        have hm : (frm == too) = true := by simp [hft]
        subst hft
        clear he
        go_enter Try.func51, Try.ntmps51
        go_wp2_with fail
        go_at_call 94
        refine (HF.out _ ((Below.refl _ _).alloc (Nat.le_refl _) _)).mono ?_
        rintro e w1 ⟨rfl, hb⟩
        have HB1 : Hid (Below w.heap.size w w1) := ((Below.refl _ _).alloc (Nat.le_refl _) _).trans (hb.mono (by simp))
        have z0 : w1.cell? ⟨w.heap.size, 0, none⟩ = some (.slice a t.net.stops.length c) := bkeep hb (by go_simp)
        have z1 : w1.cell? ⟨w.heap.size, 1, none⟩ = some (.slice a' t.net.lines.length c') := bkeep hb (by go_simp)
        clear hb
        go_wp2_with fail
        go_at_call 66
        refine (l1In_yes _ _ _ _ (by first | exact hst | (rw [hws]; exact hst))).mono ?_
        rintro e w2 ⟨rfl, rfl⟩
        go_wp2_with fail
        go_ret
        exact ⟨rfl, HB1.out⟩
      · rw [pairB_yes he ⟨hst.1, by omega⟩ hft]
        have HM : Hid ((frm != too) = true) := by show _ = _; simp [hft]
        clear he
        go_enter Try.func51, Try.ntmps51
        go_wp2_with fail
        go_at_call 94
        refine (HF.out _ ((Below.refl _ _).alloc (Nat.le_refl _) _)).mono ?_
        rintro e w1 ⟨rfl, hb⟩
        have HB1 : Hid (Below w.heap.size w w1) := ((Below.refl _ _).alloc (Nat.le_refl _) _).trans (hb.mono (by simp))
        have z0 : w1.cell? ⟨w.heap.size, 0, none⟩ = some (.slice a t.net.stops.length c) := bkeep hb (by go_simp)
        have z1 : w1.cell? ⟨w.heap.size, 1, none⟩ = some (.slice a' t.net.lines.length c') := bkeep hb (by go_simp)
        clear hb
        go_wp2_with fail
        go_at_call 66
        refine (l1In_yes _ _ _ _ (by first | exact hst | (rw [hws]; exact hst))).mono ?_
        rintro e w2 ⟨rfl, rfl⟩
        go_wp2_with fail
        go_ret
        exact ⟨by rw [← HM.out]; rfl, HB1.out⟩
    · rw [pairB_no2 (fun h => hst ⟨h.1, by have := h.2; omega⟩)]
      clear he
      go_enter Try.func51, Try.ntmps51
      go_wp2_with fail
      go_at_call 94
      refine (HF.out _ ((Below.refl _ _).alloc (Nat.le_refl _) _)).mono ?_
      rintro e w1 ⟨rfl, hb⟩
      have HB1 : Hid (Below w.heap.size w w1) := ((Below.refl _ _).alloc (Nat.le_refl _) _).trans (hb.mono (by simp))
      have z0 : w1.cell? ⟨w.heap.size, 0, none⟩ = some (.slice a t.net.stops.length c) := bkeep hb (by go_simp)
      have z1 : w1.cell? ⟨w.heap.size, 1, none⟩ = some (.slice a' t.net.lines.length c') := bkeep hb (by go_simp)
      clear hb
      go_wp2_with fail
      go_at_call 66
      refine (l1In_no _ _ _ _ (by first | exact hst | (rw [hws]; exact hst))).mono ?_
      rintro e w2 ⟨rfl, rfl⟩
      go_wp2_with fail
      go_ret
      exact ⟨rfl, HB1.out⟩

set_option maxHeartbeats 2000000 in
theorem canTravelBetween_any (v : Value) (t : TTD) (ch frm too at_ : Int) (w : World) (hr : TTAt w v t) (hf : TTFits t) (hs : TTSmall t) :
    Calls Try.prog 55 #[v, .int .i64 ch, .int .i64 frm, .int .i64 too, .int .i64 at_] w fun e w' => e = .returned (.bool (pairB t ch frm too at_)) ∧ Below w.heap.size w w' := by
  have HF := Lib.hid (fun W (hW : Below w.heap.size w W) => canTravel_any v t ch frm at_ W (hr.below rfl hW) hf)
  obtain ⟨a, c, a', c', b, d, rfl, hn, -⟩ := tt_open hr
  have HS := Lib.hid (fun W (hW : Below w.heap.size w W) => isStopOf_any _ t.net too W (hn.below rfl hW) hf.1)
  clear hr hf hn
  cases he : eokB t ch frm at_ with
  | false =>
    rw [pairB_no1 he]
    rw [he] at HF
    clear he HS
    go_enter Try.func55, Try.ntmps55
    go_wp2_with fail
    go_at_call 88
    refine (HF.out _ ((Below.refl _ _).alloc (Nat.le_refl _) _)).mono ?_
    rintro e w1 ⟨rfl, hb⟩
    have HB1 : Hid (Below w.heap.size w w1) := ((Below.refl _ _).alloc (Nat.le_refl _) _).trans (hb.mono (by simp))
    clear hb
    go_wp2_with fail
    go_ret
    exact ⟨rfl, HB1.out⟩
  | true =>
    rw [he] at HF
    by_cases hst : 0 ≤ too ∧ too < (t.net.stops.length : Int)
    · have hsi : StopIn t.net too := ⟨(eokB_iff he).1.1, hst.1, hst.2⟩
      have HSt : Hid (∀ W, Below w.heap.size w W → Calls Try.prog 98 #[.agg #[.slice a t.net.stops.length c, .slice a' t.net.lines.length c'], .int .i64 too] W fun e w' => e = .returned (.bool true) ∧ Below W.heap.size W w') := fun W hW => (HS.out W hW).mono fun e w' ⟨h, hb⟩ => ⟨by rcases h with ⟨_, h⟩ | ⟨h, _⟩; exact h; exact absurd hsi h, hb⟩
      by_cases hft : frm = too
      · rw [pairB_no3 hft]
        have hm : (frm == too) = true := by simp [hft]
        subst hft
        clear he hst hsi HS
        go_enter Try.func55, Try.ntmps55
        go_wp2_with fail
        go_at_call 88
        refine (HF.out _ ((Below.refl _ _).alloc (Nat.le_refl _) _)).mono ?_
        rintro e w1 ⟨rfl, hb⟩
        have HB1 : Hid (Below w.heap.size w w1) := ((Below.refl _ _).alloc (Nat.le_refl _) _).trans (hb.mono (by simp))
        have z0 : w1.cell? ⟨w.heap.size, 0, none⟩ = some (.slice a t.net.stops.length c) := bkeep hb (by go_simp)
        have z1 : w1.cell? ⟨w.heap.size, 1, none⟩ = some (.slice a' t.net.lines.length c') := bkeep hb (by go_simp)
        clear hb
        go_wp2_with fail
        go_at_call 98
        refine (HSt.out _ HB1.out).mono ?_
        rintro e w2 ⟨rfl, hb⟩
        have HB2 : Hid (Below w.heap.size w w2) := HB1.out.trans (hb.mono HB1.out.size)
        clear hb z0 z1
        go_wp2_with fail
        go_ret
        exact ⟨rfl, HB2.out⟩
      · rw [pairB_yes he hst hft]
        have HM : Hid ((frm != too) = true) := by show _ = _; simp [hft]
        clear he hst hsi HS
        go_enter Try.func55, Try.ntmps55
        go_wp2_with fail
        go_at_call 88
        refine (HF.out _ ((Below.refl _ _).alloc (Nat.le_refl _) _)).mono ?_
        rintro e w1 ⟨rfl, hb⟩
        have HB1 : Hid (Below w.heap.size w w1) := ((Below.refl _ _).alloc (Nat.le_refl _) _).trans (hb.mono (by simp))
        have z0 : w1.cell? ⟨w.heap.size, 0, none⟩ = some (.slice a t.net.stops.length c) := bkeep hb (by go_simp)
        have z1 : w1.cell? ⟨w.heap.size, 1, none⟩ = some (.slice a' t.net.lines.length c') := bkeep hb (by go_simp)
        clear hb
        go_wp2_with fail
        go_at_call 98
        refine (HSt.out _ HB1.out).mono ?_
        rintro e w2 ⟨rfl, hb⟩
        have HB2 : Hid (Below w.heap.size w w2) := HB1.out.trans (hb.mono HB1.out.size)
        clear hb z0 z1
        go_wp2_with fail
        go_ret
        exact ⟨by rw [← HM.out]; rfl, HB2.out⟩
    · rw [pairB_no2 hst]
      have hsi : ¬ StopIn t.net too := fun h => hst ⟨h.2.1, h.2.2⟩
      have HSt : Hid (∀ W, Below w.heap.size w W → Calls Try.prog 98 #[.agg #[.slice a t.net.stops.length c, .slice a' t.net.lines.length c'], .int .i64 too] W fun e w' => e = .returned (.bool false) ∧ Below W.heap.size W w') := fun W hW => (HS.out W hW).mono fun e w' ⟨h, hb⟩ => ⟨by rcases h with ⟨h, _⟩ | ⟨_, h⟩; exact absurd h hsi; exact h, hb⟩
      clear he hst hsi HS
      go_enter Try.func55, Try.ntmps55
      go_wp2_with fail
      go_at_call 88
      refine (HF.out _ ((Below.refl _ _).alloc (Nat.le_refl _) _)).mono ?_
      rintro e w1 ⟨rfl, hb⟩
      have HB1 : Hid (Below w.heap.size w w1) := ((Below.refl _ _).alloc (Nat.le_refl _) _).trans (hb.mono (by simp))
      have z0 : w1.cell? ⟨w.heap.size, 0, none⟩ = some (.slice a t.net.stops.length c) := bkeep hb (by go_simp)
      have z1 : w1.cell? ⟨w.heap.size, 1, none⟩ = some (.slice a' t.net.lines.length c') := bkeep hb (by go_simp)
      clear hb
      go_wp2_with fail
      go_at_call 98
      refine (HSt.out _ HB1.out).mono ?_
      rintro e w2 ⟨rfl, hb⟩
      have HB2 : Hid (Below w.heap.size w w2) := HB1.out.trans (hb.mono HB1.out.size)
      clear hb z0 z1
      go_wp2_with fail
      go_ret
      exact ⟨rfl, HB2.out⟩
end Go.Proofs.Ytmcpafflnccfaaa
