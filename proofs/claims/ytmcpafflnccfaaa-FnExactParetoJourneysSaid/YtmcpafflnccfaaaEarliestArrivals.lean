/-
  CONTRACTS of spec.l8From and spec.EarliestArrivals; both sides.
-/
import Derived.Test.YtmcpafflnccfaaaEarliestI
import Derived.Test.YtmcpafflnccfaaaL8Arr
namespace Go.Proofs.Ytmcpafflnccfaaa
open Go.RowKit Go.Maps Jrn
set_option linter.unusedVariables false
set_option linter.unusedSimpArgs false

set_option maxHeartbeats 2000000 in
theorem l8From_any (v : Value) (t : TTD) (ch stop at_ : Int) (w : World) (hr : TTAt w v t) (hf : TTFits t) (hs : TTSmall t) :
    Calls Try.prog 94 #[v, .int .i64 ch, .int .i64 stop, .int .i64 at_] w fun e w' => e = .returned (.bool (eokB t ch stop at_)) ∧ Below w.heap.size w w' := by
  have HA := Lib.hid (fun W (hW : Below w.heap.size w W) => l8Asked_any v t ch W (hr.below rfl hW) hf)
  have HT := Lib.hid (fun W => l4Time_any at_ W)
  obtain ⟨a, c, a', c', b, d, rfl, -, -⟩ := tt_open hr
  clear hr hf
  by_cases hg : TTGood t ∧ 0 ≤ ch ∧ ch ≤ 30
  · rw [askB_yes hg] at HA
    have h8 := hg.1.1.1.2.1
    have hws : IntKind.i64.wrap ((t.net.stops.length : Int) - 1) = (t.net.stops.length : Int) - 1 := IntWalk.i64_in _ (by omega)
    by_cases hst : 0 ≤ stop ∧ stop ≤ (t.net.stops.length : Int) - 1
    · have HE : Hid (eokB t ch stop at_ = timeB at_) := by
        show _ = _
        by_cases h2 : TimeOk at_
        · rw [eokB_yes ⟨hg.1, hg.2, ⟨hst.1, by omega⟩, h2⟩, timeB_yes h2]
        · rw [eokB_no (fun h => h2 h.2.2.2), timeB_no h2]
      rw [HE.out]
      clear hg HE
      generalize timeB at_ = tb at *
      go_enter Try.func94, Try.ntmps94
      go_wp2_with fail
      go_at_call 63
      refine (HA.out _ ((Below.refl _ _).alloc (Nat.le_refl _) _)).mono ?_
      rintro e w1 ⟨rfl, hb⟩
      have HB1 : Hid (Below w.heap.size w w1) := ((Below.refl _ _).alloc (Nat.le_refl _) _).trans (hb.mono (by simp))
      have z0 : w1.cell? ⟨w.heap.size, 0, none⟩ = some (.slice a t.net.stops.length c) := bkeep hb (by go_simp)
      clear hb
      go_wp2_with fail
      go_at_call 66
      refine (l1In_yes _ _ _ _ (by first | exact hst | (rw [hws]; exact hst))).mono ?_
      rintro e w2 ⟨rfl, rfl⟩
      go_wp2_with (go_at_call 126; refine (HT.out _).mono ?_; rintro e w4 ⟨rfl, rfl⟩)
      go_ret
      exact ⟨rfl, HB1.out⟩
    · rw [eokB_no (fun h => hst ⟨h.2.2.1.1, by have := h.2.2.1.2; omega⟩)]
      clear hg
      go_enter Try.func94, Try.ntmps94
      go_wp2_with fail
      go_at_call 63
      refine (HA.out _ ((Below.refl _ _).alloc (Nat.le_refl _) _)).mono ?_
      rintro e w1 ⟨rfl, hb⟩
      have HB1 : Hid (Below w.heap.size w w1) := ((Below.refl _ _).alloc (Nat.le_refl _) _).trans (hb.mono (by simp))
      have z0 : w1.cell? ⟨w.heap.size, 0, none⟩ = some (.slice a t.net.stops.length c) := bkeep hb (by go_simp)
      clear hb
      go_wp2_with fail
      go_at_call 66
      refine (l1In_no _ _ _ _ (by first | exact hst | (rw [hws]; exact hst))).mono ?_
      rintro e w2 ⟨rfl, rfl⟩
      go_wp2_with fail
      go_ret
      exact ⟨rfl, HB1.out⟩
  · rw [askB_no hg] at HA
    rw [eokB_no (fun h => hg ⟨h.1, h.2.1⟩)]
    clear hg
    go_enter Try.func94, Try.ntmps94
    go_wp2_with fail
    go_at_call 63
    refine (HA.out _ ((Below.refl _ _).alloc (Nat.le_refl _) _)).mono ?_
    rintro e w1 ⟨rfl, hb⟩
    have HB1 : Hid (Below w.heap.size w w1) := ((Below.refl _ _).alloc (Nat.le_refl _) _).trans (hb.mono (by simp))
    clear hb
    go_wp2_with fail
    go_ret
    exact ⟨rfl, HB1.out⟩
theorem eaL_arr {t : TTD} {ch frm at_ : Int} (h : EOk t ch frm at_) : arrT t.net.stops.length (rides t) ch frm at_ 4 = eaL t ch frm at_ t.net.stops.length :=
  arr_list (rides_ok h.1) (rides_in h.1) h.2.1.1 h.2.2.1.1 h.2.2.1.2 h.2.2.2.1

theorem eaF_small (t : TTD) (ch frm at_ : Int) : IntsSmall (eaF t ch frm at_) := by
  unfold eaF
  split
  · rename_i h
    have h8 := (eokB_iff h).1.1.1.2.1
    simp only [IntsSmall, eaL_len]; omega
  · simp [IntsSmall]
end Go.Proofs.Ytmcpafflnccfaaa
