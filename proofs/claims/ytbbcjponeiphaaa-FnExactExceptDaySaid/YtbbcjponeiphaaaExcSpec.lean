/-
  CONTRACT: spec.l3Without.
-/
import Derived.Test.YtbbcjponeiphaaaPut
import Derived.Test.YtbbcjponeiphaaaExcP
namespace Go.Proofs.Ytbbcjponeiphaaa
open Go.RowKit
set_option linter.unusedVariables false
attribute [local go_sem] Oper.semAt_some

def wout (d : Int) (xs : List Int) : List Int := xs.filter (fun x => x != d)
theorem wout_snoc {d : Int} {xs : List Int} {k : Nat} (hk : k < xs.length) : wout d (xs.take (k + 1)) = wout d (xs.take k) ++ (if xs[k] != d then [xs[k]] else []) := by
  rw [List.take_succ_eq_append_getElem hk, wout, List.filter_append]; congr 1
  by_cases h : (xs[k] != d) = true <;> simp [List.filter_cons, h]

set_option maxRecDepth 100000 in
set_option maxHeartbeats 1000000 in
theorem l3Without_any (v : Value) (xs : List Int) (d : Int) (w : World) (hr : RowAt w v (ints xs)) (hl : xs.length ≤ 1048576) :
    Calls Try.prog 91 #[v, .int .i64 d] w fun e w' => ∃ v', e = .returned v' ∧ v'.ownBlock ≠ none ∧ w'.ownsRow w.heap.size 3 1 v' (wout d xs).length (ints (wout d xs)) ∧ Below w.heap.size w w' := by
  have HRow := Lib.hid (fun W (h : Below w.heap.size w W) => hr.below rfl h)
  obtain ⟨a, c, rfl, hc, hm, _⟩ := ints_open hr
  obtain ⟨i0, hi, iz0, iz1, iz2⟩ := info_parts infoInt
  have HO0 : Hid ((w.alloc (.cells #[] 3)).ownsRow w.heap.size 3 1 (.slice (some ⟨w.heap.size, 0, none⟩) 0 0) 0 []) := lit0 _ w _ rfl (Nat.le_refl _)
  clear hr
  go_enter Try.func91, Try.ntmps91
  go_wp2_with fail
  go_loopw [5, 6] (fun o i wr => ∃ k q ad cp, k ≤ xs.length ∧ q ≤ k ∧ i = .int .i64 ((k : Nat) : Int) ∧ o = .slice (some ad) q cp ∧ Hid (q = (wout d (xs.take k)).length) ∧ Hid (wr.ownsRow w.heap.size 3 1 (.slice (some ad) q cp) q (ints (wout d (xs.take k)))) ∧ Hid (Below w.heap.size w wr) ∧ w.heap.size < wr.heap.size) (fun _ i _ => xs.length - (RowKit.intOf i).toNat)
  case atStart => exact ⟨0, 0, _, _, by omega, by omega, rfl, rfl, by show _ = _; simp [wout], by show World.ownsRow _ _ _ _ _ _ _; simpa [wout, ints] using HO0.out, (Below.refl _ _).alloc (Nat.le_refl _) _, by simp⟩
  case round =>
    clear HO0
    obtain ⟨k, q, ad, cp, hk, hq, rfl, rfl, HQ, HO, HB, hz⟩ := hrel
    by_cases hlt : k < xs.length
    rotate_left
    · have hge : (xs.length : Int) ≤ (k : Int) := by omega
      have HE : Hid (xs.take k = xs) := List.take_of_length_le (by omega)
      clear hlt
      go_wp2_with fail
      go_ret
      have hO := HO.out
      have hq' := HQ.out
      rw [HE.out] at hO hq'
      exact ⟨_, rfl, by simp [Value.ownBlock], by rw [← hq']; exact hO, HB.out⟩
    have hlt' : (k : Int) < (xs.length : Int) := by omega
    obtain ⟨a', c', hv, _, _, HC⟩ := ints_open (HRow.out _ HB.out)
    simp only [Value.slice.injEq, true_and] at hv
    obtain ⟨rfl, rfl⟩ := hv
    obtain ⟨b, off, rfl, _, hcx⟩ := HC.out k hlt
    have HW := Lib.hid (wout_snoc (d := d) hlt)
    by_cases hx : xs[k] = d
    · have hb : (xs[k] != d) = false := by simp [hx]
      have HT : Hid (wout d (xs.take (k + 1)) = wout d (xs.take k)) := by show _ = _; rw [HW.out, hb]; simp
      clear hx HC
      generalize xs[k] = y at *
      go_wp2_with fail
      go_roundw
      case rel => exact ⟨k + 1, q, ad, cp, by omega, by omega, by go_num, rfl, by rw [HT.out]; exact HQ.out, by rw [HT.out]; exact HO.out, HB.out, hz⟩
      case measure => simp [RowKit.intOf]; omega
    · have hb : (xs[k] != d) = true := by simp [hx]
      have HT : Hid (wout d (xs.take (k + 1)) = wout d (xs.take k) ++ [xs[k]]) := by show _ = _; rw [HW.out, hb]; simp
      clear hx HC HW
      generalize xs[k] = y at *
      go_wp2_with (at_builtin; refine wpList_append_own_at _ rfl _ _ 22 rfl w.heap.size 3 i0 (.int .i64 0) 1 8 Try.underlying22 hi iz0 iz1 iz2 rfl (by decide) (.slice (some ad) q cp) q _ rfl (HO.out.alloc _) ⟨wr.heap.size, 0, none⟩ 1 1 [.int .i64 y] rfl rfl ?c1 ?c2 ?c3 ?c4 ?c5 ?_)
      case c1 => exact one_new _ _
      case c2 => exact fit_one wr _ (t := 3)
      case c3 => unfold maxLen; omega
      case c4 => omega
      case c5 => simp; omega
      intro v' w4 hown' hgrow _ hloc
      obtain ⟨a4, c4, rfl⟩ := own_shape hown'
      obtain ⟨g4, rfl⟩ : ∃ g, a4 = some g := by
        cases a4 with
        | none => exact absurd rfl (own_some hown' (by omega))
        | some g => exact ⟨g, rfl⟩
      have HB4 : Hid (Below w.heap.size w w4) := (HB.out.alloc (by omega) _).grown hgrow (by simp; omega) (fun g hg => (HO.out.lt g hg).1)
      have hz4 : w.heap.size < w4.heap.size := by have := hgrow.size; simp at this; omega
      have HO4 := Lib.hid hown'
      clear hown' hgrow hloc
      go_wp2_with fail
      go_roundw
      case rel => exact ⟨k + 1, q + 1, _, _, by omega, by omega, by go_num, rfl, by show _ = _; rw [HT.out]; simp [HQ.out], by show World.ownsRow _ _ _ _ _ _ _; rw [HT.out]; simpa [ints] using HO4.out, HB4.out, hz4⟩
      case measure => simp [RowKit.intOf]; omega
end Go.Proofs.Ytbbcjponeiphaaa
