import Derived.Test.YtehpeifaknbcnaaMk28
import Derived.Test.YtehpeifaknbcnaaMk34
namespace Go.Proofs.Ytehpeifaknbcnaa
open Go.RowKit
set_option linter.unusedVariables false

theorem isSpan_any (s : SpanD) (w : World) : Calls Try.prog 126 #[.agg #[.int .i64 s.1, .int .i64 s.2]] w fun e w' => e = .returned (.bool (spanB s)) ∧ Below w.heap.size w w' := by
  obtain ⟨a, b⟩ := s
  have HT := Lib.hid (fun t W => implValidTime_any t W)
  by_cases h0 : TimeOk a
  · have e0 := timeB_yes h0
    by_cases h1 : TimeOk b
    · have e1 := timeB_yes h1
      by_cases h2 : a ≤ b
      · rw [spanB_yes ⟨h0, h1, h2⟩]
        clear h0 h1
        go_enter Try.func126, Try.ntmps126
        go_wp2_with (go_at_call 125; refine (HT.out _ _).mono ?_; rintro e w' ⟨rfl, rfl⟩)
        go_ret
        exact ⟨rfl, (Below.refl _ _).alloc (Nat.le_refl _) _⟩
      · rw [spanB_no fun h => h2 h.2.2]
        have h2' : decide (a ≤ b) = false := decide_eq_false h2
        clear h0 h1
        go_enter Try.func126, Try.ntmps126
        go_wp2_with (go_at_call 125; refine (HT.out _ _).mono ?_; rintro e w' ⟨rfl, rfl⟩)
        go_ret
        exact ⟨rfl, (Below.refl _ _).alloc (Nat.le_refl _) _⟩
    · have e1 := timeB_no h1
      rw [spanB_no fun h => h1 h.2.1]
      clear h0 h1
      go_enter Try.func126, Try.ntmps126
      go_wp2_with (go_at_call 125; refine (HT.out _ _).mono ?_; rintro e w' ⟨rfl, rfl⟩)
      go_ret
      exact ⟨rfl, (Below.refl _ _).alloc (Nat.le_refl _) _⟩
  · have e0 := timeB_no h0
    rw [spanB_no fun h => h0 h.1]
    clear h0
    go_enter Try.func126, Try.ntmps126
    go_wp2_with (go_at_call 125; refine (HT.out _ _).mono ?_; rintro e w' ⟨rfl, rfl⟩)
    go_ret
    exact ⟨rfl, (Below.refl _ _).alloc (Nat.le_refl _) _⟩

def OkTo (xs : List SpanD) (k : Nat) : Prop := ∀ j (h : j < xs.length), j < k → SpanOk xs[j]
theorem okTo_succ {xs : List SpanD} {k : Nat} (hk : k < xs.length) (h : OkTo xs k) (h1 : SpanOk xs[k]) : OkTo xs (k + 1) := by
  intro j hj hjk
  by_cases e : j = k
  · subst e; exact h1
  · exact h j hj (by omega)
theorem okTo_all {xs : List SpanD} {k : Nat} (hk : xs.length ≤ k) (h : OkTo xs k) : ∀ s ∈ xs, SpanOk s := fun s hs => by
  obtain ⟨j, hj, rfl⟩ := List.getElem_of_mem hs; exact h j hj (by omega)

set_option maxHeartbeats 1000000 in
theorem areSpans_any (v : Value) (xs : List SpanD) (w : World) (hr : SpansAt w v xs) (hn : SpansSmall xs) :
    Calls Try.prog 111 #[v] w fun e w' => e = .returned (.bool (spansB xs)) ∧ Below w.heap.size w w' := by
  unfold SpansSmall at hn
  obtain ⟨a, c, rfl, hc, hm, HC⟩ := spans_open hr
  clear hr
  by_cases h20 : xs.length ≤ 20
  rotate_left
  · rw [spansB_no fun h => h20 h.1]
    have h20' : 20 < xs.length := by omega
    clear h20
    go_enter Try.func111, Try.ntmps111
    go_wp2
    go_ret
    exact ⟨rfl, Below.refl _ _⟩
  go_enter Try.func111, Try.ntmps111
  go_wp2
  go_loopw [10] (fun i wr => ∃ k : Nat, k ≤ xs.length ∧ i = .int .i64 k ∧ Hid (OkTo xs k) ∧ Hid (Below w.heap.size w wr)) (fun i _ => xs.length - (RowKit.intOf i).toNat)
  case atStart => exact ⟨0, Nat.zero_le _, rfl, fun j hj h => by omega, Below.refl _ _⟩
  case round =>
    obtain ⟨k, hk, rfl, HO, HB⟩ := hrel
    by_cases hlt : k < xs.length
    · obtain ⟨b, off, rfl, hbl, y0, y1⟩ := HC.out k hlt
      have hx0 := HB.out.cell (p := ⟨b, off + k * 2, none⟩) hbl
      rw [y0] at hx0
      have hx1 := HB.out.cell (p := ⟨b, off + k * 2 + 1, none⟩) hbl
      rw [y1] at hx1
      clear y0 y1
      have HI := Lib.hid (fun W => isSpan_any xs[k] W)
      by_cases hok : SpanOk xs[k]
      · rw [spanB_yes hok] at HI
        have HO2 : Hid (OkTo xs (k + 1)) := okTo_succ hlt HO.out hok
        clear hok HO
        go_wp2_with fail
        go_at_call 126
        refine (HI.out _).mono ?_
        rintro e w1 ⟨rfl, hb1⟩
        have HB1 : Hid (Below w.heap.size w w1) := HB.out.trans (((Below.refl _ _).alloc (by simp <;> omega) _).trans (hb1.mono (by simp)) |>.mono HB.out.size)
        clear hb1 HB
        go_wp2_with fail
        go_roundw
        case rel => exact ⟨k + 1, by omega, by go_num, HO2, HB1⟩
        case measure => simp [RowKit.intOf]; omega
      · rw [spanB_no hok] at HI
        have HN := Lib.hid (spansB_no (l := xs) fun h => hok (h.2 _ (List.getElem_mem hlt)))
        clear hok HO
        go_wp2_with fail
        go_at_call 126
        refine (HI.out _).mono ?_
        rintro e w1 ⟨rfl, hb1⟩
        have HB1 : Hid (Below w.heap.size w w1) := HB.out.trans (((Below.refl _ _).alloc (by simp <;> omega) _).trans (hb1.mono (by simp)) |>.mono HB.out.size)
        clear hb1 HB
        go_wp2_with fail
        go_ret
        exact ⟨by rw [HN.out]; rfl, HB1.out⟩
    · have HY := Lib.hid (spansB_yes (l := xs) ⟨h20, okTo_all (by omega) HO.out⟩)
      go_wp2
      go_ret
      exact ⟨by rw [HY.out]; rfl, HB.out⟩

end Go.Proofs.Ytehpeifaknbcnaa
