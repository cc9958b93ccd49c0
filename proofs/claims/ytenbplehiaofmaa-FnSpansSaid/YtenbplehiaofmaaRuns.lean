/-
  CONTRACT: spec.l4Runs: the fewest spans of the times of a span that are busy, or of those that are free.
-/
import Derived.Test.YtenbplehiaofmaaCounts
namespace Go.Proofs.Ytenbplehiaofmaa
open Go.RowKit
set_option linter.unusedVariables false

theorem covTo_at {w : World} {B g c : Nat} {xs : List SpanD} (h : w.ownsRow B 3 1 (.slice (some ⟨g, 0, none⟩) 1800 c) 1800 (ints (covTo 1800 xs))) (t : Nat) (ht : t < 1800) : g < w.heap.size ∧ w.cell? ⟨g, t, none⟩ = some (.int .i64 (cov xs (t : Int) : Int)) := by
  have hl : t < (covTo 1800 xs).length := by rw [covTo_len]; exact ht
  refine ⟨(h.lt g rfl).2, ?_⟩
  rw [h.cellAt t (by omega)]
  unfold ints
  rw [List.getElem?_map, List.getElem?_eq_getElem hl, covTo_get]; rfl
theorem own_last2 {w : World} {B : Nat} {e : TypeId} {a : Option Addr} {c : Nat} {i : List SpanD} {x : SpanD} {n : Nat} (hn : n = i.length + 1) (h : w.ownsRow B e 2 (.slice a n c) n (spanC (i ++ [x]))) :
    ∃ g, a = some ⟨g, 0, none⟩ ∧ B ≤ g ∧ g < w.heap.size ∧ w.cell? ⟨g, i.length * 2, none⟩ = some (.int .i64 x.1) ∧ w.cell? ⟨g, i.length * 2 + 1, none⟩ = some (.int .i64 x.2) ∧ ∀ o, w.frozen? ⟨g, o, none⟩ = false := by
  subst hn
  rcases h.2 with ⟨hv, h0⟩ | ⟨g, cap, cur, hv, _⟩
  · omega
  · simp at hv
    obtain ⟨rfl, rfl⟩ := hv
    have hl := h.lt g rfl
    have hk : i.length < (i ++ [x]).length := by simp
    refine ⟨g, rfl, hl.1, hl.2, ?_, ?_, fun o => h.frozenAt o⟩
    · rw [h.cellAt _ (by omega), spanC_get0 _ _ hk]; simp
    · rw [h.cellAt _ (by omega), spanC_get1 _ _ hk]; simp
theorem runsF_yes {P : Int → Bool} {lo : Int} {n : Nat} (h : P (lo + n) = true) : runsF P lo (n + 1) = runStep (runsF P lo n) (lo + n) := by simp only [runsF]; rw [if_pos h]
theorem runsF_no {P : Int → Bool} {lo : Int} {n : Nat} (h : P (lo + n) = false) : runsF P lo (n + 1) = runsF P lo n := by simp only [runsF]; rw [if_neg (by rw [h]; exact Bool.false_ne_true)]

/-- the times that are asked for -/
def wantB (xs : List SpanD) (busy : Bool) (t : Int) : Bool := covB xs t == busy

set_option maxRecDepth 100000 in
set_option maxHeartbeats 8000000 in
theorem l4Runs_any (g c : Nat) (xs : List SpanD) (s : SpanD) (busy : Bool) (w : World) (hr : ∀ t : Nat, t < 1800 → g < w.heap.size ∧ w.cell? ⟨g, t, none⟩ = some (.int .i64 (cov xs (t : Int) : Int))) (hs : SpanOk s) :
    Calls Try.prog 50 #[.slice (some ⟨g, 0, none⟩) 1800 c, .agg #[.int .i64 s.1, .int .i64 s.2], .bool busy] w fun e w' => ∃ v', e = .returned v' ∧ SpansIn w.heap.size w'.heap.size w' v' (runsF (wantB xs busy) s.1 (s.2 - s.1).toNat) ∧ Below w.heap.size w w' := by
  unfold SpanOk TimeOk at hs
  obtain ⟨lo, hi⟩ := s
  simp only at *
  obtain ⟨f, rfl⟩ := Int.eq_ofNat_of_zero_le hs.1.1
  obtain ⟨l, rfl⟩ := Int.eq_ofNat_of_zero_le hs.2.1.1
  have hfl : f ≤ l := by omega
  have hl9 : l ≤ 1799 := by omega
  have HLen : Hid (((l : Int) - (f : Int)).toNat = l - f) := by show _ = _; omega
  have HR := Lib.hid hr
  have hg := (hr 0 (by omega)).1
  clear hs hr
  obtain ⟨i0, hi, hz0, hz1, hz2⟩ := info_parts infoSpan
  have HBx := Lib.hid (SpanBox.new w ((f : Int), (l : Int)) 26)
  have HM0 : Hid (((w.alloc (.cells #[.int .i64 (f : Int), .int .i64 (l : Int)] 26)).alloc (.cells #[] 26)).ownsRow (w.heap.size + 1) 26 2 (.slice (some ⟨w.heap.size + 1, 0, none⟩) 0 0) 0 (spanC (runsF (wantB xs busy) (f : Int) 0))) := by
    have := World.ownsRow_made (base := w.heap.size + 1) (size := 2) (e := 26) (w.alloc (.cells #[.int .i64 (f : Int), .int .i64 (l : Int)] 26)) #[] 0 (by simp) (by decide) rfl
    show World.ownsRow _ _ _ _ _ _ _
    simpa [runsF, spanC] using this
  go_enter Try.func50, Try.ntmps50
  go_wp2_with fail
  go_loopw [7, 8] (fun ov i wr => ∃ (n ml cm : Nat) (am : Option Addr), f + n ≤ l ∧ ml ≤ n ∧ i = .int .i64 ((f : Int) + (n : Int)) ∧ ov = .slice am ml cm ∧ Hid (ml = (runsF (wantB xs busy) (f : Int) n).length) ∧ Hid (wr.ownsRow (w.heap.size + 1) 26 2 (.slice am ml cm) ml (spanC (runsF (wantB xs busy) (f : Int) n))) ∧ Hid (SpanBox wr w.heap.size ((f : Int), (l : Int))) ∧ Hid (Below w.heap.size w wr)) (fun _ i _ => 1800 - (RowKit.intOf i).toNat)
  case atStart => exact ⟨0, 0, 0, some ⟨w.heap.size + 1, 0, none⟩, by omega, Nat.le_refl _, by simp, rfl, rfl, HM0, HBx.out.keep ((Below.refl _ _).alloc (Nat.le_refl _) _), ((Below.refl _ _).alloc (Nat.le_refl _) _).alloc (by simp) _⟩
  case round =>
    clear HBx HM0
    obtain ⟨n, ml, cm, am, hn, hml, rfl, rfl, HL, HOwn, HBx, HB⟩ := hrel
    obtain ⟨b0, b1, bf⟩ := HBx.out
    simp only at b0 b1
    have hbl := HBx.out.lt
    by_cases hlt : f + n < l
    · have hx := bkeep HB.out (HR.out (f + n) (by omega)).2
      have e1 : ((f + n : Nat) : Int) = (f : Int) + (n : Int) := by push_cast; rfl
      rw [e1] at hx
      have hcv := cov_le xs ((f : Int) + (n : Int))
      cases busy
      · by_cases hc : ¬ 0 < cov xs ((f : Int) + (n : Int))
        · have HS := Lib.hid (runsF_yes (P := wantB xs false) (lo := (f : Int)) (n := n) (by unfold wantB covB; rw [decide_eq_false hc]; rfl))
          generalize cov xs ((f : Int) + (n : Int)) = cv at *
          generalize hacc : runsF (wantB xs false) (f : Int) n = acc at *
          rcases last_cases acc with rfl | ⟨ini, z, rfl⟩
          · have hm0 : ml = 0 := HL.out
            subst hm0
            have HN : Hid (runsF (wantB xs false) (f : Int) (n + 1) = [] ++ [((f : Int) + (n : Int), (f : Int) + (n : Int) + 1)]) := by show _ = _; rw [HS.out, runStep_one]; rfl
            clear HS
            go_wp2_with (at_builtin; refine wpList_append_own _ rfl _ _ 24 rfl (w.heap.size + 1) 26 i0 (.agg #[.int .i64 0, .int .i64 0]) 2 16 Try.underlying24 hi hz0 hz1 hz2 rfl (by decide) _ _ _ rfl (HOwn.out.alloc _) ⟨wr.heap.size, 0, none⟩ 1 1 (spanC [((f : Int) + (n : Int), (f : Int) + (n : Int) + 1)]) rfl rfl ?c1 ?c2 ?c3 ?c4 ?c5 ?_)
            case c1 => exact spanC_one _ _ _
            case c2 => exact spanC_cells _
            case c3 => unfold maxLen; omega
            case c4 => omega
            case c5 => simp; omega
            intro v' w5 hown' hgrow _
            have hown0 := HOwn.out
            have HB5 : Hid (Below w.heap.size w w5) := (HB.out.alloc (by omega) _).grown hgrow (by simp; omega) (fun g hg => by have := (hown0.lt g hg).1; omega)
            have hb6 : Below (w.heap.size + 1) (wr.alloc (.cells #[.int .i64 ((f : Int) + (n : Int)), .int .i64 ((f : Int) + (n : Int) + 1)] 26)) w5 := (Below.refl _ _).grown hgrow (by simp; omega) (fun g hg => (hown0.lt g hg).1)
            have HBx5 : Hid (SpanBox w5 w.heap.size ((f : Int), (l : Int))) := (HBx.out.keep ((Below.refl _ _).alloc (Nat.le_refl _) _)).keepAt hb6 (by omega)
            rw [← spanC_append] at hown'
            obtain ⟨a', c', rfl⟩ := own_shape hown'
            have HR5 := Lib.hid hown'
            clear hown' hgrow hown0 hb6
            go_wp2_with fail
            go_roundw
            case rel => exact ⟨n + 1, 0 + 1, c', a', by omega, by omega, by go_num, rfl, by rw [HN.out]; show _ = _; simp, by rw [HN.out]; exact HR5.out, HBx5, HB5⟩
            case measure => simp [RowKit.intOf]; omega
          · have hm1 : ml = ini.length + 1 := by have := HL.out; simpa using this
            subst hm1
            obtain ⟨g2, rfl, hg1, hg2, l0, l1, lf⟩ := own_last2 rfl HOwn.out
            obtain ⟨z1, z2⟩ := z
            simp only at l0 l1
            by_cases hz : z2 = (f : Int) + (n : Int)
            · subst hz
              have HN : Hid (runsF (wantB xs false) (f : Int) (n + 1) = ini ++ [(z1, (f : Int) + (n : Int) + 1)]) := by show _ = _; rw [HS.out]; exact runStep_grow ini (z1, (f : Int) + (n : Int))
              clear HS
              have HSt : Hid (((wr.setCell ⟨g2, ini.length * 2, none⟩ (.int .i64 z1)).setCell ⟨g2, ini.length * 2 + 1, none⟩ (.int .i64 ((f : Int) + (n : Int) + 1))).ownsRow (w.heap.size + 1) 26 2 (.slice (some ⟨g2, 0, none⟩) (ini.length + 1) cm) (ini.length + 1) (spanC (ini ++ [(z1, (f : Int) + (n : Int) + 1)]))) := by
                have := ((HOwn.out.stored (ini.length * 2) (.int .i64 z1)).1.stored (ini.length * 2 + 1) (.int .i64 ((f : Int) + (n : Int) + 1))).1
                rw [spanC_set (ini ++ [(z1, (f : Int) + (n : Int))]) ini.length (z1, (f : Int) + (n : Int) + 1) (by simp)] at this
                show World.ownsRow _ _ _ _ _ _ _
                simpa using this
              have hne : g2 ≠ wr.heap.size := by omega
              have HB5 : Hid (Below w.heap.size w ((wr.setCell ⟨g2, ini.length * 2, none⟩ (.int .i64 z1)).setCell ⟨g2, ini.length * 2 + 1, none⟩ (.int .i64 ((f : Int) + (n : Int) + 1)))) := (HB.out.setCell (p := ⟨g2, _, none⟩) (show w.heap.size ≤ g2 by omega) _).setCell (p := ⟨g2, _, none⟩) (show w.heap.size ≤ g2 by omega) _
              have HBx5 : Hid (SpanBox ((wr.setCell ⟨g2, ini.length * 2, none⟩ (.int .i64 z1)).setCell ⟨g2, ini.length * 2 + 1, none⟩ (.int .i64 ((f : Int) + (n : Int) + 1))) w.heap.size ((f : Int), (l : Int))) :=
                HBx.out.keepAt (((Below.refl (w.heap.size + 1) wr).setCell (p := ⟨g2, _, none⟩) (by omega) _).setCell (p := ⟨g2, _, none⟩) (by omega) _) (by omega)
              go_wp2_with fail
              go_roundw
              case rel => exact ⟨n + 1, ini.length + 1, cm, _, by omega, by omega, by go_num, rfl, by rw [HN.out]; show _ = _; simp, by rw [HN.out]; exact HSt.out.alloc _, HBx5.out.keep ((Below.refl _ _).alloc (Nat.le_refl _) _), HB5.out.alloc (by have := HB5.out.size; omega) _⟩
              case measure => simp [RowKit.intOf]; omega
            · have hz' : decide (z2 = (f : Int) + (n : Int)) = false := decide_eq_false hz
              have HN : Hid (runsF (wantB xs false) (f : Int) (n + 1) = (ini ++ [(z1, z2)]) ++ [((f : Int) + (n : Int), (f : Int) + (n : Int) + 1)]) := by show _ = _; rw [HS.out]; exact runStep_push ini (z1, z2) _ hz
              clear HS
              go_wp2_with (at_builtin; refine wpList_append_own _ rfl _ _ 24 rfl (w.heap.size + 1) 26 i0 (.agg #[.int .i64 0, .int .i64 0]) 2 16 Try.underlying24 hi hz0 hz1 hz2 rfl (by decide) _ _ _ rfl (HOwn.out.alloc _) ⟨wr.heap.size, 0, none⟩ 1 1 (spanC [((f : Int) + (n : Int), (f : Int) + (n : Int) + 1)]) rfl rfl ?c1 ?c2 ?c3 ?c4 ?c5 ?_)
              case c1 => exact spanC_one _ _ _
              case c2 => exact spanC_cells _
              case c3 => unfold maxLen; omega
              case c4 => omega
              case c5 => simp; omega
              intro v' w5 hown' hgrow _
              have hown0 := HOwn.out
              have HB5 : Hid (Below w.heap.size w w5) := (HB.out.alloc (by omega) _).grown hgrow (by simp; omega) (fun g hg => by have := (hown0.lt g hg).1; omega)
              have hb6 : Below (w.heap.size + 1) (wr.alloc (.cells #[.int .i64 ((f : Int) + (n : Int)), .int .i64 ((f : Int) + (n : Int) + 1)] 26)) w5 := (Below.refl _ _).grown hgrow (by simp; omega) (fun g hg => (hown0.lt g hg).1)
              have HBx5 : Hid (SpanBox w5 w.heap.size ((f : Int), (l : Int))) := (HBx.out.keep ((Below.refl _ _).alloc (Nat.le_refl _) _)).keepAt hb6 (by omega)
              rw [← spanC_append] at hown'
              obtain ⟨a', c', rfl⟩ := own_shape hown'
              have HR5 := Lib.hid hown'
              clear hown' hgrow hown0 hb6
              go_wp2_with fail
              go_roundw
              case rel => exact ⟨n + 1, ini.length + 1 + 1, c', a', by omega, by omega, by go_num, rfl, by rw [HN.out]; show _ = _; simp, by rw [HN.out]; exact HR5.out, HBx5, HB5⟩
              case measure => simp [RowKit.intOf]; omega
        · have HN : Hid (runsF (wantB xs false) (f : Int) (n + 1) = runsF (wantB xs false) (f : Int) n) := runsF_no (by unfold wantB covB; rw [decide_eq_true (show 0 < cov xs ((f : Int) + (n : Int)) by omega)]; rfl)
          have hc' : 0 < cov xs ((f : Int) + (n : Int)) := by omega
          clear hc
          generalize cov xs ((f : Int) + (n : Int)) = cv at *
          go_wp2_with fail
          go_roundw
          case rel => exact ⟨n + 1, ml, cm, am, by omega, by omega, by go_num, rfl, by rw [HN.out]; exact HL, by rw [HN.out]; exact HOwn, HBx, HB⟩
          case measure => simp [RowKit.intOf]; omega
      · by_cases hc : 0 < cov xs ((f : Int) + (n : Int))
        · have HS := Lib.hid (runsF_yes (P := wantB xs true) (lo := (f : Int)) (n := n) (by unfold wantB covB; rw [decide_eq_true hc]; rfl))
          generalize cov xs ((f : Int) + (n : Int)) = cv at *
          generalize hacc : runsF (wantB xs true) (f : Int) n = acc at *
          rcases last_cases acc with rfl | ⟨ini, z, rfl⟩
          · have hm0 : ml = 0 := HL.out
            subst hm0
            have HN : Hid (runsF (wantB xs true) (f : Int) (n + 1) = [] ++ [((f : Int) + (n : Int), (f : Int) + (n : Int) + 1)]) := by show _ = _; rw [HS.out, runStep_one]; rfl
            clear HS
            go_wp2_with (at_builtin; refine wpList_append_own _ rfl _ _ 24 rfl (w.heap.size + 1) 26 i0 (.agg #[.int .i64 0, .int .i64 0]) 2 16 Try.underlying24 hi hz0 hz1 hz2 rfl (by decide) _ _ _ rfl (HOwn.out.alloc _) ⟨wr.heap.size, 0, none⟩ 1 1 (spanC [((f : Int) + (n : Int), (f : Int) + (n : Int) + 1)]) rfl rfl ?c1 ?c2 ?c3 ?c4 ?c5 ?_)
            case c1 => exact spanC_one _ _ _
            case c2 => exact spanC_cells _
            case c3 => unfold maxLen; omega
            case c4 => omega
            case c5 => simp; omega
            intro v' w5 hown' hgrow _
            have hown0 := HOwn.out
            have HB5 : Hid (Below w.heap.size w w5) := (HB.out.alloc (by omega) _).grown hgrow (by simp; omega) (fun g hg => by have := (hown0.lt g hg).1; omega)
            have hb6 : Below (w.heap.size + 1) (wr.alloc (.cells #[.int .i64 ((f : Int) + (n : Int)), .int .i64 ((f : Int) + (n : Int) + 1)] 26)) w5 := (Below.refl _ _).grown hgrow (by simp; omega) (fun g hg => (hown0.lt g hg).1)
            have HBx5 : Hid (SpanBox w5 w.heap.size ((f : Int), (l : Int))) := (HBx.out.keep ((Below.refl _ _).alloc (Nat.le_refl _) _)).keepAt hb6 (by omega)
            rw [← spanC_append] at hown'
            obtain ⟨a', c', rfl⟩ := own_shape hown'
            have HR5 := Lib.hid hown'
            clear hown' hgrow hown0 hb6
            go_wp2_with fail
            go_roundw
            case rel => exact ⟨n + 1, 0 + 1, c', a', by omega, by omega, by go_num, rfl, by rw [HN.out]; show _ = _; simp, by rw [HN.out]; exact HR5.out, HBx5, HB5⟩
            case measure => simp [RowKit.intOf]; omega
          · have hm1 : ml = ini.length + 1 := by have := HL.out; simpa using this
            subst hm1
            obtain ⟨g2, rfl, hg1, hg2, l0, l1, lf⟩ := own_last2 rfl HOwn.out
            obtain ⟨z1, z2⟩ := z
            simp only at l0 l1
            by_cases hz : z2 = (f : Int) + (n : Int)
            · subst hz
              have HN : Hid (runsF (wantB xs true) (f : Int) (n + 1) = ini ++ [(z1, (f : Int) + (n : Int) + 1)]) := by show _ = _; rw [HS.out]; exact runStep_grow ini (z1, (f : Int) + (n : Int))
              clear HS
              have HSt : Hid (((wr.setCell ⟨g2, ini.length * 2, none⟩ (.int .i64 z1)).setCell ⟨g2, ini.length * 2 + 1, none⟩ (.int .i64 ((f : Int) + (n : Int) + 1))).ownsRow (w.heap.size + 1) 26 2 (.slice (some ⟨g2, 0, none⟩) (ini.length + 1) cm) (ini.length + 1) (spanC (ini ++ [(z1, (f : Int) + (n : Int) + 1)]))) := by
                have := ((HOwn.out.stored (ini.length * 2) (.int .i64 z1)).1.stored (ini.length * 2 + 1) (.int .i64 ((f : Int) + (n : Int) + 1))).1
                rw [spanC_set (ini ++ [(z1, (f : Int) + (n : Int))]) ini.length (z1, (f : Int) + (n : Int) + 1) (by simp)] at this
                show World.ownsRow _ _ _ _ _ _ _
                simpa using this
              have hne : g2 ≠ wr.heap.size := by omega
              have HB5 : Hid (Below w.heap.size w ((wr.setCell ⟨g2, ini.length * 2, none⟩ (.int .i64 z1)).setCell ⟨g2, ini.length * 2 + 1, none⟩ (.int .i64 ((f : Int) + (n : Int) + 1)))) := (HB.out.setCell (p := ⟨g2, _, none⟩) (show w.heap.size ≤ g2 by omega) _).setCell (p := ⟨g2, _, none⟩) (show w.heap.size ≤ g2 by omega) _
              have HBx5 : Hid (SpanBox ((wr.setCell ⟨g2, ini.length * 2, none⟩ (.int .i64 z1)).setCell ⟨g2, ini.length * 2 + 1, none⟩ (.int .i64 ((f : Int) + (n : Int) + 1))) w.heap.size ((f : Int), (l : Int))) :=
                HBx.out.keepAt (((Below.refl (w.heap.size + 1) wr).setCell (p := ⟨g2, _, none⟩) (by omega) _).setCell (p := ⟨g2, _, none⟩) (by omega) _) (by omega)
              go_wp2_with fail
              go_roundw
              case rel => exact ⟨n + 1, ini.length + 1, cm, _, by omega, by omega, by go_num, rfl, by rw [HN.out]; show _ = _; simp, by rw [HN.out]; exact HSt.out.alloc _, HBx5.out.keep ((Below.refl _ _).alloc (Nat.le_refl _) _), HB5.out.alloc (by have := HB5.out.size; omega) _⟩
              case measure => simp [RowKit.intOf]; omega
            · have hz' : decide (z2 = (f : Int) + (n : Int)) = false := decide_eq_false hz
              have HN : Hid (runsF (wantB xs true) (f : Int) (n + 1) = (ini ++ [(z1, z2)]) ++ [((f : Int) + (n : Int), (f : Int) + (n : Int) + 1)]) := by show _ = _; rw [HS.out]; exact runStep_push ini (z1, z2) _ hz
              clear HS
              go_wp2_with (at_builtin; refine wpList_append_own _ rfl _ _ 24 rfl (w.heap.size + 1) 26 i0 (.agg #[.int .i64 0, .int .i64 0]) 2 16 Try.underlying24 hi hz0 hz1 hz2 rfl (by decide) _ _ _ rfl (HOwn.out.alloc _) ⟨wr.heap.size, 0, none⟩ 1 1 (spanC [((f : Int) + (n : Int), (f : Int) + (n : Int) + 1)]) rfl rfl ?c1 ?c2 ?c3 ?c4 ?c5 ?_)
              case c1 => exact spanC_one _ _ _
              case c2 => exact spanC_cells _
              case c3 => unfold maxLen; omega
              case c4 => omega
              case c5 => simp; omega
              intro v' w5 hown' hgrow _
              have hown0 := HOwn.out
              have HB5 : Hid (Below w.heap.size w w5) := (HB.out.alloc (by omega) _).grown hgrow (by simp; omega) (fun g hg => by have := (hown0.lt g hg).1; omega)
              have hb6 : Below (w.heap.size + 1) (wr.alloc (.cells #[.int .i64 ((f : Int) + (n : Int)), .int .i64 ((f : Int) + (n : Int) + 1)] 26)) w5 := (Below.refl _ _).grown hgrow (by simp; omega) (fun g hg => (hown0.lt g hg).1)
              have HBx5 : Hid (SpanBox w5 w.heap.size ((f : Int), (l : Int))) := (HBx.out.keep ((Below.refl _ _).alloc (Nat.le_refl _) _)).keepAt hb6 (by omega)
              rw [← spanC_append] at hown'
              obtain ⟨a', c', rfl⟩ := own_shape hown'
              have HR5 := Lib.hid hown'
              clear hown' hgrow hown0 hb6
              go_wp2_with fail
              go_roundw
              case rel => exact ⟨n + 1, ini.length + 1 + 1, c', a', by omega, by omega, by go_num, rfl, by rw [HN.out]; show _ = _; simp, by rw [HN.out]; exact HR5.out, HBx5, HB5⟩
              case measure => simp [RowKit.intOf]; omega
        · have HN : Hid (runsF (wantB xs true) (f : Int) (n + 1) = runsF (wantB xs true) (f : Int) n) := runsF_no (by unfold wantB covB; rw [decide_eq_false hc]; rfl)
          have hc' : ¬ 0 < cov xs ((f : Int) + (n : Int)) := by omega
          clear hc
          generalize cov xs ((f : Int) + (n : Int)) = cv at *
          go_wp2_with fail
          go_roundw
          case rel => exact ⟨n + 1, ml, cm, am, by omega, by omega, by go_num, rfl, by rw [HN.out]; exact HL, by rw [HN.out]; exact HOwn, HBx, HB⟩
          case measure => simp [RowKit.intOf]; omega
    · have hnl : n = l - f := by omega
      have HFin : Hid (wr.ownsRow w.heap.size 26 2 (.slice am ml cm) (runsF (wantB xs busy) (f : Int) (l - f)).length (spanC (runsF (wantB xs busy) (f : Int) (l - f)))) := by
        show World.ownsRow _ _ _ _ _ _ _
        rw [← hnl, ← HL.out]; exact own_base HOwn.out (by omega)
      have hlt' : ¬ ((f : Int) + (n : Int) < (l : Int)) := by omega
      go_wp2_with fail
      go_ret
      exact ⟨.slice am ml cm, rfl, SpansIn.mk HFin.out, HB.out⟩
end Go.Proofs.Ytenbplehiaofmaa
