/-
  CONTRACT: spec.l4Counts: for every time the number of spans that contain it, in a row of the call's own.
-/
import Derived.Test.YtenbplehiaofmaaSpanGood
import Derived.Test.YtenbplehiaofmaaInts
namespace Go.Proofs.Ytenbplehiaofmaa
open Go.RowKit
set_option linter.unusedVariables false

theorem infoInt : (Try.prog.info? 3).map (fun i => (i.zero, i.size, i.bytes)) = some (some (.int .i64 0), 1, 8) := by kernel_rfl

/-- the row of the counts of the times below n -/
def covTo (n : Nat) (l : List SpanD) : List Int := (List.range n).map fun (t : Nat) => (cov l (t : Int) : Int)
theorem covTo_len (n : Nat) (l : List SpanD) : (covTo n l).length = n := by simp [covTo]
theorem covTo_get (n : Nat) (l : List SpanD) (t : Nat) (h : t < (covTo n l).length) : (covTo n l)[t] = (cov l (t : Int) : Int) := by simp [covTo]
theorem covTo_nil (n : Nat) : covTo n [] = List.replicate n 0 := by
  refine List.ext_getElem (by simp [covTo_len]) fun t h1 h2 => ?_
  rw [covTo_get, List.getElem_replicate]; simp [cov]
/-- one more time of the span that is being counted -/
theorem covTo_set (n : Nat) (l : List SpanD) (f : Int) (t : Nat) (hf : f ≤ (t : Int)) : (covTo n (l ++ [(f, (t : Int))])).set t ((cov (l ++ [(f, (t : Int))]) (t : Int) : Int) + 1) = covTo n (l ++ [(f, (t : Int) + 1)]) := by
  refine List.ext_getElem (by simp [covTo_len]) fun j h1 h2 => ?_
  rw [covTo_get, List.getElem_set]
  by_cases e : t = j
  · subst e
    rw [if_pos rfl, cov_append, cov_append, cov_one, cov_one]
    have a1 : ¬ (f ≤ (t : Int) ∧ (t : Int) < (t : Int)) := by omega
    have a2 : f ≤ (t : Int) ∧ (t : Int) < (t : Int) + 1 := by omega
    rw [if_neg (show ¬ ((f, (t : Int)).1 ≤ (t : Int) ∧ (t : Int) < (f, (t : Int)).2) from a1), if_pos (show (f, (t : Int) + 1).1 ≤ (t : Int) ∧ (t : Int) < (f, (t : Int) + 1).2 from a2)]
    push_cast; omega
  · rw [if_neg e, covTo_get, cov_append, cov_append, cov_one, cov_one]
    by_cases a1 : f ≤ (j : Int) ∧ (j : Int) < (t : Int)
    · rw [if_pos (show (f, (t : Int)).1 ≤ (j : Int) ∧ (j : Int) < (f, (t : Int)).2 from a1), if_pos (show (f, (t : Int) + 1).1 ≤ (j : Int) ∧ (j : Int) < (f, (t : Int) + 1).2 from ⟨a1.1, by show (j : Int) < (t : Int) + 1; omega⟩)]
    · rw [if_neg (show ¬ ((f, (t : Int)).1 ≤ (j : Int) ∧ (j : Int) < (f, (t : Int)).2) from a1), if_neg (show ¬ ((f, (t : Int) + 1).1 ≤ (j : Int) ∧ (j : Int) < (f, (t : Int) + 1).2) from fun g => by have g1 : f ≤ (j : Int) := g.1; have g2 : (j : Int) < (t : Int) + 1 := g.2; omega)]
theorem covTo_empty (n : Nat) (l : List SpanD) (f g : Int) (h : g ≤ f) : covTo n (l ++ [(f, g)]) = covTo n l := by
  refine List.ext_getElem (by simp [covTo_len]) fun j h1 h2 => ?_
  rw [covTo_get, covTo_get, cov_append, cov_one, if_neg (show ¬ ((f, g).1 ≤ (j : Int) ∧ (j : Int) < (f, g).2) from fun k => by have g1 : f ≤ (j : Int) := k.1; have g2 : (j : Int) < g := k.2; omega)]
  rfl
theorem made_zeros (n : Nat) : (madeCells #[.int .i64 0] n).toList = ints (List.replicate n 0) := by
  unfold madeCells ints
  refine List.ext_getElem (by simp) fun t h1 h2 => ?_
  simp [Nat.mod_one]
theorem ints_set (zs : List Int) (k : Nat) (a : Int) : (ints zs).set k (.int .i64 a) = ints (zs.set k a) := by unfold ints; rw [List.map_set]

set_option maxHeartbeats 2000000 in
theorem l4Counts_any (v : Value) (xs : List SpanD) (w : World) (hr : SpansAt w v xs) (hok : SpansOk xs) :
    Calls Try.prog 51 #[v] w fun e w' => ∃ c, e = .returned (.slice (some ⟨w.heap.size, 0, none⟩) 1800 c) ∧ w'.ownsRow w.heap.size 3 1 (.slice (some ⟨w.heap.size, 0, none⟩) 1800 c) 1800 (ints (covTo 1800 xs)) ∧ Below w.heap.size w w' := by
  obtain ⟨a, c, rfl, hc, hm, HC⟩ := spans_open hr
  clear hr
  have h20 := hok.1
  have HOk := Lib.hid hok.2
  clear hok
  obtain ⟨i0, hi, hz0, hz1, hz2⟩ := info_parts infoInt
  go_enter Try.func51, Try.ntmps51
  go_wp2_with (at_make; refine wpList_make_full _ rfl _ _ 67 rfl w.heap.size 3 i0 (.int .i64 0) 1 Try.underlying67 hi hz0 hz1 .i64 .i64 1800 1800 1800 rfl rfl rfl rfl ?c1 ?c2 ?c3 ?_)
  case c1 => rw [hz2]; omega
  case c2 => unfold maxLen; omega
  case c3 => exact Nat.le_refl _
  intro w1 hown hgrow
  have hbel : Below w.heap.size w w1 := (Below.refl _ _).grown hgrow (Nat.le_refl _) (fun k hk => by cases hk)
  clear hgrow
  have hown : w1.ownsRow w.heap.size 3 1 (.slice (some ⟨w.heap.size, 0, none⟩) 1800 1800) 1800 (ints (covTo 1800 [])) := by rw [covTo_nil, ← made_zeros]; exact hown
  have HOwn0 := Lib.hid hown
  have HBel0 := Lib.hid hbel
  clear hown hbel
  go_wp2_with fail
  go_loopw [4] (fun i wr => ∃ k : Nat, k ≤ xs.length ∧ i = .int .i64 k ∧ Hid (wr.ownsRow w.heap.size 3 1 (.slice (some ⟨w.heap.size, 0, none⟩) 1800 1800) 1800 (ints (covTo 1800 (xs.take k)))) ∧ Hid (Below w.heap.size w wr))
    (fun i _ => xs.length - (RowKit.intOf i).toNat)
  case atStart => exact ⟨0, Nat.zero_le _, rfl, HOwn0.out, HBel0.out⟩
  case round =>
    clear HOwn0 HBel0
    obtain ⟨k, hk, rfl, HOwn, HBel⟩ := hrel
    by_cases hlt : k < xs.length
    · obtain ⟨b, off, rfl, hbl, y0, y1⟩ := HC.out k hlt
      have hsok := HOk.out _ (List.getElem_mem hlt)
      have HTk := Lib.hid (List.take_succ_eq_append_getElem hlt)
      unfold SpanOk TimeOk at hsok
      obtain ⟨f, hf⟩ : ∃ f : Nat, xs[k].1 = (f : Int) := ⟨xs[k].1.toNat, by omega⟩
      obtain ⟨g, hg⟩ : ∃ g : Nat, xs[k].2 = (g : Int) := ⟨xs[k].2.toNat, by omega⟩
      have hfg : f ≤ g := by omega
      have hg9 : g ≤ 1799 := by omega
      have HX : Hid (xs[k] = ((f : Int), (g : Int))) := Prod.ext hf hg
      rw [hf] at y0
      rw [hg] at y1
      have HY := Lib.hid (And.intro y0 y1)
      have hx0 := HBel.out.cell (p := ⟨b, off + k * 2, none⟩) hbl
      rw [y0] at hx0
      clear y0 y1 hf hg hsok
      obtain ⟨wo, rfl⟩ : ∃ wo : World, wo = wr := ⟨_, rfl⟩
      have HStart : Hid (wo.ownsRow w.heap.size 3 1 (.slice (some ⟨w.heap.size, 0, none⟩) 1800 1800) 1800 (ints (covTo 1800 (xs.take k ++ [((f : Int), (f : Int))])))) := by
        show wo.ownsRow _ _ _ _ _ _
        rw [covTo_empty _ _ _ _ (Int.le_refl _)]; exact HOwn.out
      go_wp2_with fail
      go_loopw [5] (fun j wr => ∃ t : Nat, f ≤ t ∧ t ≤ g ∧ j = .int .i64 t ∧ Hid (wr.ownsRow w.heap.size 3 1 (.slice (some ⟨w.heap.size, 0, none⟩) 1800 1800) 1800 (ints (covTo 1800 (xs.take k ++ [((f : Int), (t : Int))])))) ∧ Hid (Below w.heap.size w wr))
        (fun j _ => 1800 - (RowKit.intOf j).toNat)
      case atStart => exact ⟨f, Nat.le_refl _, hfg, rfl, HStart.out, HBel.out⟩
      case round =>
        clear HStart HOwn hx0
        obtain ⟨t, ht, htg, rfl, HOwn, HBel⟩ := hrel
        have hx1 := HBel.out.cell (p := ⟨b, off + k * 2 + 1, none⟩) hbl
        rw [HY.out.2] at hx1
        by_cases hlt2 : t < g
        · have hown := HOwn.out
          have hlt9 : t < (covTo 1800 (xs.take k ++ [((f : Int), (t : Int))])).length := by rw [covTo_len]; omega
          have hoc : wr.cell? ⟨w.heap.size, t, none⟩ = some (.int .i64 (cov (xs.take k ++ [((f : Int), (t : Int))]) (t : Int) : Int)) := by
            rw [hown.cellAt t (by omega)]
            unfold ints
            rw [List.getElem?_map, List.getElem?_eq_getElem hlt9, covTo_get]; rfl
          have hof := hown.frozenAt t
          have HOwn2 : Hid ((wr.setCell ⟨w.heap.size, t, none⟩ (.int .i64 ((cov (xs.take k ++ [((f : Int), (t : Int))]) (t : Int) : Int) + 1))).ownsRow w.heap.size 3 1 (.slice (some ⟨w.heap.size, 0, none⟩) 1800 1800) 1800 (ints (covTo 1800 (xs.take k ++ [((f : Int), (t : Int) + 1)])))) := by
            have := (hown.stored t (.int .i64 ((cov (xs.take k ++ [((f : Int), (t : Int))]) (t : Int) : Int) + 1))).1
            rw [ints_set, covTo_set _ _ _ _ (by omega)] at this
            exact this
          have hcb : cov (xs.take k ++ [((f : Int), (t : Int))]) (t : Int) ≤ 21 := by
            have := cov_le (xs.take k ++ [((f : Int), (t : Int))]) (t : Int)
            simp at this; omega
          clear hown HOwn hlt9
          generalize cov (xs.take k ++ [((f : Int), (t : Int))]) (t : Int) = cv at *
          go_wp2_with fail
          go_roundw
          case rel => exact ⟨t + 1, by omega, by omega, by go_num, HOwn2, HBel.out.setCell (p := ⟨w.heap.size, _, none⟩) (Nat.le_refl _) _⟩
          case measure => simp [RowKit.intOf]; omega
        · have htg' : t = g := by omega
          subst htg'
          have HOwn3 : Hid (wr.ownsRow w.heap.size 3 1 (.slice (some ⟨w.heap.size, 0, none⟩) 1800 1800) 1800 (ints (covTo 1800 (xs.take (k + 1))))) := by
            show wr.ownsRow _ _ _ _ _ _
            rw [HTk.out, HX.out]; exact HOwn.out
          clear HOwn
          go_wp2_with fail
          exact ⟨⟨k + 1, by omega, by go_num, HOwn3, HBel⟩, by simp [RowKit.intOf]; omega⟩
    · have hkl : k = xs.length := by omega
      subst hkl
      go_wp2_with fail
      go_ret
      refine ⟨1800, rfl, ?_, HBel.out⟩
      have := HOwn.out
      rwa [List.take_length] at this
end Go.Proofs.Ytenbplehiaofmaa
