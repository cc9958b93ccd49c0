/-
  CONTRACT: impl.mergedSpans: the fewest spans of the same times, in a row of the call's own.
-/
import Derived.Test.YtenbplehiaofmaaSortSpan
import Derived.Test.YtenbplehiaofmaaSpanGood
import Derived.Shelf.SlSortCmp.NoneTotal
namespace Go.Proofs.Ytenbplehiaofmaa
open Go.RowKit Go.Shelf
set_option linter.unusedVariables false

theorem spans_trail {w : World} {a : Option Addr} {xs : List SpanD} {n c : Nat} (h : SpansAt w (.slice a n c) xs) : xs.length = n ∧ ∀ b off, a = some ⟨b, off, none⟩ → ∀ j u, (spanC xs)[j]? = some u → w.cell? ⟨b, off + j, none⟩ = some u := by
  obtain ⟨a', c', hv, h1, h2, h3⟩ := h
  simp at hv
  obtain ⟨rfl, rfl, rfl⟩ := hv
  refine ⟨rfl, fun b off ha j u hu => ?_⟩
  have hj : j < (spanC xs).length := (List.getElem?_eq_some_iff.1 hu).1
  rw [spanC_len] at hj
  obtain ⟨b', off', ha', _, c0, c1⟩ := h3 (j / 2) (by omega)
  rw [ha] at ha'
  simp at ha'
  obtain ⟨rfl, rfl⟩ := ha'
  by_cases e : j % 2 = 0
  · have := spanC_get0 xs (j / 2) (by omega)
    rw [show j / 2 * 2 = j by omega] at this c0
    rw [c0]; rw [← this]; exact hu
  · have := spanC_get1 xs (j / 2) (by omega)
    rw [show j / 2 * 2 + 1 = j by omega] at this
    rw [show off + j / 2 * 2 + 1 = off + j by omega] at c1
    rw [c1]; rw [← this]; exact hu

/-- a slice of no spans, wherever it lies -/
theorem cloneEmpty (a : Addr) (c : Nat) (w : World) :
    Calls Try.prog 62 #[.slice (some a) ([] : List SpanD).length c] w fun e w' => ∃ v', e = .returned v' ∧ w'.ownsRow w.heap.size 26 2 v' ([] : List SpanD).length (spanC []) ∧ Below w.heap.size w w' := by
  obtain ⟨i0, hi, hz0, hz1, hz2⟩ := info_parts infoSpan
  have q22 : ∀ (w : World) (a : Option Addr) (n c n' c' : Nat), (binOp .eql 24 (.slice a n c) (.slice none n' c')).run Try.prog w = .ok (.bool a.isNone) w := fun w a n c n' c' => Lib.run_eql_slice_nil w _ _ a n c n' c' Try.underlying24
  show Calls Try.prog _ #[.slice (some a) 0 c] w _
  go_enter Try.func62, Try.ntmps62
  go_wp2_with (at_builtin; refine wpList_append_own _ rfl _ _ 24 rfl w.heap.size 26 i0 (.agg #[.int .i64 0, .int .i64 0]) 2 16 Try.underlying24 hi hz0 hz1 hz2 rfl (by decide) _ _ _ rfl (World.ownsRow_made w #[] 0 (Nat.le_refl _) (Nat.zero_le _) (by simp)) a 0 c [] rfl ?qc1 ?qc2 ?qc3 ?qc4 ?qc5 ?qc6 ?_)
  case qc1 => rfl
  case qc2 => intro j u hj; simp at hj
  case qc3 => intro u hu; simp at hu
  case qc4 => unfold maxLen; omega
  case qc5 => omega
  case qc6 => simp
  intro v' w1 hown hgrow hnil
  go_wp2
  go_ret
  exact ⟨v', rfl, by simpa [spanC] using hown, ((Below.refl _ w).alloc (Nat.le_refl _) _).grown hgrow (by simp) (by intro k hk; simp [Value.ownBlock] at hk; omega)⟩

theorem cloneSpans_any (v : Value) (xs : List SpanD) (w : World) (hr : SpansAt w v xs) (hn : xs.length ≤ 1048576) :
    Calls Try.prog 62 #[v] w fun e w' => ∃ v', e = .returned v' ∧ w'.ownsRow w.heap.size 26 2 v' xs.length (spanC xs) ∧ Below w.heap.size w w' := by
  obtain ⟨i0, hi, hz0, hz1, hz2⟩ := info_parts infoSpan
  obtain ⟨a, c, rfl⟩ := SpanS_open hr
  have hcell := (spans_trail hr).2
  by_cases h0 : a = none
  · subst h0
    have hx : xs = [] := by
      obtain ⟨a', c', hv, _, _, h3⟩ := hr
      simp at hv
      obtain ⟨rfl, rfl⟩ := hv
      cases xs with
      | nil => rfl
      | cons x xs => obtain ⟨b, off, hb, _⟩ := h3 0 (by simp); cases hb
    subst hx
    have h := AnyE.slices_Clone_nil Try.cloneSpan ([] : List SpanD).length c w
    change Calls Try.prog 62 _ _ _ at h
    exact h.mono fun e w' ⟨he, hw⟩ => ⟨_, he, World.ownsRow_nil _ _ _ _, by rw [hw]; exact Below.refl _ _⟩
  · obtain ⟨⟨b, off, sp⟩, rfl⟩ := Option.ne_none_iff_exists'.1 h0
    by_cases hsp : sp = none
    · subst hsp
      have h := AnyE.slices_Clone Try.cloneSpan i0 (.agg #[.int .i64 0, .int .i64 0]) 2 16 hi hz0 hz1 hz2 rfl (by decide) Try.sizeOf26 b off xs.length c (spanC xs) w (spanC_len xs) (by unfold maxLen; omega) (by omega) (hcell b off rfl) (spanC_cells xs)
      change Calls Try.prog 62 _ _ _ at h
      exact h.mono fun e w' ⟨v', he, ho, _, hb⟩ => ⟨v', he, ho, hb⟩
    · have hx : xs = [] := by
        obtain ⟨a', c', hv, _, _, h3⟩ := hr
        simp at hv
        obtain ⟨rfl, rfl⟩ := hv
        cases xs with
        | nil => rfl
        | cons x xs => obtain ⟨b', off', hb, _⟩ := h3 0 (by simp); simp at hb; exact absurd hb.2.2 hsp
      subst hx
      exact cloneEmpty _ c w

theorem sortSpans_any (v : Value) (xs : List SpanD) (B : Nat) (w : World) (h : w.ownsRow B 26 2 v xs.length (spanC xs)) (hn : xs.length ≤ 1048576) :
    Calls Try.prog 63 #[v, .func (.func 64) #[] #[]] w fun e w' =>
      e = .returned (.tuple #[]) ∧ ∃ ys : List SpanD, ys.length = xs.length ∧ (∀ s, s ∈ ys ↔ s ∈ xs) ∧ ys.Pairwise (fun a b => a.1 ≤ b.1) ∧ w'.ownsRow B 26 2 v ys.length (spanC ys) ∧ ∀ w0, Below B w0 w → Below B w0 w' := by
  rcases h.2 with ⟨hv, h0⟩ | ⟨g, cap, cur, hv, _⟩
  · have hx : xs = [] := List.eq_nil_of_length_eq_zero h0
    subst hx
    subst hv
    have h2 := AnyF.slices_SortFunc_none Try.sortSpan none 0 (.func (.func 64) #[] #[]) w
    change Calls Try.prog 63 _ _ _ at h2
    exact h2.mono fun e w' ⟨he, hw⟩ => ⟨he, [], rfl, fun s => Iff.rfl, List.Pairwise.nil, World.ownsRow_nil _ _ _ _, fun w0 hb => by rw [hw]; exact hb⟩
  · subst hv
    exact (sortSpans_own xs g cap B w h hn).mono fun e w' ⟨he, ys, h1, h2, h3, h4, h5⟩ => ⟨he, ys, h1, h2, h3, by rw [h1]; exact h4, h5⟩

/-- where the last span of a row of one's own lies -/
theorem own_last {w : World} {B : Nat} {e : TypeId} {a : Option Addr} {c : Nat} {i : List SpanD} {x : SpanD} {n : Nat} (hn : n = i.length + 1) (h : w.ownsRow B e 2 (.slice a n c) n (spanC (i ++ [x]))) :
    ∃ g, a = some ⟨g, 0, none⟩ ∧ B ≤ g ∧ g < w.heap.size ∧ w.cell? ⟨g, i.length * 2, none⟩ = some (.int .i64 x.1) ∧ w.cell? ⟨g, i.length * 2 + 1, none⟩ = some (.int .i64 x.2) ∧ ∀ o, w.frozen? ⟨g, o, none⟩ = false := by
  subst hn
  rcases h.2 with ⟨hv, h0⟩ | ⟨g, cap, cur, hv, _⟩
  · omega
  · simp at hv
    obtain ⟨rfl, rfl⟩ := hv
    have hl := h.lt g rfl
    have hk : i.length < (i ++ [x]).length := by simp
    refine ⟨g, rfl, hl.1, hl.2, ?_, ?_, fun o => h.frozenAt o⟩
    · rw [h.cellAt _ (by omega), spanC_get0 _ _ hk]; simp
    · rw [h.cellAt _ (by omega), spanC_get1 _ _ hk]; simp

set_option maxRecDepth 100000 in
set_option maxHeartbeats 8000000 in
theorem mergedSpans_any (v : Value) (xs : List SpanD) (w : World) (hr : SpansAt w v xs) (hok : SpansOk xs) :
    Calls Try.prog 46 #[v] w fun e w' => ∃ v', e = .returned v' ∧ SpansIn w.heap.size w'.heap.size w' v' (mergedOf xs) ∧ Below w.heap.size w w' := by
  have h20 := hok.1
  have HCl := Lib.hid (cloneSpans_any v xs w hr (by omega))
  obtain ⟨a, c, rfl⟩ := SpanS_open hr
  have HOk := Lib.hid hok.2
  clear hr hok
  obtain ⟨i0, hi, hz0, hz1, hz2⟩ := info_parts infoSpan
  go_enter Try.func46, Try.ntmps46
  go_wp2_with fail
  go_at_call 62
  refine HCl.out.mono ?_
  rintro e w1 ⟨v1, rfl, hown, hb⟩
  have HB1 := Lib.hid hb
  have HSo := Lib.hid (sortSpans_any v1 xs w.heap.size w1 hown (by omega))
  clear hown hb
  go_wp2_with fail
  go_at_call 63
  refine HSo.out.mono ?_
  rintro e w2 ⟨rfl, ys, hyl, hym, hys, hown, hb⟩
  have HB2 : Hid (Below w.heap.size w w2) := hb w HB1.out
  have HM : Hid (mergeF ys = mergedOf xs) := mergeF_eq HOk.out hym hys
  have HY : Hid (∀ s ∈ ys, SpanOk s) := fun s hs => HOk.out s ((hym s).1 hs)
  obtain ⟨aS, cs, rfl⟩ := own_shape hown
  have HAt := Lib.hid (spansAt_own hown)
  clear hown hb hys hym HB1 HOk HSo HCl
  rw [← hyl] at h20
  obtain ⟨aS', cs', hv', hcs, hms, HC⟩ := spans_open HAt.out
  simp at hv'
  obtain ⟨rfl, rfl⟩ := hv'
  go_wp2_with fail
  go_loopw [4, 15] (fun mv i wr => ∃ (k ml cm : Nat) (am : Option Addr), k ≤ ys.length ∧ ml ≤ k ∧ i = .int .i64 k ∧ mv = .slice am ml cm ∧ Hid (ml = (mergeF (ys.take k)).length) ∧ Hid (wr.ownsRow w2.heap.size 26 2 (.slice am ml cm) ml (spanC (mergeF (ys.take k)))) ∧ Hid (Below w2.heap.size w2 wr)) (fun _ i _ => ys.length - (RowKit.intOf i).toNat)
  case atStart => exact ⟨0, 0, 0, some ⟨w2.heap.size, 0, none⟩, Nat.zero_le _, Nat.le_refl _, rfl, rfl, rfl, World.ownsRow_made w2 #[] 0 (Nat.le_refl _) (by decide) rfl, (Below.refl _ _).alloc (Nat.le_refl _) _⟩
  case round =>
    obtain ⟨k, ml, cm, am, hk, hml, rfl, rfl, HL, HOwn, HB⟩ := hrel
    by_cases hlt : k < ys.length
    · obtain ⟨b, off, rfl, hbl, y0, y1⟩ := HC.out k hlt
      have hx0 := HB.out.cell (p := ⟨b, off + k * 2, none⟩) hbl
      rw [y0] at hx0
      have hx1 := HB.out.cell (p := ⟨b, off + k * 2 + 1, none⟩) hbl
      rw [y1] at hx1
      have hsz := HB.out.size
      have HS := Lib.hid (mergeF_take ys k hlt)
      have HXok := Lib.hid (HY.out _ (List.getElem_mem hlt))
      clear y0 y1
      generalize hyk : ys[k] = y at *
      clear hyk
      obtain ⟨p, q⟩ := y
      simp only at hx0 hx1
      generalize hacc : mergeF (ys.take k) = acc at *
      clear hacc
      by_cases he : p = q
      · subst he
        have HN : Hid (mergeF (ys.take (k + 1)) = acc) := by show _ = _; rw [HS.out]; unfold mergeStep; rw [if_pos rfl]
        clear HS
        go_wp2_with fail
        go_roundw
        case rel => exact ⟨k + 1, ml, cm, am, by omega, by omega, by go_num, rfl, by rw [HN.out]; exact HL, by rw [HN.out]; exact HOwn.out.alloc _, HB.out.alloc HB.out.size _⟩
        case measure => simp [RowKit.intOf]; omega
      · have he' : decide (p = q) = false := decide_eq_false he
        have HB3 : Hid (Below w2.heap.size w2 (wr.alloc (.cells #[.int .i64 p, .int .i64 q] 26))) := HB.out.alloc HB.out.size _
        have HOw3 := Lib.hid (HOwn.out.alloc (.cells #[.int .i64 p, .int .i64 q] 26))
        have HBox := Lib.hid (SpanBox.new wr (p, q) 26)
        rcases last_cases acc with rfl | ⟨ini, z, rfl⟩
        · have hm0 : ml = 0 := HL.out
          subst hm0
          have HN : Hid (mergeF (ys.take (k + 1)) = [] ++ [(p, q)]) := by show _ = _; rw [HS.out]; unfold mergeStep; rw [if_neg he, if_neg (by simp)]
          clear HS HXok
          go_wp2_with fail
          go_quiet (fail)
          have hd : Below (wr.alloc (.cells #[.int .i64 p, .int .i64 q] 26)).heap.size (wr.alloc (.cells #[.int .i64 p, .int .i64 q] 26)) ((wr.alloc (.cells #[.int .i64 p, .int .i64 q] 26)).drewN nq) := Dr.below ⟨_, rfl⟩
          have HB4 : Hid (Below w2.heap.size w2 ((wr.alloc (.cells #[.int .i64 p, .int .i64 q] 26)).drewN nq)) := HB3.out.trans (hd.mono HB3.out.size)
          have HOw4 := Lib.hid (own_later HOw3.out hd)
          obtain ⟨b0, b1, bf⟩ := HBox.out.keep hd
          simp only at b0 b1
          have hsz4 : w2.heap.size ≤ ((wr.alloc (.cells #[.int .i64 p, .int .i64 q] 26)).drewN nq).heap.size ∧ wr.heap.size < ((wr.alloc (.cells #[.int .i64 p, .int .i64 q] 26)).drewN nq).heap.size := ⟨HB4.out.size, by have := hd.size; simp at this ⊢⟩
          clear hd HB3 HOw3 HBox HB HOwn hx0 hx1
          generalize ((wr.alloc (.cells #[.int .i64 p, .int .i64 q] 26)).drewN nq) = w4 at *
          go_wp2_with (at_builtin; refine wpList_append_own _ rfl _ _ 24 rfl w2.heap.size 26 i0 (.agg #[.int .i64 0, .int .i64 0]) 2 16 Try.underlying24 hi hz0 hz1 hz2 rfl (by decide) _ _ _ rfl (HOw4.out.alloc _) ⟨w4.heap.size, 0, none⟩ 1 1 (spanC [(p, q)]) rfl rfl ?c1 ?c2 ?c3 ?c4 ?c5 ?_)
          case c1 => exact spanC_one _ _ _
          case c2 => exact spanC_cells _
          case c3 => unfold maxLen; omega
          case c4 => omega
          case c5 => simp; omega
          intro v' w5 hown' hgrow _
          have HB5 : Hid (Below w2.heap.size w2 w5) := (HB4.out.alloc (by omega) _).grown hgrow (by simp; omega) (fun g hg => (HOw4.out.lt g hg).1)
          rw [← spanC_append] at hown'
          obtain ⟨a', c', rfl⟩ := own_shape hown'
          have HR := Lib.hid hown'
          clear hown' hgrow HOw4 HB4
          go_wp2_with fail
          go_roundw
          case rel => exact ⟨k + 1, 1, c', a', by omega, by omega, by go_num, rfl, by rw [HN.out]; rfl, by rw [HN.out]; exact HR.out, HB5⟩
          case measure => simp [RowKit.intOf]; omega
        · have hm1 : ml = ini.length + 1 := by have := HL.out; simpa using this
          subst hm1
          obtain ⟨g, rfl, hg1, hg2, l0, l1, lf⟩ := own_last rfl HOwn.out
          obtain ⟨z1, z2⟩ := z
          simp only at l0 l1
          by_cases hz : p ≤ z2
          · have HN : Hid (mergeF (ys.take (k + 1)) = ini ++ [(z1, max z2 q)]) := by
              show _ = _; rw [HS.out]; unfold mergeStep
              rw [if_neg he, if_pos ⟨by simp, by rw [lastOf_append]; exact hz⟩, lastOf_append, set_last]
            clear HS HXok
            go_wp2_with fail
            go_quiet (fail)
            have hd : Below (wr.alloc (.cells #[.int .i64 p, .int .i64 q] 26)).heap.size (wr.alloc (.cells #[.int .i64 p, .int .i64 q] 26)) ((wr.alloc (.cells #[.int .i64 p, .int .i64 q] 26)).drewN nq) := Dr.below ⟨_, rfl⟩
            have HB4 : Hid (Below w2.heap.size w2 ((wr.alloc (.cells #[.int .i64 p, .int .i64 q] 26)).drewN nq)) := HB3.out.trans (hd.mono HB3.out.size)
            have HOw4 := Lib.hid (own_later HOw3.out hd)
            obtain ⟨b0, b1, bf⟩ := HBox.out.keep hd
            simp only at b0 b1
            have hsz4 : w2.heap.size ≤ ((wr.alloc (.cells #[.int .i64 p, .int .i64 q] 26)).drewN nq).heap.size ∧ wr.heap.size < ((wr.alloc (.cells #[.int .i64 p, .int .i64 q] 26)).drewN nq).heap.size := ⟨HB4.out.size, by have := hd.size; simp at this ⊢⟩
            clear hd HB3 HOw3 HBox HB HOwn hx0 hx1 l0 l1 lf hg1 hg2
            generalize ((wr.alloc (.cells #[.int .i64 p, .int .i64 q] 26)).drewN nq) = w4 at *
            obtain ⟨g', hge, hg1, hg2, l0, l1, lf⟩ := own_last rfl HOw4.out
            simp at hge
            subst hge
            simp only at l0 l1
            by_cases hm : z2 < q
            · have hmx : max z2 q = q := by omega
              rw [hmx] at HN
              go_wp2_with fail
              have hsto : Hid ((w4.setCell ⟨g, ini.length * 2 + 1, none⟩ (.int .i64 q)).ownsRow w2.heap.size 26 2 (.slice (some ⟨g, 0, none⟩) (ini.length + 1) cm) (ini.length + 1) (spanC (ini ++ [(z1, q)]))) := by
                have := (HOw4.out.stored (ini.length * 2 + 1) (.int .i64 q)).1
                rw [spanC_set1 _ ini.length _ (by simp)] at this
                show World.ownsRow _ _ _ _ _ _ _
                simpa using this
              have HB5 : Hid (Below w2.heap.size w2 (w4.setCell ⟨g, ini.length * 2 + 1, none⟩ (.int .i64 q))) := HB4.out.setCell (p := ⟨g, _, none⟩) (by omega) _
              go_region
              all_goals go_wp2_with fail
              all_goals go_roundw
              case rel => exact ⟨k + 1, ini.length + 1, cm, _, by omega, by omega, by go_num, rfl, by rw [HN.out]; show _ = _; simp, by rw [HN.out]; exact hsto, HB5.out.drew⟩
              case measure => simp [RowKit.intOf]; omega
            · have hmx : max z2 q = z2 := by omega
              rw [hmx] at HN
              go_wp2_with fail
              have hsto : Hid ((w4.setCell ⟨g, ini.length * 2 + 1, none⟩ (.int .i64 z2)).ownsRow w2.heap.size 26 2 (.slice (some ⟨g, 0, none⟩) (ini.length + 1) cm) (ini.length + 1) (spanC (ini ++ [(z1, z2)]))) := by
                have := (HOw4.out.stored (ini.length * 2 + 1) (.int .i64 z2)).1
                rw [spanC_set1 _ ini.length _ (by simp)] at this
                show World.ownsRow _ _ _ _ _ _ _
                simpa using this
              have HB5 : Hid (Below w2.heap.size w2 (w4.setCell ⟨g, ini.length * 2 + 1, none⟩ (.int .i64 z2))) := HB4.out.setCell (p := ⟨g, _, none⟩) (by omega) _
              go_region
              all_goals go_wp2_with fail
              all_goals go_roundw
              case rel => exact ⟨k + 1, ini.length + 1, cm, _, by omega, by omega, by go_num, rfl, by rw [HN.out]; show _ = _; simp, by rw [HN.out]; exact hsto, HB5.out.drew⟩
              case measure => simp [RowKit.intOf]; omega
          · have HN : Hid (mergeF (ys.take (k + 1)) = (ini ++ [(z1, z2)]) ++ [(p, q)]) := by
              show _ = _; rw [HS.out]; unfold mergeStep
              rw [if_neg he, if_neg (fun g => hz (by have := g.2; rwa [lastOf_append] at this))]
            clear HS HXok
            go_wp2_with fail
            go_quiet (fail)
            have hd : Below (wr.alloc (.cells #[.int .i64 p, .int .i64 q] 26)).heap.size (wr.alloc (.cells #[.int .i64 p, .int .i64 q] 26)) ((wr.alloc (.cells #[.int .i64 p, .int .i64 q] 26)).drewN nq) := Dr.below ⟨_, rfl⟩
            have HB4 : Hid (Below w2.heap.size w2 ((wr.alloc (.cells #[.int .i64 p, .int .i64 q] 26)).drewN nq)) := HB3.out.trans (hd.mono HB3.out.size)
            have HOw4 := Lib.hid (own_later HOw3.out hd)
            obtain ⟨b0, b1, bf⟩ := HBox.out.keep hd
            simp only at b0 b1
            have hsz4 : w2.heap.size ≤ ((wr.alloc (.cells #[.int .i64 p, .int .i64 q] 26)).drewN nq).heap.size ∧ wr.heap.size < ((wr.alloc (.cells #[.int .i64 p, .int .i64 q] 26)).drewN nq).heap.size := ⟨HB4.out.size, by have := hd.size; simp at this ⊢⟩
            clear hd HB3 HOw3 HBox HB HOwn hx0 hx1 l0 l1 lf hg1 hg2
            generalize ((wr.alloc (.cells #[.int .i64 p, .int .i64 q] 26)).drewN nq) = w4 at *
            go_wp2_with (at_builtin; refine wpList_append_own _ rfl _ _ 24 rfl w2.heap.size 26 i0 (.agg #[.int .i64 0, .int .i64 0]) 2 16 Try.underlying24 hi hz0 hz1 hz2 rfl (by decide) _ _ _ rfl (HOw4.out.alloc _) ⟨w4.heap.size, 0, none⟩ 1 1 (spanC [(p, q)]) rfl rfl ?c1 ?c2 ?c3 ?c4 ?c5 ?_)
            case c1 => exact spanC_one _ _ _
            case c2 => exact spanC_cells _
            case c3 => unfold maxLen; omega
            case c4 => omega
            case c5 => simp; omega
            intro v' w5 hown' hgrow _
            have HB5 : Hid (Below w2.heap.size w2 w5) := (HB4.out.alloc (by omega) _).grown hgrow (by simp; omega) (fun g hg => (HOw4.out.lt g hg).1)
            rw [← spanC_append] at hown'
            obtain ⟨a', c', rfl⟩ := own_shape hown'
            have HR := Lib.hid hown'
            clear hown' hgrow HOw4 HB4
            go_wp2_with fail
            go_roundw
            case rel => exact ⟨k + 1, ini.length + 1 + 1, c', a', by omega, by omega, by go_num, rfl, by rw [HN.out]; show _ = _; simp, by rw [HN.out]; exact HR.out, HB5⟩
            case measure => simp [RowKit.intOf]; omega
    · have hkl : k = ys.length := by omega
      subst hkl
      have HFin : Hid (wr.ownsRow w2.heap.size 26 2 (.slice am ml cm) (mergedOf xs).length (spanC (mergedOf xs))) := by
        have := HOwn.out
        have e := HL.out
        rw [List.take_length, HM.out] at this e
        rw [← e]; exact this
      go_wp2_with fail
      go_ret
      exact ⟨.slice am ml cm, rfl, (SpansIn.mk HFin.out).base HB2.out.size (Nat.le_refl _), HB2.out.trans (HB.out.mono HB2.out.size)⟩
end Go.Proofs.Ytenbplehiaofmaa
