import Derived.Test.YtemejcbilhcebaaReverseLine
import Derived.Test.YtemejcbilhcebaaGood
import Derived.Test.YtemejcbilhcebaaMk10
import Derived.Deep.RegionHeld
namespace Go.Proofs.Ytemejcbilhcebaa
open Go.RowKit
set_option linter.unusedVariables false
set_option linter.unusedSimpArgs false

theorem keepR2 {W w w' : World} {p0 p1 : Addr} {x0 x1 : Value} (hb : Below w.heap.size w w') (h : w.cell? p0 = some x0 ∧ w.cell? p1 = some x1 ∧ Below W.heap.size W w) : w'.cell? p0 = some x0 ∧ w'.cell? p1 = some x1 ∧ Below W.heap.size W w' :=
  ⟨bkeep hb h.1, bkeep hb h.2.1, h.2.2.trans (hb.mono h.2.2.size)⟩
theorem belR2 {W w : World} {p0 p1 : Addr} {x0 x1 : Value} (h : w.cell? p0 = some x0 ∧ w.cell? p1 = some x1 ∧ Below W.heap.size W w) : Below W.heap.size W w := h.2.2
theorem netL_of {l B gS k c : Nat} {w : World} {lv : Value} {n : NetD} (h1 : w.ownsRow l 9 1 (.slice (some ⟨gS, 0, none⟩) k c) n.stops.length (strs n.stops)) (h2 : OwnLs B w lv n.lines) (hB : l ≤ B) : NetL l w.heap.size w (.agg #[.slice (some ⟨gS, 0, none⟩) k c, lv]) n :=
  fun W hz hW => ⟨_, _, rfl, rowAt_own (own_block h1 (fun g hg => hW g (h1.lt g hg).1 (h1.lt g hg).2 (h1.lt g hg).2)), (h2.keep (fun q h1 h2 => hW q (by omega) h2 h2)).at⟩

theorem good_sizesR {n : NetD} (h : NetGood n) : (∀ s ∈ n.stops, s.size ≤ 8) ∧ ∀ l ∈ n.lines, l.name.size ≤ 8 ∧ l.stops.length ≤ 6 ∧ l.runs.length ≤ 6 :=
  ⟨fun s hs => (h.2.1 s hs).2.1, fun l hl => by
    have h1 := (h.2.2.2.1 l hl).2.1
    exact ⟨(h.2.2.2.1 l hl).1.2.1, h1.2.1, by omega⟩⟩

set_option maxRecDepth 100000 in
set_option maxHeartbeats 16000000 in
theorem specReverseLine_any (v : Value) (n : NetD) (line : Int) (name : ByteArray) (w : World) (hr : NetAt w v n) (hf : NetFits n) (hnm : name.size ≤ maxLen) (hsm : n.lines.length ≤ 1048576) :
    Calls Try.prog 9 #[v, .int .i64 line, .string name] w fun e w' => ∃ z, e = .returned (.tuple #[z, .bool (rvF n line name).2]) ∧ NetL w.heap.size w'.heap.size w' z (rvF n line name).1 ∧ Below w.heap.size w w' := by
  have HG := Lib.hid (fun W (hW : Below w.heap.size w W) => l2Good_any v n W (hr.below rfl hW) hf)
  have HCp := Lib.hid (fun W (hW : Below w.heap.size w W) (hg : NetGood n) => l2OwnO_any v n W (hr.below rfl hW) hg)
  have HAt := Lib.hid hr
  have HFit := Lib.hid (fun K => rvN_fits (K := K) hf hnm)
  obtain ⟨a, c, a', c', rfl, -, -⟩ := net_open hr
  clear hr hf hnm
  have HR0 : Hid (Rz2 ((w.alloc (.cells #[.slice a n.stops.length c, .slice a' n.lines.length c'] 27 (0, 0))).alloc (.cells #[.slice none 0 0, .slice none 0 0] 27 (0, 0))) (w.heap.size + 1)) := ⟨by go_simp, by go_simp, by simp, fun o => by go_simp⟩
  have HB0 : Hid (Below w.heap.size w ((w.alloc (.cells #[.slice a n.stops.length c, .slice a' n.lines.length c'] 27 (0, 0))).alloc (.cells #[.slice none 0 0, .slice none 0 0] 27 (0, 0)))) := ((Below.refl _ _).alloc (Nat.le_refl _) _).alloc (by simp) _
  obtain ⟨i1, hi1, hy0, hy1, hy2⟩ := info_parts infoLine5
  have hlw : IntKind.i64.wrap ((n.lines.length : Int) - 1) = (n.lines.length : Int) - 1 := IntWalk.i64_in _ (by omega)
  by_cases hg : NetGood n
  · rw [netB_yes hg] at HG
    by_cases hln : 0 ≤ line ∧ line < (n.lines.length : Int)
    · obtain ⟨K, rfl⟩ := Int.eq_ofNat_of_zero_le hln.1
      have hK : K < n.lines.length := by omega
      have hK1 : (K : Int) < (n.lines.length : Int) := by omega
      obtain ⟨lb, lo, s0, s1, r0, r1, rfl, hlb, y0, y1, y2, hrs, hrr⟩ := net_line HAt.out K hK
      have hfa := line_facts hg K hK
      have hli := (good_line hg K hK).2.1
      have HSt := Lib.hid (fun W (hW : Below w.heap.size w W) => l2Back_any _ n.lines[K].stops W (hrs.below rfl hW) (by omega))
      have HRn := Lib.hid (fun W (hW : Below w.heap.size w W) => l2Back_any _ n.lines[K].runs W (hrr.below rfl hW) (by omega))
      have HCp2 := Lib.hid (fun W hW => HCp.out W hW hg)
      have hn58 : n.stops.length ≤ 8 ∧ n.lines.length ≤ 5 := ⟨hg.1.2.1, hg.1.2.2.2⟩
      have HGd := Lib.hid hg
      have HRv := Lib.hid (rvN_at name hK)
      have HIn := Lib.hid (fun W => l1In_yes (K : Int) 0 ((n.lines.length : Int) - 1) W ⟨hln.1, by omega⟩)
      clear hrs hrr hfa hli hln hg HCp
      generalize n.lines[K] = l at *
      go_enter Try.func9, Try.ntmps9
      go_wp2_with fail
      go_at_call 48
      refine (HG.out _ HB0.out).mono ?_
      rintro e w1 ⟨rfl, hb1⟩
      have HB1 : Hid (Below w.heap.size w w1 ∧ w.heap.size + 1 < w1.heap.size) := ⟨HB0.out.trans (hb1.mono HB0.out.size), by have := hb1.size; simp at this; omega⟩
      have HR1 := Lib.hid (HR0.out.later hb1)
      have p0 : w1.cell? ⟨w.heap.size, 0, none⟩ = some (.slice a n.stops.length c) := bkeep hb1 (by go_simp)
      have p1 : w1.cell? ⟨w.heap.size, 1, none⟩ = some (.slice (some ⟨lb, lo, none⟩) n.lines.length c') := bkeep hb1 (by go_simp)
      clear hb1 HR0 HB0 HG
      go_wp2_with fail
      go_at_call 49
      refine (HIn.out _).mono ?_
      rintro e w1' ⟨rfl, rfl⟩
      go_wp2_with fail
      go_at_call 50
      refine (HCp2.out _ HB1.out.1).mono ?_
      rintro e w3 ⟨gS, cS, oa, oc, B, rfl, hos3, hol3, hB3, hgB, hb3⟩
      obtain ⟨vs, hv3⟩ : ∃ vs, OwnLsV B w3 (.slice oa n.lines.length oc) n.lines vs := hol3
      have hF := Lib.hid (hv3.far w3.heap.size (Nat.le_refl _))
      have hF1 := Lib.hid ((hv3.far (w3.heap.size + 1) (by omega)).1)
      have hBs : B ≤ w3.heap.size + 1 := by
        obtain ⟨g, cap, _, h1, h2⟩ := hv3.2.1.form (by omega)
        omega
      have m0 := bkeep (HB1.out.1.trans (hb3.mono HB1.out.1.size)) y0
      have m1 := bkeep (HB1.out.1.trans (hb3.mono HB1.out.1.size)) y1
      have m2 := bkeep (HB1.out.1.trans (hb3.mono HB1.out.1.size)) y2
      have q0 := bkeep hb3 p0
      have q1 := bkeep hb3 p1
      have hz3 := hb3.size
      have hw1 := HB1.out.2
      have hw1' := HB1.out.1.size
      have hgS := hos3.lt gS rfl
      have hwB : w.heap.size + 1 < B := by omega
      have hlw3 : lb < w3.heap.size := by omega
      have hlw31 : lb < w3.heap.size + 1 := by omega
      have hww3 : w.heap.size < w3.heap.size := by omega
      have hA := (Below.refl w3.heap.size w3).alloc (Nat.le_refl _) (.cells #[.slice (some ⟨gS, 0, none⟩) n.stops.length cS, .slice oa n.lines.length oc] 27 (0, 0))
      have hA2 := hA.alloc hA.size (.cells #[.string l.name, .slice s0 l.stops.length s1, .slice r0 l.runs.length r1] 36 (0, 0))
      obtain ⟨wr, hwr, hbr, p0r, p1r, pfr, c1, c2, hzr⟩ : ∃ X, X = (w3.alloc (.cells #[.slice (some ⟨gS, 0, none⟩) n.stops.length cS, .slice oa n.lines.length oc] 27 (0, 0))).alloc (.cells #[.string l.name, .slice s0 l.stops.length s1, .slice r0 l.runs.length r1] 36 (0, 0)) ∧ Below w3.heap.size w3 X ∧ X.cell? ⟨w3.heap.size, 0, none⟩ = some (.slice (some ⟨gS, 0, none⟩) n.stops.length cS) ∧ X.cell? ⟨w3.heap.size, 1, none⟩ = some (.slice oa n.lines.length oc) ∧ (∀ o, X.frozen? ⟨w3.heap.size, o, none⟩ = false) ∧
          X.cell? ⟨w3.heap.size + 1, 1, none⟩ = some (.slice s0 l.stops.length s1) ∧ X.cell? ⟨w3.heap.size + 1, 2, none⟩ = some (.slice r0 l.runs.length r1) ∧ X.heap.size = w3.heap.size + 2 :=
        ⟨_, rfl, hA2, by go_simp, by go_simp, fun o => by go_simp, by go_simp, by go_simp, by simp⟩
      have hV := Lib.hid (hv3.later hbr)
      have HSr := Lib.hid (own_later hos3 hbr)
      have HZr := Lib.hid ((HR1.out.later hb3).later hbr)
      have HBr : Hid (Below w.heap.size w wr) := (HB1.out.1.trans (hb3.mono HB1.out.1.size)).trans (hbr.mono (by omega))
      clear hA hA2 hv3 hos3 hb3 p0 p1 y0 y1 y2 HR1 HIn HCp2 hbr
      go_wp2_with fail
      rw [← hwr]
      clear hwr m0 m1 m2 q0 q1
      refine wp_region_held_drew (S := (fun w' => w'.cell? ⟨w3.heap.size + 1, 1, none⟩ = some (.slice s0 l.stops.length s1) ∧ w'.cell? ⟨w3.heap.size + 1, 2, none⟩ = some (.slice r0 l.runs.length r1) ∧ Below w.heap.size w w')) (by kernel_rfl) ?_ (fun hHeld => ?_)
      · exact ⟨c1, c2, HBr.out.drew⟩
      have pc0 : wr.drew.cell? ⟨w3.heap.size, 1, none⟩ = some (.slice oa n.lines.length oc) := p1r
      refine wpAnyH_take (i := 0) (v := ?_) (by simp only [List.getElem?_toArray, List.getElem?_cons_zero]; rfl) (by kernel_rfl) (by kernel_rfl) (by kernel_rfl) (by exact fun _ _ _ h => h) (Or.inl ⟨by rfl, ?_⟩) (by assumption) ?_
      rotate_left
      · intro w' hSw; obtain ⟨e2, e3, _⟩ := hSw
        go_simp; try with_reducible rfl
      try simp only [Act.put, List.setIfInBounds_toArray, List.set_cons_zero, List.set_cons_succ]
      refine wpAnyH_take (i := 2) (v := ?_) (by simp only [List.getElem?_toArray, List.getElem?_cons_succ, List.getElem?_cons_zero]; rfl) (by kernel_rfl) (by kernel_rfl) (by kernel_rfl) (by exact fun _ _ _ h => h) (Or.inl ⟨by rfl, ?_⟩) (by assumption) ?_
      rotate_left
      · intro w' hSw; obtain ⟨e2, e3, _⟩ := hSw
        go_simp; try with_reducible rfl
      try simp only [Act.put, List.setIfInBounds_toArray, List.set_cons_zero, List.set_cons_succ]
      refine wpAnyH_take (i := 3) (v := ?_) (by simp only [List.getElem?_toArray, List.getElem?_cons_succ, List.getElem?_cons_zero]; rfl) (by kernel_rfl) (by kernel_rfl) (by kernel_rfl) (by exact fun _ _ _ h => h) (Or.inl ⟨by rfl, ?_⟩) (by assumption) ?_
      rotate_left
      · intro w' hSw; obtain ⟨e2, e3, _⟩ := hSw
        go_simp; try with_reducible rfl
      try simp only [Act.put, List.setIfInBounds_toArray, List.set_cons_zero, List.set_cons_succ]
      refine wpAnyH_take (i := 4) (v := ?_) (by simp only [List.getElem?_toArray, List.getElem?_cons_succ, List.getElem?_cons_zero]; rfl) (by kernel_rfl) (by kernel_rfl) (by kernel_rfl) (by exact fun _ _ _ h => h) (Or.inl ⟨by rfl, ?_⟩) (by assumption) ?_
      rotate_left
      · intro w' hSw; obtain ⟨e2, e3, _⟩ := hSw
        go_simp; try with_reducible rfl
      try simp only [Act.put, List.setIfInBounds_toArray, List.set_cons_zero, List.set_cons_succ]
      refine wpAnyH_take (i := 6) (v := ?_) (by simp only [List.getElem?_toArray, List.getElem?_cons_succ, List.getElem?_cons_zero]; rfl) (by kernel_rfl) (by kernel_rfl) (by kernel_rfl) (by exact fun _ _ _ h => h) (Or.inl ⟨by rfl, ?_⟩) (by assumption) ?_
      rotate_left
      · intro w' hSw; obtain ⟨e2, e3, _⟩ := hSw
        go_simp; try with_reducible rfl
      try simp only [Act.put, List.setIfInBounds_toArray, List.set_cons_zero, List.set_cons_succ]
      refine wpAnyH_take (i := 7) (v := ?_) (by simp only [List.getElem?_toArray, List.getElem?_cons_succ, List.getElem?_cons_zero]; rfl) (by kernel_rfl) (by kernel_rfl) (by kernel_rfl) (by exact fun _ _ _ h => h) (Or.inl ⟨by rfl, ?_⟩) (by assumption) ?_
      rotate_left
      · intro w' hSw; obtain ⟨e2, e3, _⟩ := hSw
        go_simp; try with_reducible rfl
      try simp only [Act.put, List.setIfInBounds_toArray, List.set_cons_zero, List.set_cons_succ]
      refine wpAnyH_ready (rs := [1, 5]) (by kernel_rfl) (by simp) ?_
      refine AllReadyH.cons (by simp only [List.getElem?_toArray, List.getElem?_cons_succ, List.getElem?_cons_zero]; rfl) (fun K hK => ?_) (AllReadyH.cons (by simp only [List.getElem?_toArray, List.getElem?_cons_succ, List.getElem?_cons_zero]; rfl) (fun K hK => ?_) AllReadyH.nil)
      · go_simp
        refine hK.out _ _ ?_ (fun _ => ?_)
        · exact hHeld
        clear hK K
        try simp only [Act.put, List.setIfInBounds_toArray, List.set_cons_zero, List.set_cons_succ]
        refine wpAnyH_ready (rs := [5]) (by kernel_rfl) (by simp) ?_
        refine AllReadyH.cons (by simp only [List.getElem?_toArray, List.getElem?_cons_succ, List.getElem?_cons_zero]; rfl) (fun K hK => ?_) AllReadyH.nil
        go_simp
        go_at_call 51
        refine (HSt.out _ (belR2 hHeld)).mono ?_
        rintro e w5 ⟨vs, rfl, hos, hbs⟩
        obtain ⟨gs, cs, rfl⟩ := own_shape hos
        have pc1 := bkeep hbs pc0
        have hz4 : Below wr.heap.size wr w5 := ((Below.refl _ _).drew).trans hbs
        go_wp2_with fail
        refine hK.out _ _ ?_ (fun hH1 => ?_)
        · exact keepR2 hbs hHeld
        clear hK K
        try simp only [Act.put, List.setIfInBounds_toArray, List.set_cons_zero, List.set_cons_succ]
        refine wpAnyH_ready (rs := [8]) (by kernel_rfl) (by simp) ?_
        refine AllReadyH.cons (by simp only [List.getElem?_toArray, List.getElem?_cons_succ, List.getElem?_cons_zero]; rfl) (fun K hK => ?_) AllReadyH.nil
        go_simp
        go_at_call 51
        refine (HRn.out _ (belR2 hH1)).mono ?_
        rintro e w6 ⟨vr, rfl, hor, hbr⟩
        obtain ⟨gr, cr, rfl⟩ := own_shape hor
        have pc2 := bkeep hbr pc1
        have hz5 : Below wr.heap.size wr w6 := hz4.trans (hbr.mono hz4.size)
        have HGs := Lib.hid (own_base (own_later hos hbr) (Nat.le_refl wr.heap.size))
        have HGr := Lib.hid (own_base hor hz4.size)
        go_wp2_with fail
        refine hK.out _ _ ?_ (fun hH2 => ?_)
        · exact keepR2 hbr hH1
        clear hK K
        try simp only [Act.put, List.setIfInBounds_toArray, List.set_cons_zero, List.set_cons_succ]
        refine wpAnyH_take (i := 9) (v := ?_) (by simp only [List.getElem?_toArray, List.getElem?_cons_succ, List.getElem?_cons_zero]; rfl) (by kernel_rfl) (by kernel_rfl) (by kernel_rfl) (by exact fun _ _ _ h => h) (Or.inl ⟨by rfl, ?_⟩) (by assumption) ?_
        rotate_left
        · intro w' hSw; obtain ⟨e2, e3, _⟩ := hSw
          go_simp; try with_reducible rfl
        try simp only [Act.put, List.setIfInBounds_toArray, List.set_cons_zero, List.set_cons_succ]
        refine wpAnyH_ready (rs := [10]) (by kernel_rfl) (by simp) ?_
        refine AllReadyH.cons (by simp only [List.getElem?_toArray, List.getElem?_cons_succ, List.getElem?_cons_zero]; rfl) (fun K hK => ?_) AllReadyH.nil
        go_simp
        refine hK.out _ _ ?_ (fun hH3 => ?_)
        · exact keepR2 ((Below.refl _ _).alloc (Nat.le_refl _) _) hH2
        clear hK K
        have pc3 := acell pc2 (.cells #[.string name, .slice gs l.stops.length cs, .slice gr l.runs.length cr] 36 (0, 0))
        have hzA : Below wr.heap.size wr (w6.alloc (.cells #[.string name, .slice gs l.stops.length cs, .slice gr l.runs.length cr] 36 (0, 0))) := hz5.alloc hz5.size _
        try simp only [Act.put, List.setIfInBounds_toArray, List.set_cons_zero, List.set_cons_succ]
        have hownA := own_later hV.out.2.1 hzA
        have hA1 : B ≤ (w6.alloc (.cells #[.string name, .slice gs l.stops.length cs, .slice gr l.runs.length cr] 36 (0, 0))).heap.size := by have := hzA.size; omega
        refine wpAnyH_ready (rs := [11]) (by kernel_rfl) (by simp) ?_
        refine AllReadyH.cons (by simp only [List.getElem?_toArray, List.getElem?_cons_succ, List.getElem?_cons_zero]; rfl) (fun K hK => ?_) AllReadyH.nil
        refine step_append_lies _ rfl (.tmp 31) (.tmp 40) 25 rfl B 36 i1 (.agg #[.string ⟨#[]⟩, .slice none 0 0, .slice none 0 0]) 3 64 Try.underlying25 hi1 hy0 hy1 hy2 rfl (by decide) _ _ _ rfl hownA ⟨w6.heap.size, 0, none⟩ 1 1 [.string name, .slice gs l.stops.length cs, .slice gr l.runs.length cr] rfl rfl (news5 _ _ _ _) (by intro u hu; simp at hu; rcases hu with rfl | rfl | rfl <;> rfl) (by omega) (by unfold maxLen; omega) (by omega) hA1 _ rfl ?_
        intro gN cN w7 hown7 hgr7 hat7 hlt7
        have hvb := fun b (hb : (Value.slice oa n.lines.length oc).ownBlock = some b) => hV.out.2.1.lt b hb
        have hc7 : ∀ (p : Addr) (x : Value), (w6.alloc (.cells #[.string name, .slice gs l.stops.length cs, .slice gr l.runs.length cr] 36 (0, 0))).cell? p = some x → (Value.slice oa n.lines.length oc).ownBlock ≠ some p.block → w7.cell? p = some x := fun p x hp hq => hgr7.cell hp (fun e => hq e.symm)
        have hbw7 : Below w.heap.size w w7 := (belR2 hH3).grown hgr7 (by have := hzA.size; have := HBr.out.size; omega) (fun b hb => by have := (hvb b hb).1; omega)
        have pc6 := hc7 _ _ pc3 hF.out.1
        have p06 := hc7 _ _ (bkeep hzA p0r) hF.out.1
        have hfz7 : ∀ o, w7.frozen? ⟨w3.heap.size, o, none⟩ = false := fun o => by
          rw [hgr7.frozen_far ⟨w3.heap.size, o, none⟩ (by have := hzA.size; show w3.heap.size < _; omega) (fun e => hF.out.1 e.symm), hzA.frozen (p := ⟨w3.heap.size, o, none⟩) (by show w3.heap.size < _; omega)]
          exact pfr o
        have hz7 := hgr7.size
        have hzA2 := hzA.size
        have hNew := OwnLs.snocV (l := ⟨name, l.stops.reverse, l.runs.reverse⟩) hV.out.1 hV.out.2.1 hV.out.2.2 (by omega) hzA (by show World.ownsRow _ _ _ _ _ l.stops.reverse.length _; rw [List.length_reverse]; exact HGs.out.alloc _) (by show World.ownsRow _ _ _ _ _ l.runs.reverse.length _; rw [List.length_reverse]; exact HGr.out.alloc _) hown7 hgr7 hat7
        have hgNne : (Value.slice (some ⟨gN, 0, none⟩) (n.lines.length + 1) cN).ownBlock ≠ some w3.heap.size := by
          simp only [Value.ownBlock, ne_eq, Option.some.injEq]
          rcases hat7 with h | h
          · intro e; subst e; exact hF.out.1 h
          · omega
        have hgsl := HGs.out.lt
        have hgrl := HGr.out.lt
        have hL8 := Lib.hid (OwnLsV.hole (i := 1) (x := w3.heap.size) hNew hgNne (fun p hp => by
          rcases List.mem_append.1 hp with hp | hp
          · exact hF.out.2 p hp
          · simp at hp
            subst hp
            exact ⟨fun e => by have := (hgsl _ e).1; omega, fun e => by have := (hgrl _ e).1; omega⟩) (.slice (some ⟨gN, 0, none⟩) (n.lines.length + 1) cN))
        have hS7 := (own_later HSr.out hzA).kept hgr7 (.inr (fun e => by have := (hvb gS e.symm).1; omega))
        have hS8 := Lib.hid (own_hole (i := 1) (x := w3.heap.size) hS7 (by simp [Value.ownBlock]; omega) (.slice (some ⟨gN, 0, none⟩) (n.lines.length + 1) cN))
        have hvz : (Value.slice oa n.lines.length oc).ownBlock ≠ some (w.heap.size + 1) := fun e => by have := (hvb _ e).1; omega
        obtain ⟨za, zb, zc, zd⟩ := HZr.out.later hzA
        have HZ8 : Hid (Rz2 (w7.setCell ⟨w3.heap.size, 1, none⟩ (.slice (some ⟨gN, 0, none⟩) (n.lines.length + 1) cN)) (w.heap.size + 1)) :=
          ⟨(set_otherT (by omega)).trans (hc7 _ _ za hvz), (set_otherT (by omega)).trans (hc7 _ _ zb hvz), by simp [World.setCell]; omega, fun o => by rw [World.frozen?_setCell, hgr7.frozen_far ⟨w.heap.size + 1, o, none⟩ zc (fun e => hvz e.symm)]; exact zd o⟩
        clear hown7 hgr7 hat7 hlt7 hNew hS7 hgsl hgrl hownA za zb zc zd
        go_wp2_with fail
        refine hK.out _ _ ?_ (fun hH6 => ?_)
        · exact ⟨hc7 _ _ hH3.1 hF1.out, hc7 _ _ hH3.2.1 hF1.out, hbw7⟩
        clear hK K
        try simp only [Act.put, List.setIfInBounds_toArray, List.set_cons_zero, List.set_cons_succ]
        refine wpAnyH_take (i := 12) (v := ?_) (by simp only [List.getElem?_toArray, List.getElem?_cons_succ, List.getElem?_cons_zero]; rfl) (by kernel_rfl) (by kernel_rfl) (by kernel_rfl) (by exact fun _ _ _ h => h) (Or.inl ⟨by rfl, ?_⟩) (by assumption) ?_
        rotate_left
        · intro w' hSw; obtain ⟨e2, e3, _⟩ := hSw
          go_simp; try with_reducible rfl
        try simp only [Act.put, List.setIfInBounds_toArray, List.set_cons_zero, List.set_cons_succ]
        refine wpAnyH_ready (rs := [13]) (by kernel_rfl) (by simp) ?_
        refine AllReadyH.cons (by simp only [List.getElem?_toArray, List.getElem?_cons_succ, List.getElem?_cons_zero]; rfl) (fun K hK => ?_) AllReadyH.nil
        go_simp
        refine hK.out _ _ ?_ (fun hH7 => ?_)
        · exact ⟨(set_otherT (by omega)).trans hH6.1, (set_otherT (by omega)).trans hH6.2.1, hbw7.setCell (p := ⟨w3.heap.size, 1, none⟩) (by show w.heap.size ≤ w3.heap.size; omega) _⟩
        clear hK K hc7
        try simp only [Act.put, List.setIfInBounds_toArray, List.set_cons_zero, List.set_cons_succ]
        refine wpAnyH_done (by kernel_rfl) ?_ _
        have x0 : (w7.setCell ⟨w3.heap.size, 1, none⟩ (.slice (some ⟨gN, 0, none⟩) (n.lines.length + 1) cN)).cell? ⟨w3.heap.size, 0, none⟩ = some (.slice (some ⟨gS, 0, none⟩) n.stops.length cS) := (World.cell?_setCell_other _ _ _ _ (fun e => by simp at e)).trans p06
        have x1 : (w7.setCell ⟨w3.heap.size, 1, none⟩ (.slice (some ⟨gN, 0, none⟩) (n.lines.length + 1) cN)).cell? ⟨w3.heap.size, 1, none⟩ = some (.slice (some ⟨gN, 0, none⟩) (n.lines.length + 1) cN) := World.cell?_setCell_same _ _ _ pc6
        have HV8 : Hid (NetAt (w7.setCell ⟨w3.heap.size, 1, none⟩ (.slice (some ⟨gN, 0, none⟩) (n.lines.length + 1) cN)) (.agg #[.slice (some ⟨gS, 0, none⟩) n.stops.length cS, .slice (some ⟨gN, 0, none⟩) (n.lines.length + 1) cN]) (rvN n K name)) := by
          show NetAt _ _ _
          rw [HRv.out]
          exact ⟨_, _, rfl, rowAt_own hS8.out, (show OwnLs _ _ _ _ from ⟨_, hL8.out⟩).at⟩
        have HIv := Lib.hid (l2Good_any _ _ _ HV8.out (HFit.out K))
        have HB8 : Hid (Below w.heap.size w (w7.setCell ⟨w3.heap.size, 1, none⟩ (.slice (some ⟨gN, 0, none⟩) (n.lines.length + 1) cN))) := hH7.2.2
        clear hH6 hH7 pc6 p06
        go_wp2_with fail
        generalize hX8 : w7.setCell ⟨w3.heap.size, 1, none⟩ (.slice (some ⟨gN, 0, none⟩) (n.lines.length + 1) cN) = w8 at *
        go_at_call 48
        refine HIv.out.mono ?_
        rintro e w9 ⟨rfl, hb9⟩
        have HB9 : Hid (Below w.heap.size w w9) := HB8.out.trans (hb9.mono HB8.out.size)
        have y0 := bkeep hb9 x0
        have y1 := bkeep hb9 x1
        obtain ⟨z0, z1, zz, zf⟩ := HZ8.out.later hb9
        have hS9 := Lib.hid (own_later hS8.out hb9)
        have hL9 := Lib.hid (show OwnLs B w9 (.slice (some ⟨gN, 0, none⟩) (n.lines.length + 1) cN) (n.lines ++ [⟨name, l.stops.reverse, l.runs.reverse⟩]) from ⟨_, hL8.out.later hb9⟩)
        clear hb9 HIv x0 x1 hX8
        by_cases hgr : NetGood (rvN n K name)
        · have HN : Hid (rvF n (K : Int) name = (rvN n K name, true)) := by
            show _ = _
            unfold rvF
            rw [Int.toNat_natCast]
            exact if_pos ⟨HGd.out, ⟨by omega, hK1⟩, hgr⟩
          rw [netB_yes hgr]
          go_wp2_with fail
          refine bodyPost_ret (v := .tuple #[.agg #[.slice (some ⟨gS, 0, none⟩) n.stops.length cS, .slice (some ⟨gN, 0, none⟩) (n.lines.length + 1) cN], .bool true]) (by simp only [results, Try.results9]; go_simp) rfl ?_
          rw [HN.out]
          have hbz := fun (u0 u1 : Value) => (HB9.out.setCell (p := ⟨w.heap.size + 1, 0, none⟩) (by simp) u0).setCell (p := ⟨w.heap.size + 1, 1, none⟩) (by simp) u1
          refine ⟨_, rfl, ?_, hbz _ _⟩
          rw [HRv.out]
          have hgsn : (Value.slice (some ⟨gS, 0, none⟩) n.stops.length cS).ownBlock ≠ some (w.heap.size + 1) := by simp [Value.ownBlock]; omega
          have hL := (hL9.out.set (p := ⟨w.heap.size + 1, 0, none⟩) hwB (.slice (some ⟨gS, 0, none⟩) n.stops.length cS)).set (p := ⟨w.heap.size + 1, 1, none⟩) hwB (.slice (some ⟨gN, 0, none⟩) (n.lines.length + 1) cN)
          have hS := own_hole (i := 1) (x := w.heap.size + 1) (own_hole (i := 0) (x := w.heap.size + 1) hS9.out hgsn (.slice (some ⟨gS, 0, none⟩) n.stops.length cS)) hgsn (.slice (some ⟨gN, 0, none⟩) (n.lines.length + 1) cN)
          exact netL_of (n := ⟨n.stops, n.lines ++ [⟨name, l.stops.reverse, l.runs.reverse⟩]⟩) (own_base hS (by omega)) hL (by omega)
        · have HN : Hid (rvF n (K : Int) name = (⟨[], []⟩, false)) := by
            show _ = _
            unfold rvF
            rw [Int.toNat_natCast]
            exact if_neg fun h => hgr h.2.2
          rw [netB_no hgr]
          go_wp2_with fail
          refine bodyPost_ret (v := .tuple #[.agg #[.slice none 0 0, .slice none 0 0], .bool false]) (by simp only [results, Try.results9]; go_simp) rfl ?_
          rw [HN.out]
          have hbz := fun (u0 u1 : Value) => (HB9.out.setCell (p := ⟨w.heap.size + 1, 0, none⟩) (by simp) u0).setCell (p := ⟨w.heap.size + 1, 1, none⟩) (by simp) u1
          exact ⟨_, rfl, fun W _ _ => netAt_zero W, hbz _ _⟩
      · go_simp
        go_at_call 51
        refine (HSt.out _ (belR2 hHeld)).mono ?_
        rintro e w5 ⟨vs, rfl, hos, hbs⟩
        obtain ⟨gs, cs, rfl⟩ := own_shape hos
        have pc1 := bkeep hbs pc0
        have hz4 : Below wr.heap.size wr w5 := ((Below.refl _ _).drew).trans hbs
        go_wp2_with fail
        refine hK.out _ _ ?_ (fun hH1 => ?_)
        · exact keepR2 hbs hHeld
        clear hK K
        try simp only [Act.put, List.setIfInBounds_toArray, List.set_cons_zero, List.set_cons_succ]
        refine wpAnyH_ready (rs := [1, 8]) (by kernel_rfl) (by simp) ?_
        refine AllReadyH.cons (by simp only [List.getElem?_toArray, List.getElem?_cons_succ, List.getElem?_cons_zero]; rfl) (fun K hK => ?_) (AllReadyH.cons (by simp only [List.getElem?_toArray, List.getElem?_cons_succ, List.getElem?_cons_zero]; rfl) (fun K hK => ?_) AllReadyH.nil)
        · go_simp
          refine hK.out _ _ ?_ (fun _ => ?_)
          · exact hH1
          clear hK K
          try simp only [Act.put, List.setIfInBounds_toArray, List.set_cons_zero, List.set_cons_succ]
          refine wpAnyH_ready (rs := [8]) (by kernel_rfl) (by simp) ?_
          refine AllReadyH.cons (by simp only [List.getElem?_toArray, List.getElem?_cons_succ, List.getElem?_cons_zero]; rfl) (fun K hK => ?_) AllReadyH.nil
          go_simp
          go_at_call 51
          refine (HRn.out _ (belR2 hH1)).mono ?_
          rintro e w6 ⟨vr, rfl, hor, hbr⟩
          obtain ⟨gr, cr, rfl⟩ := own_shape hor
          have pc2 := bkeep hbr pc1
          have hz5 : Below wr.heap.size wr w6 := hz4.trans (hbr.mono hz4.size)
          have HGs := Lib.hid (own_base (own_later hos hbr) (Nat.le_refl wr.heap.size))
          have HGr := Lib.hid (own_base hor hz4.size)
          go_wp2_with fail
          refine hK.out _ _ ?_ (fun hH2 => ?_)
          · exact keepR2 hbr hH1
          clear hK K
          try simp only [Act.put, List.setIfInBounds_toArray, List.set_cons_zero, List.set_cons_succ]
          refine wpAnyH_take (i := 9) (v := ?_) (by simp only [List.getElem?_toArray, List.getElem?_cons_succ, List.getElem?_cons_zero]; rfl) (by kernel_rfl) (by kernel_rfl) (by kernel_rfl) (by exact fun _ _ _ h => h) (Or.inl ⟨by rfl, ?_⟩) (by assumption) ?_
          rotate_left
          · intro w' hSw; obtain ⟨e2, e3, _⟩ := hSw
            go_simp; try with_reducible rfl
          try simp only [Act.put, List.setIfInBounds_toArray, List.set_cons_zero, List.set_cons_succ]
          refine wpAnyH_ready (rs := [10]) (by kernel_rfl) (by simp) ?_
          refine AllReadyH.cons (by simp only [List.getElem?_toArray, List.getElem?_cons_succ, List.getElem?_cons_zero]; rfl) (fun K hK => ?_) AllReadyH.nil
          go_simp
          refine hK.out _ _ ?_ (fun hH3 => ?_)
          · exact keepR2 ((Below.refl _ _).alloc (Nat.le_refl _) _) hH2
          clear hK K
          have pc3 := acell pc2 (.cells #[.string name, .slice gs l.stops.length cs, .slice gr l.runs.length cr] 36 (0, 0))
          have hzA : Below wr.heap.size wr (w6.alloc (.cells #[.string name, .slice gs l.stops.length cs, .slice gr l.runs.length cr] 36 (0, 0))) := hz5.alloc hz5.size _
          try simp only [Act.put, List.setIfInBounds_toArray, List.set_cons_zero, List.set_cons_succ]
          have hownA := own_later hV.out.2.1 hzA
          have hA1 : B ≤ (w6.alloc (.cells #[.string name, .slice gs l.stops.length cs, .slice gr l.runs.length cr] 36 (0, 0))).heap.size := by have := hzA.size; omega
          refine wpAnyH_ready (rs := [11]) (by kernel_rfl) (by simp) ?_
          refine AllReadyH.cons (by simp only [List.getElem?_toArray, List.getElem?_cons_succ, List.getElem?_cons_zero]; rfl) (fun K hK => ?_) AllReadyH.nil
          refine step_append_lies _ rfl (.tmp 31) (.tmp 40) 25 rfl B 36 i1 (.agg #[.string ⟨#[]⟩, .slice none 0 0, .slice none 0 0]) 3 64 Try.underlying25 hi1 hy0 hy1 hy2 rfl (by decide) _ _ _ rfl hownA ⟨w6.heap.size, 0, none⟩ 1 1 [.string name, .slice gs l.stops.length cs, .slice gr l.runs.length cr] rfl rfl (news5 _ _ _ _) (by intro u hu; simp at hu; rcases hu with rfl | rfl | rfl <;> rfl) (by omega) (by unfold maxLen; omega) (by omega) hA1 _ rfl ?_
          intro gN cN w7 hown7 hgr7 hat7 hlt7
          have hvb := fun b (hb : (Value.slice oa n.lines.length oc).ownBlock = some b) => hV.out.2.1.lt b hb
          have hc7 : ∀ (p : Addr) (x : Value), (w6.alloc (.cells #[.string name, .slice gs l.stops.length cs, .slice gr l.runs.length cr] 36 (0, 0))).cell? p = some x → (Value.slice oa n.lines.length oc).ownBlock ≠ some p.block → w7.cell? p = some x := fun p x hp hq => hgr7.cell hp (fun e => hq e.symm)
          have hbw7 : Below w.heap.size w w7 := (belR2 hH3).grown hgr7 (by have := hzA.size; have := HBr.out.size; omega) (fun b hb => by have := (hvb b hb).1; omega)
          have pc6 := hc7 _ _ pc3 hF.out.1
          have p06 := hc7 _ _ (bkeep hzA p0r) hF.out.1
          have hfz7 : ∀ o, w7.frozen? ⟨w3.heap.size, o, none⟩ = false := fun o => by
            rw [hgr7.frozen_far ⟨w3.heap.size, o, none⟩ (by have := hzA.size; show w3.heap.size < _; omega) (fun e => hF.out.1 e.symm), hzA.frozen (p := ⟨w3.heap.size, o, none⟩) (by show w3.heap.size < _; omega)]
            exact pfr o
          have hz7 := hgr7.size
          have hzA2 := hzA.size
          have hNew := OwnLs.snocV (l := ⟨name, l.stops.reverse, l.runs.reverse⟩) hV.out.1 hV.out.2.1 hV.out.2.2 (by omega) hzA (by show World.ownsRow _ _ _ _ _ l.stops.reverse.length _; rw [List.length_reverse]; exact HGs.out.alloc _) (by show World.ownsRow _ _ _ _ _ l.runs.reverse.length _; rw [List.length_reverse]; exact HGr.out.alloc _) hown7 hgr7 hat7
          have hgNne : (Value.slice (some ⟨gN, 0, none⟩) (n.lines.length + 1) cN).ownBlock ≠ some w3.heap.size := by
            simp only [Value.ownBlock, ne_eq, Option.some.injEq]
            rcases hat7 with h | h
            · intro e; subst e; exact hF.out.1 h
            · omega
          have hgsl := HGs.out.lt
          have hgrl := HGr.out.lt
          have hL8 := Lib.hid (OwnLsV.hole (i := 1) (x := w3.heap.size) hNew hgNne (fun p hp => by
            rcases List.mem_append.1 hp with hp | hp
            · exact hF.out.2 p hp
            · simp at hp
              subst hp
              exact ⟨fun e => by have := (hgsl _ e).1; omega, fun e => by have := (hgrl _ e).1; omega⟩) (.slice (some ⟨gN, 0, none⟩) (n.lines.length + 1) cN))
          have hS7 := (own_later HSr.out hzA).kept hgr7 (.inr (fun e => by have := (hvb gS e.symm).1; omega))
          have hS8 := Lib.hid (own_hole (i := 1) (x := w3.heap.size) hS7 (by simp [Value.ownBlock]; omega) (.slice (some ⟨gN, 0, none⟩) (n.lines.length + 1) cN))
          have hvz : (Value.slice oa n.lines.length oc).ownBlock ≠ some (w.heap.size + 1) := fun e => by have := (hvb _ e).1; omega
          obtain ⟨za, zb, zc, zd⟩ := HZr.out.later hzA
          have HZ8 : Hid (Rz2 (w7.setCell ⟨w3.heap.size, 1, none⟩ (.slice (some ⟨gN, 0, none⟩) (n.lines.length + 1) cN)) (w.heap.size + 1)) :=
            ⟨(set_otherT (by omega)).trans (hc7 _ _ za hvz), (set_otherT (by omega)).trans (hc7 _ _ zb hvz), by simp [World.setCell]; omega, fun o => by rw [World.frozen?_setCell, hgr7.frozen_far ⟨w.heap.size + 1, o, none⟩ zc (fun e => hvz e.symm)]; exact zd o⟩
          clear hown7 hgr7 hat7 hlt7 hNew hS7 hgsl hgrl hownA za zb zc zd
          go_wp2_with fail
          refine hK.out _ _ ?_ (fun hH6 => ?_)
          · exact ⟨hc7 _ _ hH3.1 hF1.out, hc7 _ _ hH3.2.1 hF1.out, hbw7⟩
          clear hK K
          try simp only [Act.put, List.setIfInBounds_toArray, List.set_cons_zero, List.set_cons_succ]
          refine wpAnyH_take (i := 12) (v := ?_) (by simp only [List.getElem?_toArray, List.getElem?_cons_succ, List.getElem?_cons_zero]; rfl) (by kernel_rfl) (by kernel_rfl) (by kernel_rfl) (by exact fun _ _ _ h => h) (Or.inl ⟨by rfl, ?_⟩) (by assumption) ?_
          rotate_left
          · intro w' hSw; obtain ⟨e2, e3, _⟩ := hSw
            go_simp; try with_reducible rfl
          try simp only [Act.put, List.setIfInBounds_toArray, List.set_cons_zero, List.set_cons_succ]
          refine wpAnyH_ready (rs := [13]) (by kernel_rfl) (by simp) ?_
          refine AllReadyH.cons (by simp only [List.getElem?_toArray, List.getElem?_cons_succ, List.getElem?_cons_zero]; rfl) (fun K hK => ?_) AllReadyH.nil
          go_simp
          refine hK.out _ _ ?_ (fun hH7 => ?_)
          · exact ⟨(set_otherT (by omega)).trans hH6.1, (set_otherT (by omega)).trans hH6.2.1, hbw7.setCell (p := ⟨w3.heap.size, 1, none⟩) (by show w.heap.size ≤ w3.heap.size; omega) _⟩
          clear hK K hc7
          try simp only [Act.put, List.setIfInBounds_toArray, List.set_cons_zero, List.set_cons_succ]
          refine wpAnyH_done (by kernel_rfl) ?_ _
          have x0 : (w7.setCell ⟨w3.heap.size, 1, none⟩ (.slice (some ⟨gN, 0, none⟩) (n.lines.length + 1) cN)).cell? ⟨w3.heap.size, 0, none⟩ = some (.slice (some ⟨gS, 0, none⟩) n.stops.length cS) := (World.cell?_setCell_other _ _ _ _ (fun e => by simp at e)).trans p06
          have x1 : (w7.setCell ⟨w3.heap.size, 1, none⟩ (.slice (some ⟨gN, 0, none⟩) (n.lines.length + 1) cN)).cell? ⟨w3.heap.size, 1, none⟩ = some (.slice (some ⟨gN, 0, none⟩) (n.lines.length + 1) cN) := World.cell?_setCell_same _ _ _ pc6
          have HV8 : Hid (NetAt (w7.setCell ⟨w3.heap.size, 1, none⟩ (.slice (some ⟨gN, 0, none⟩) (n.lines.length + 1) cN)) (.agg #[.slice (some ⟨gS, 0, none⟩) n.stops.length cS, .slice (some ⟨gN, 0, none⟩) (n.lines.length + 1) cN]) (rvN n K name)) := by
            show NetAt _ _ _
            rw [HRv.out]
            exact ⟨_, _, rfl, rowAt_own hS8.out, (show OwnLs _ _ _ _ from ⟨_, hL8.out⟩).at⟩
          have HIv := Lib.hid (l2Good_any _ _ _ HV8.out (HFit.out K))
          have HB8 : Hid (Below w.heap.size w (w7.setCell ⟨w3.heap.size, 1, none⟩ (.slice (some ⟨gN, 0, none⟩) (n.lines.length + 1) cN))) := hH7.2.2
          clear hH6 hH7 pc6 p06
          go_wp2_with fail
          generalize hX8 : w7.setCell ⟨w3.heap.size, 1, none⟩ (.slice (some ⟨gN, 0, none⟩) (n.lines.length + 1) cN) = w8 at *
          go_at_call 48
          refine HIv.out.mono ?_
          rintro e w9 ⟨rfl, hb9⟩
          have HB9 : Hid (Below w.heap.size w w9) := HB8.out.trans (hb9.mono HB8.out.size)
          have y0 := bkeep hb9 x0
          have y1 := bkeep hb9 x1
          obtain ⟨z0, z1, zz, zf⟩ := HZ8.out.later hb9
          have hS9 := Lib.hid (own_later hS8.out hb9)
          have hL9 := Lib.hid (show OwnLs B w9 (.slice (some ⟨gN, 0, none⟩) (n.lines.length + 1) cN) (n.lines ++ [⟨name, l.stops.reverse, l.runs.reverse⟩]) from ⟨_, hL8.out.later hb9⟩)
          clear hb9 HIv x0 x1 hX8
          by_cases hgr : NetGood (rvN n K name)
          · have HN : Hid (rvF n (K : Int) name = (rvN n K name, true)) := by
              show _ = _
              unfold rvF
              rw [Int.toNat_natCast]
              exact if_pos ⟨HGd.out, ⟨by omega, hK1⟩, hgr⟩
            rw [netB_yes hgr]
            go_wp2_with fail
            refine bodyPost_ret (v := .tuple #[.agg #[.slice (some ⟨gS, 0, none⟩) n.stops.length cS, .slice (some ⟨gN, 0, none⟩) (n.lines.length + 1) cN], .bool true]) (by simp only [results, Try.results9]; go_simp) rfl ?_
            rw [HN.out]
            have hbz := fun (u0 u1 : Value) => (HB9.out.setCell (p := ⟨w.heap.size + 1, 0, none⟩) (by simp) u0).setCell (p := ⟨w.heap.size + 1, 1, none⟩) (by simp) u1
            refine ⟨_, rfl, ?_, hbz _ _⟩
            rw [HRv.out]
            have hgsn : (Value.slice (some ⟨gS, 0, none⟩) n.stops.length cS).ownBlock ≠ some (w.heap.size + 1) := by simp [Value.ownBlock]; omega
            have hL := (hL9.out.set (p := ⟨w.heap.size + 1, 0, none⟩) hwB (.slice (some ⟨gS, 0, none⟩) n.stops.length cS)).set (p := ⟨w.heap.size + 1, 1, none⟩) hwB (.slice (some ⟨gN, 0, none⟩) (n.lines.length + 1) cN)
            have hS := own_hole (i := 1) (x := w.heap.size + 1) (own_hole (i := 0) (x := w.heap.size + 1) hS9.out hgsn (.slice (some ⟨gS, 0, none⟩) n.stops.length cS)) hgsn (.slice (some ⟨gN, 0, none⟩) (n.lines.length + 1) cN)
            exact netL_of (n := ⟨n.stops, n.lines ++ [⟨name, l.stops.reverse, l.runs.reverse⟩]⟩) (own_base hS (by omega)) hL (by omega)
          · have HN : Hid (rvF n (K : Int) name = (⟨[], []⟩, false)) := by
              show _ = _
              unfold rvF
              rw [Int.toNat_natCast]
              exact if_neg fun h => hgr h.2.2
            rw [netB_no hgr]
            go_wp2_with fail
            refine bodyPost_ret (v := .tuple #[.agg #[.slice none 0 0, .slice none 0 0], .bool false]) (by simp only [results, Try.results9]; go_simp) rfl ?_
            rw [HN.out]
            have hbz := fun (u0 u1 : Value) => (HB9.out.setCell (p := ⟨w.heap.size + 1, 0, none⟩) (by simp) u0).setCell (p := ⟨w.heap.size + 1, 1, none⟩) (by simp) u1
            exact ⟨_, rfl, fun W _ _ => netAt_zero W, hbz _ _⟩
        · go_simp
          go_at_call 51
          refine (HRn.out _ (belR2 hH1)).mono ?_
          rintro e w6 ⟨vr, rfl, hor, hbr⟩
          obtain ⟨gr, cr, rfl⟩ := own_shape hor
          have pc2 := bkeep hbr pc1
          have hz5 : Below wr.heap.size wr w6 := hz4.trans (hbr.mono hz4.size)
          have HGs := Lib.hid (own_base (own_later hos hbr) (Nat.le_refl wr.heap.size))
          have HGr := Lib.hid (own_base hor hz4.size)
          go_wp2_with fail
          refine hK.out _ _ ?_ (fun hH2 => ?_)
          · exact keepR2 hbr hH1
          clear hK K
          try simp only [Act.put, List.setIfInBounds_toArray, List.set_cons_zero, List.set_cons_succ]
          refine wpAnyH_take (i := 9) (v := ?_) (by simp only [List.getElem?_toArray, List.getElem?_cons_succ, List.getElem?_cons_zero]; rfl) (by kernel_rfl) (by kernel_rfl) (by kernel_rfl) (by exact fun _ _ _ h => h) (Or.inl ⟨by rfl, ?_⟩) (by assumption) ?_
          rotate_left
          · intro w' hSw; obtain ⟨e2, e3, _⟩ := hSw
            go_simp; try with_reducible rfl
          try simp only [Act.put, List.setIfInBounds_toArray, List.set_cons_zero, List.set_cons_succ]
          refine wpAnyH_ready (rs := [1, 10]) (by kernel_rfl) (by simp) ?_
          refine AllReadyH.cons (by simp only [List.getElem?_toArray, List.getElem?_cons_succ, List.getElem?_cons_zero]; rfl) (fun K hK => ?_) (AllReadyH.cons (by simp only [List.getElem?_toArray, List.getElem?_cons_succ, List.getElem?_cons_zero]; rfl) (fun K hK => ?_) AllReadyH.nil)
          · go_simp
            refine hK.out _ _ ?_ (fun _ => ?_)
            · exact hH2
            clear hK K
            try simp only [Act.put, List.setIfInBounds_toArray, List.set_cons_zero, List.set_cons_succ]
            refine wpAnyH_ready (rs := [10]) (by kernel_rfl) (by simp) ?_
            refine AllReadyH.cons (by simp only [List.getElem?_toArray, List.getElem?_cons_succ, List.getElem?_cons_zero]; rfl) (fun K hK => ?_) AllReadyH.nil
            go_simp
            refine hK.out _ _ ?_ (fun hH3 => ?_)
            · exact keepR2 ((Below.refl _ _).alloc (Nat.le_refl _) _) hH2
            clear hK K
            have pc3 := acell pc2 (.cells #[.string name, .slice gs l.stops.length cs, .slice gr l.runs.length cr] 36 (0, 0))
            have hzA : Below wr.heap.size wr (w6.alloc (.cells #[.string name, .slice gs l.stops.length cs, .slice gr l.runs.length cr] 36 (0, 0))) := hz5.alloc hz5.size _
            try simp only [Act.put, List.setIfInBounds_toArray, List.set_cons_zero, List.set_cons_succ]
            have hownA := own_later hV.out.2.1 hzA
            have hA1 : B ≤ (w6.alloc (.cells #[.string name, .slice gs l.stops.length cs, .slice gr l.runs.length cr] 36 (0, 0))).heap.size := by have := hzA.size; omega
            refine wpAnyH_ready (rs := [11]) (by kernel_rfl) (by simp) ?_
            refine AllReadyH.cons (by simp only [List.getElem?_toArray, List.getElem?_cons_succ, List.getElem?_cons_zero]; rfl) (fun K hK => ?_) AllReadyH.nil
            refine step_append_lies _ rfl (.tmp 31) (.tmp 40) 25 rfl B 36 i1 (.agg #[.string ⟨#[]⟩, .slice none 0 0, .slice none 0 0]) 3 64 Try.underlying25 hi1 hy0 hy1 hy2 rfl (by decide) _ _ _ rfl hownA ⟨w6.heap.size, 0, none⟩ 1 1 [.string name, .slice gs l.stops.length cs, .slice gr l.runs.length cr] rfl rfl (news5 _ _ _ _) (by intro u hu; simp at hu; rcases hu with rfl | rfl | rfl <;> rfl) (by omega) (by unfold maxLen; omega) (by omega) hA1 _ rfl ?_
            intro gN cN w7 hown7 hgr7 hat7 hlt7
            have hvb := fun b (hb : (Value.slice oa n.lines.length oc).ownBlock = some b) => hV.out.2.1.lt b hb
            have hc7 : ∀ (p : Addr) (x : Value), (w6.alloc (.cells #[.string name, .slice gs l.stops.length cs, .slice gr l.runs.length cr] 36 (0, 0))).cell? p = some x → (Value.slice oa n.lines.length oc).ownBlock ≠ some p.block → w7.cell? p = some x := fun p x hp hq => hgr7.cell hp (fun e => hq e.symm)
            have hbw7 : Below w.heap.size w w7 := (belR2 hH3).grown hgr7 (by have := hzA.size; have := HBr.out.size; omega) (fun b hb => by have := (hvb b hb).1; omega)
            have pc6 := hc7 _ _ pc3 hF.out.1
            have p06 := hc7 _ _ (bkeep hzA p0r) hF.out.1
            have hfz7 : ∀ o, w7.frozen? ⟨w3.heap.size, o, none⟩ = false := fun o => by
              rw [hgr7.frozen_far ⟨w3.heap.size, o, none⟩ (by have := hzA.size; show w3.heap.size < _; omega) (fun e => hF.out.1 e.symm), hzA.frozen (p := ⟨w3.heap.size, o, none⟩) (by show w3.heap.size < _; omega)]
              exact pfr o
            have hz7 := hgr7.size
            have hzA2 := hzA.size
            have hNew := OwnLs.snocV (l := ⟨name, l.stops.reverse, l.runs.reverse⟩) hV.out.1 hV.out.2.1 hV.out.2.2 (by omega) hzA (by show World.ownsRow _ _ _ _ _ l.stops.reverse.length _; rw [List.length_reverse]; exact HGs.out.alloc _) (by show World.ownsRow _ _ _ _ _ l.runs.reverse.length _; rw [List.length_reverse]; exact HGr.out.alloc _) hown7 hgr7 hat7
            have hgNne : (Value.slice (some ⟨gN, 0, none⟩) (n.lines.length + 1) cN).ownBlock ≠ some w3.heap.size := by
              simp only [Value.ownBlock, ne_eq, Option.some.injEq]
              rcases hat7 with h | h
              · intro e; subst e; exact hF.out.1 h
              · omega
            have hgsl := HGs.out.lt
            have hgrl := HGr.out.lt
            have hL8 := Lib.hid (OwnLsV.hole (i := 1) (x := w3.heap.size) hNew hgNne (fun p hp => by
              rcases List.mem_append.1 hp with hp | hp
              · exact hF.out.2 p hp
              · simp at hp
                subst hp
                exact ⟨fun e => by have := (hgsl _ e).1; omega, fun e => by have := (hgrl _ e).1; omega⟩) (.slice (some ⟨gN, 0, none⟩) (n.lines.length + 1) cN))
            have hS7 := (own_later HSr.out hzA).kept hgr7 (.inr (fun e => by have := (hvb gS e.symm).1; omega))
            have hS8 := Lib.hid (own_hole (i := 1) (x := w3.heap.size) hS7 (by simp [Value.ownBlock]; omega) (.slice (some ⟨gN, 0, none⟩) (n.lines.length + 1) cN))
            have hvz : (Value.slice oa n.lines.length oc).ownBlock ≠ some (w.heap.size + 1) := fun e => by have := (hvb _ e).1; omega
            obtain ⟨za, zb, zc, zd⟩ := HZr.out.later hzA
            have HZ8 : Hid (Rz2 (w7.setCell ⟨w3.heap.size, 1, none⟩ (.slice (some ⟨gN, 0, none⟩) (n.lines.length + 1) cN)) (w.heap.size + 1)) :=
              ⟨(set_otherT (by omega)).trans (hc7 _ _ za hvz), (set_otherT (by omega)).trans (hc7 _ _ zb hvz), by simp [World.setCell]; omega, fun o => by rw [World.frozen?_setCell, hgr7.frozen_far ⟨w.heap.size + 1, o, none⟩ zc (fun e => hvz e.symm)]; exact zd o⟩
            clear hown7 hgr7 hat7 hlt7 hNew hS7 hgsl hgrl hownA za zb zc zd
            go_wp2_with fail
            refine hK.out _ _ ?_ (fun hH6 => ?_)
            · exact ⟨hc7 _ _ hH3.1 hF1.out, hc7 _ _ hH3.2.1 hF1.out, hbw7⟩
            clear hK K
            try simp only [Act.put, List.setIfInBounds_toArray, List.set_cons_zero, List.set_cons_succ]
            refine wpAnyH_take (i := 12) (v := ?_) (by simp only [List.getElem?_toArray, List.getElem?_cons_succ, List.getElem?_cons_zero]; rfl) (by kernel_rfl) (by kernel_rfl) (by kernel_rfl) (by exact fun _ _ _ h => h) (Or.inl ⟨by rfl, ?_⟩) (by assumption) ?_
            rotate_left
            · intro w' hSw; obtain ⟨e2, e3, _⟩ := hSw
              go_simp; try with_reducible rfl
            try simp only [Act.put, List.setIfInBounds_toArray, List.set_cons_zero, List.set_cons_succ]
            refine wpAnyH_ready (rs := [13]) (by kernel_rfl) (by simp) ?_
            refine AllReadyH.cons (by simp only [List.getElem?_toArray, List.getElem?_cons_succ, List.getElem?_cons_zero]; rfl) (fun K hK => ?_) AllReadyH.nil
            go_simp
            refine hK.out _ _ ?_ (fun hH7 => ?_)
            · exact ⟨(set_otherT (by omega)).trans hH6.1, (set_otherT (by omega)).trans hH6.2.1, hbw7.setCell (p := ⟨w3.heap.size, 1, none⟩) (by show w.heap.size ≤ w3.heap.size; omega) _⟩
            clear hK K hc7
            try simp only [Act.put, List.setIfInBounds_toArray, List.set_cons_zero, List.set_cons_succ]
            refine wpAnyH_done (by kernel_rfl) ?_ _
            have x0 : (w7.setCell ⟨w3.heap.size, 1, none⟩ (.slice (some ⟨gN, 0, none⟩) (n.lines.length + 1) cN)).cell? ⟨w3.heap.size, 0, none⟩ = some (.slice (some ⟨gS, 0, none⟩) n.stops.length cS) := (World.cell?_setCell_other _ _ _ _ (fun e => by simp at e)).trans p06
            have x1 : (w7.setCell ⟨w3.heap.size, 1, none⟩ (.slice (some ⟨gN, 0, none⟩) (n.lines.length + 1) cN)).cell? ⟨w3.heap.size, 1, none⟩ = some (.slice (some ⟨gN, 0, none⟩) (n.lines.length + 1) cN) := World.cell?_setCell_same _ _ _ pc6
            have HV8 : Hid (NetAt (w7.setCell ⟨w3.heap.size, 1, none⟩ (.slice (some ⟨gN, 0, none⟩) (n.lines.length + 1) cN)) (.agg #[.slice (some ⟨gS, 0, none⟩) n.stops.length cS, .slice (some ⟨gN, 0, none⟩) (n.lines.length + 1) cN]) (rvN n K name)) := by
              show NetAt _ _ _
              rw [HRv.out]
              exact ⟨_, _, rfl, rowAt_own hS8.out, (show OwnLs _ _ _ _ from ⟨_, hL8.out⟩).at⟩
            have HIv := Lib.hid (l2Good_any _ _ _ HV8.out (HFit.out K))
            have HB8 : Hid (Below w.heap.size w (w7.setCell ⟨w3.heap.size, 1, none⟩ (.slice (some ⟨gN, 0, none⟩) (n.lines.length + 1) cN))) := hH7.2.2
            clear hH6 hH7 pc6 p06
            go_wp2_with fail
            generalize hX8 : w7.setCell ⟨w3.heap.size, 1, none⟩ (.slice (some ⟨gN, 0, none⟩) (n.lines.length + 1) cN) = w8 at *
            go_at_call 48
            refine HIv.out.mono ?_
            rintro e w9 ⟨rfl, hb9⟩
            have HB9 : Hid (Below w.heap.size w w9) := HB8.out.trans (hb9.mono HB8.out.size)
            have y0 := bkeep hb9 x0
            have y1 := bkeep hb9 x1
            obtain ⟨z0, z1, zz, zf⟩ := HZ8.out.later hb9
            have hS9 := Lib.hid (own_later hS8.out hb9)
            have hL9 := Lib.hid (show OwnLs B w9 (.slice (some ⟨gN, 0, none⟩) (n.lines.length + 1) cN) (n.lines ++ [⟨name, l.stops.reverse, l.runs.reverse⟩]) from ⟨_, hL8.out.later hb9⟩)
            clear hb9 HIv x0 x1 hX8
            by_cases hgr : NetGood (rvN n K name)
            · have HN : Hid (rvF n (K : Int) name = (rvN n K name, true)) := by
                show _ = _
                unfold rvF
                rw [Int.toNat_natCast]
                exact if_pos ⟨HGd.out, ⟨by omega, hK1⟩, hgr⟩
              rw [netB_yes hgr]
              go_wp2_with fail
              refine bodyPost_ret (v := .tuple #[.agg #[.slice (some ⟨gS, 0, none⟩) n.stops.length cS, .slice (some ⟨gN, 0, none⟩) (n.lines.length + 1) cN], .bool true]) (by simp only [results, Try.results9]; go_simp) rfl ?_
              rw [HN.out]
              have hbz := fun (u0 u1 : Value) => (HB9.out.setCell (p := ⟨w.heap.size + 1, 0, none⟩) (by simp) u0).setCell (p := ⟨w.heap.size + 1, 1, none⟩) (by simp) u1
              refine ⟨_, rfl, ?_, hbz _ _⟩
              rw [HRv.out]
              have hgsn : (Value.slice (some ⟨gS, 0, none⟩) n.stops.length cS).ownBlock ≠ some (w.heap.size + 1) := by simp [Value.ownBlock]; omega
              have hL := (hL9.out.set (p := ⟨w.heap.size + 1, 0, none⟩) hwB (.slice (some ⟨gS, 0, none⟩) n.stops.length cS)).set (p := ⟨w.heap.size + 1, 1, none⟩) hwB (.slice (some ⟨gN, 0, none⟩) (n.lines.length + 1) cN)
              have hS := own_hole (i := 1) (x := w.heap.size + 1) (own_hole (i := 0) (x := w.heap.size + 1) hS9.out hgsn (.slice (some ⟨gS, 0, none⟩) n.stops.length cS)) hgsn (.slice (some ⟨gN, 0, none⟩) (n.lines.length + 1) cN)
              exact netL_of (n := ⟨n.stops, n.lines ++ [⟨name, l.stops.reverse, l.runs.reverse⟩]⟩) (own_base hS (by omega)) hL (by omega)
            · have HN : Hid (rvF n (K : Int) name = (⟨[], []⟩, false)) := by
                show _ = _
                unfold rvF
                rw [Int.toNat_natCast]
                exact if_neg fun h => hgr h.2.2
              rw [netB_no hgr]
              go_wp2_with fail
              refine bodyPost_ret (v := .tuple #[.agg #[.slice none 0 0, .slice none 0 0], .bool false]) (by simp only [results, Try.results9]; go_simp) rfl ?_
              rw [HN.out]
              have hbz := fun (u0 u1 : Value) => (HB9.out.setCell (p := ⟨w.heap.size + 1, 0, none⟩) (by simp) u0).setCell (p := ⟨w.heap.size + 1, 1, none⟩) (by simp) u1
              exact ⟨_, rfl, fun W _ _ => netAt_zero W, hbz _ _⟩
          · go_simp
            refine hK.out _ _ ?_ (fun hH3 => ?_)
            · exact keepR2 ((Below.refl _ _).alloc (Nat.le_refl _) _) hH2
            clear hK K
            have pc3 := acell pc2 (.cells #[.string name, .slice gs l.stops.length cs, .slice gr l.runs.length cr] 36 (0, 0))
            have hzA : Below wr.heap.size wr (w6.alloc (.cells #[.string name, .slice gs l.stops.length cs, .slice gr l.runs.length cr] 36 (0, 0))) := hz5.alloc hz5.size _
            try simp only [Act.put, List.setIfInBounds_toArray, List.set_cons_zero, List.set_cons_succ]
            refine wpAnyH_ready (rs := [1]) (by kernel_rfl) (by simp) ?_
            refine AllReadyH.cons (by simp only [List.getElem?_toArray, List.getElem?_cons_succ, List.getElem?_cons_zero]; rfl) (fun K hK => ?_) AllReadyH.nil
            go_simp
            refine hK.out _ _ ?_ (fun _ => ?_)
            · exact hH3
            clear hK K
            try simp only [Act.put, List.setIfInBounds_toArray, List.set_cons_zero, List.set_cons_succ]
            have hownA := own_later hV.out.2.1 hzA
            have hA1 : B ≤ (w6.alloc (.cells #[.string name, .slice gs l.stops.length cs, .slice gr l.runs.length cr] 36 (0, 0))).heap.size := by have := hzA.size; omega
            refine wpAnyH_ready (rs := [11]) (by kernel_rfl) (by simp) ?_
            refine AllReadyH.cons (by simp only [List.getElem?_toArray, List.getElem?_cons_succ, List.getElem?_cons_zero]; rfl) (fun K hK => ?_) AllReadyH.nil
            refine step_append_lies _ rfl (.tmp 31) (.tmp 40) 25 rfl B 36 i1 (.agg #[.string ⟨#[]⟩, .slice none 0 0, .slice none 0 0]) 3 64 Try.underlying25 hi1 hy0 hy1 hy2 rfl (by decide) _ _ _ rfl hownA ⟨w6.heap.size, 0, none⟩ 1 1 [.string name, .slice gs l.stops.length cs, .slice gr l.runs.length cr] rfl rfl (news5 _ _ _ _) (by intro u hu; simp at hu; rcases hu with rfl | rfl | rfl <;> rfl) (by omega) (by unfold maxLen; omega) (by omega) hA1 _ rfl ?_
            intro gN cN w7 hown7 hgr7 hat7 hlt7
            have hvb := fun b (hb : (Value.slice oa n.lines.length oc).ownBlock = some b) => hV.out.2.1.lt b hb
            have hc7 : ∀ (p : Addr) (x : Value), (w6.alloc (.cells #[.string name, .slice gs l.stops.length cs, .slice gr l.runs.length cr] 36 (0, 0))).cell? p = some x → (Value.slice oa n.lines.length oc).ownBlock ≠ some p.block → w7.cell? p = some x := fun p x hp hq => hgr7.cell hp (fun e => hq e.symm)
            have hbw7 : Below w.heap.size w w7 := (belR2 hH3).grown hgr7 (by have := hzA.size; have := HBr.out.size; omega) (fun b hb => by have := (hvb b hb).1; omega)
            have pc6 := hc7 _ _ pc3 hF.out.1
            have p06 := hc7 _ _ (bkeep hzA p0r) hF.out.1
            have hfz7 : ∀ o, w7.frozen? ⟨w3.heap.size, o, none⟩ = false := fun o => by
              rw [hgr7.frozen_far ⟨w3.heap.size, o, none⟩ (by have := hzA.size; show w3.heap.size < _; omega) (fun e => hF.out.1 e.symm), hzA.frozen (p := ⟨w3.heap.size, o, none⟩) (by show w3.heap.size < _; omega)]
              exact pfr o
            have hz7 := hgr7.size
            have hzA2 := hzA.size
            have hNew := OwnLs.snocV (l := ⟨name, l.stops.reverse, l.runs.reverse⟩) hV.out.1 hV.out.2.1 hV.out.2.2 (by omega) hzA (by show World.ownsRow _ _ _ _ _ l.stops.reverse.length _; rw [List.length_reverse]; exact HGs.out.alloc _) (by show World.ownsRow _ _ _ _ _ l.runs.reverse.length _; rw [List.length_reverse]; exact HGr.out.alloc _) hown7 hgr7 hat7
            have hgNne : (Value.slice (some ⟨gN, 0, none⟩) (n.lines.length + 1) cN).ownBlock ≠ some w3.heap.size := by
              simp only [Value.ownBlock, ne_eq, Option.some.injEq]
              rcases hat7 with h | h
              · intro e; subst e; exact hF.out.1 h
              · omega
            have hgsl := HGs.out.lt
            have hgrl := HGr.out.lt
            have hL8 := Lib.hid (OwnLsV.hole (i := 1) (x := w3.heap.size) hNew hgNne (fun p hp => by
              rcases List.mem_append.1 hp with hp | hp
              · exact hF.out.2 p hp
              · simp at hp
                subst hp
                exact ⟨fun e => by have := (hgsl _ e).1; omega, fun e => by have := (hgrl _ e).1; omega⟩) (.slice (some ⟨gN, 0, none⟩) (n.lines.length + 1) cN))
            have hS7 := (own_later HSr.out hzA).kept hgr7 (.inr (fun e => by have := (hvb gS e.symm).1; omega))
            have hS8 := Lib.hid (own_hole (i := 1) (x := w3.heap.size) hS7 (by simp [Value.ownBlock]; omega) (.slice (some ⟨gN, 0, none⟩) (n.lines.length + 1) cN))
            have hvz : (Value.slice oa n.lines.length oc).ownBlock ≠ some (w.heap.size + 1) := fun e => by have := (hvb _ e).1; omega
            obtain ⟨za, zb, zc, zd⟩ := HZr.out.later hzA
            have HZ8 : Hid (Rz2 (w7.setCell ⟨w3.heap.size, 1, none⟩ (.slice (some ⟨gN, 0, none⟩) (n.lines.length + 1) cN)) (w.heap.size + 1)) :=
              ⟨(set_otherT (by omega)).trans (hc7 _ _ za hvz), (set_otherT (by omega)).trans (hc7 _ _ zb hvz), by simp [World.setCell]; omega, fun o => by rw [World.frozen?_setCell, hgr7.frozen_far ⟨w.heap.size + 1, o, none⟩ zc (fun e => hvz e.symm)]; exact zd o⟩
            clear hown7 hgr7 hat7 hlt7 hNew hS7 hgsl hgrl hownA za zb zc zd
            go_wp2_with fail
            refine hK.out _ _ ?_ (fun hH6 => ?_)
            · exact ⟨hc7 _ _ hH3.1 hF1.out, hc7 _ _ hH3.2.1 hF1.out, hbw7⟩
            clear hK K
            try simp only [Act.put, List.setIfInBounds_toArray, List.set_cons_zero, List.set_cons_succ]
            refine wpAnyH_take (i := 12) (v := ?_) (by simp only [List.getElem?_toArray, List.getElem?_cons_succ, List.getElem?_cons_zero]; rfl) (by kernel_rfl) (by kernel_rfl) (by kernel_rfl) (by exact fun _ _ _ h => h) (Or.inl ⟨by rfl, ?_⟩) (by assumption) ?_
            rotate_left
            · intro w' hSw; obtain ⟨e2, e3, _⟩ := hSw
              go_simp; try with_reducible rfl
            try simp only [Act.put, List.setIfInBounds_toArray, List.set_cons_zero, List.set_cons_succ]
            refine wpAnyH_ready (rs := [13]) (by kernel_rfl) (by simp) ?_
            refine AllReadyH.cons (by simp only [List.getElem?_toArray, List.getElem?_cons_succ, List.getElem?_cons_zero]; rfl) (fun K hK => ?_) AllReadyH.nil
            go_simp
            refine hK.out _ _ ?_ (fun hH7 => ?_)
            · exact ⟨(set_otherT (by omega)).trans hH6.1, (set_otherT (by omega)).trans hH6.2.1, hbw7.setCell (p := ⟨w3.heap.size, 1, none⟩) (by show w.heap.size ≤ w3.heap.size; omega) _⟩
            clear hK K hc7
            try simp only [Act.put, List.setIfInBounds_toArray, List.set_cons_zero, List.set_cons_succ]
            refine wpAnyH_done (by kernel_rfl) ?_ _
            have x0 : (w7.setCell ⟨w3.heap.size, 1, none⟩ (.slice (some ⟨gN, 0, none⟩) (n.lines.length + 1) cN)).cell? ⟨w3.heap.size, 0, none⟩ = some (.slice (some ⟨gS, 0, none⟩) n.stops.length cS) := (World.cell?_setCell_other _ _ _ _ (fun e => by simp at e)).trans p06
            have x1 : (w7.setCell ⟨w3.heap.size, 1, none⟩ (.slice (some ⟨gN, 0, none⟩) (n.lines.length + 1) cN)).cell? ⟨w3.heap.size, 1, none⟩ = some (.slice (some ⟨gN, 0, none⟩) (n.lines.length + 1) cN) := World.cell?_setCell_same _ _ _ pc6
            have HV8 : Hid (NetAt (w7.setCell ⟨w3.heap.size, 1, none⟩ (.slice (some ⟨gN, 0, none⟩) (n.lines.length + 1) cN)) (.agg #[.slice (some ⟨gS, 0, none⟩) n.stops.length cS, .slice (some ⟨gN, 0, none⟩) (n.lines.length + 1) cN]) (rvN n K name)) := by
              show NetAt _ _ _
              rw [HRv.out]
              exact ⟨_, _, rfl, rowAt_own hS8.out, (show OwnLs _ _ _ _ from ⟨_, hL8.out⟩).at⟩
            have HIv := Lib.hid (l2Good_any _ _ _ HV8.out (HFit.out K))
            have HB8 : Hid (Below w.heap.size w (w7.setCell ⟨w3.heap.size, 1, none⟩ (.slice (some ⟨gN, 0, none⟩) (n.lines.length + 1) cN))) := hH7.2.2
            clear hH6 hH7 pc6 p06
            go_wp2_with fail
            generalize hX8 : w7.setCell ⟨w3.heap.size, 1, none⟩ (.slice (some ⟨gN, 0, none⟩) (n.lines.length + 1) cN) = w8 at *
            go_at_call 48
            refine HIv.out.mono ?_
            rintro e w9 ⟨rfl, hb9⟩
            have HB9 : Hid (Below w.heap.size w w9) := HB8.out.trans (hb9.mono HB8.out.size)
            have y0 := bkeep hb9 x0
            have y1 := bkeep hb9 x1
            obtain ⟨z0, z1, zz, zf⟩ := HZ8.out.later hb9
            have hS9 := Lib.hid (own_later hS8.out hb9)
            have hL9 := Lib.hid (show OwnLs B w9 (.slice (some ⟨gN, 0, none⟩) (n.lines.length + 1) cN) (n.lines ++ [⟨name, l.stops.reverse, l.runs.reverse⟩]) from ⟨_, hL8.out.later hb9⟩)
            clear hb9 HIv x0 x1 hX8
            by_cases hgr : NetGood (rvN n K name)
            · have HN : Hid (rvF n (K : Int) name = (rvN n K name, true)) := by
                show _ = _
                unfold rvF
                rw [Int.toNat_natCast]
                exact if_pos ⟨HGd.out, ⟨by omega, hK1⟩, hgr⟩
              rw [netB_yes hgr]
              go_wp2_with fail
              refine bodyPost_ret (v := .tuple #[.agg #[.slice (some ⟨gS, 0, none⟩) n.stops.length cS, .slice (some ⟨gN, 0, none⟩) (n.lines.length + 1) cN], .bool true]) (by simp only [results, Try.results9]; go_simp) rfl ?_
              rw [HN.out]
              have hbz := fun (u0 u1 : Value) => (HB9.out.setCell (p := ⟨w.heap.size + 1, 0, none⟩) (by simp) u0).setCell (p := ⟨w.heap.size + 1, 1, none⟩) (by simp) u1
              refine ⟨_, rfl, ?_, hbz _ _⟩
              rw [HRv.out]
              have hgsn : (Value.slice (some ⟨gS, 0, none⟩) n.stops.length cS).ownBlock ≠ some (w.heap.size + 1) := by simp [Value.ownBlock]; omega
              have hL := (hL9.out.set (p := ⟨w.heap.size + 1, 0, none⟩) hwB (.slice (some ⟨gS, 0, none⟩) n.stops.length cS)).set (p := ⟨w.heap.size + 1, 1, none⟩) hwB (.slice (some ⟨gN, 0, none⟩) (n.lines.length + 1) cN)
              have hS := own_hole (i := 1) (x := w.heap.size + 1) (own_hole (i := 0) (x := w.heap.size + 1) hS9.out hgsn (.slice (some ⟨gS, 0, none⟩) n.stops.length cS)) hgsn (.slice (some ⟨gN, 0, none⟩) (n.lines.length + 1) cN)
              exact netL_of (n := ⟨n.stops, n.lines ++ [⟨name, l.stops.reverse, l.runs.reverse⟩]⟩) (own_base hS (by omega)) hL (by omega)
            · have HN : Hid (rvF n (K : Int) name = (⟨[], []⟩, false)) := by
                show _ = _
                unfold rvF
                rw [Int.toNat_natCast]
                exact if_neg fun h => hgr h.2.2
              rw [netB_no hgr]
              go_wp2_with fail
              refine bodyPost_ret (v := .tuple #[.agg #[.slice none 0 0, .slice none 0 0], .bool false]) (by simp only [results, Try.results9]; go_simp) rfl ?_
              rw [HN.out]
              have hbz := fun (u0 u1 : Value) => (HB9.out.setCell (p := ⟨w.heap.size + 1, 0, none⟩) (by simp) u0).setCell (p := ⟨w.heap.size + 1, 1, none⟩) (by simp) u1
              exact ⟨_, rfl, fun W _ _ => netAt_zero W, hbz _ _⟩
    · have HN : Hid (rvF n line name = (⟨[], []⟩, false)) := if_neg fun h => hln h.2.1
      have HIn := Lib.hid (fun W => l1In_no line 0 ((n.lines.length : Int) - 1) W (fun h => hln ⟨h.1, by omega⟩))
      clear hln HCp HAt HFit hg
      go_enter Try.func9, Try.ntmps9
      go_wp2_with fail
      go_at_call 48
      refine (HG.out _ HB0.out).mono ?_
      rintro e w1 ⟨rfl, hb1⟩
      have HB9 : Hid (Below w.heap.size w w1) := HB0.out.trans (hb1.mono HB0.out.size)
      have p0 : w1.cell? ⟨w.heap.size, 0, none⟩ = some (.slice a n.stops.length c) := bkeep hb1 (by go_simp)
      have p1 : w1.cell? ⟨w.heap.size, 1, none⟩ = some (.slice a' n.lines.length c') := bkeep hb1 (by go_simp)
      obtain ⟨z0, z1, zz, zf⟩ := HR0.out.later hb1
      clear hb1 HG
      go_wp2_with (go_at_call 49; refine (HIn.out _).mono ?_; rintro e w1' ⟨rfl, rfl⟩)
      refine bodyPost_ret (v := .tuple #[.agg #[.slice none 0 0, .slice none 0 0], .bool false]) (by simp only [results, Try.results9]; go_simp) rfl ?_
      rw [HN.out]
      have hbz := fun (u0 u1 : Value) => (HB9.out.setCell (p := ⟨w.heap.size + 1, 0, none⟩) (by simp) u0).setCell (p := ⟨w.heap.size + 1, 1, none⟩) (by simp) u1
      exact ⟨_, rfl, fun W _ _ => netAt_zero W, hbz _ _⟩
  · rw [netB_no hg] at HG
    have HN : Hid (rvF n line name = (⟨[], []⟩, false)) := if_neg fun h => hg h.1
    clear HCp HAt HFit hg
    go_enter Try.func9, Try.ntmps9
    go_wp2_with fail
    go_at_call 48
    refine (HG.out _ HB0.out).mono ?_
    rintro e w1 ⟨rfl, hb1⟩
    have HB9 : Hid (Below w.heap.size w w1) := HB0.out.trans (hb1.mono HB0.out.size)
    obtain ⟨z0, z1, zz, zf⟩ := HR0.out.later hb1
    clear hb1 HG
    go_wp2_with fail
    refine bodyPost_ret (v := .tuple #[.agg #[.slice none 0 0, .slice none 0 0], .bool false]) (by simp only [results, Try.results9]; go_simp) rfl ?_
    rw [HN.out]
    have hbz := fun (u0 u1 : Value) => (HB9.out.setCell (p := ⟨w.heap.size + 1, 0, none⟩) (by simp) u0).setCell (p := ⟨w.heap.size + 1, 1, none⟩) (by simp) u1
    exact ⟨_, rfl, fun W _ _ => netAt_zero W, hbz _ _⟩

theorem lineTot_le (m : Nat) : ∀ ls : List LineD, (∀ l ∈ ls, lineSz l ≤ m) → lineTot ls ≤ m * ls.length
  | [], _ => by simp [lineTot]
  | l :: ls, h => by
    have h1 := lineTot_le m ls (fun x hx => h x (List.mem_cons_of_mem _ hx))
    have h2 := h l List.mem_cons_self
    have e : lineTot (l :: ls) = lineSz l + lineTot ls := by simp [lineTot]
    rw [e, List.length_cons, Nat.mul_succ]; omega
theorem netSmall_good {n : NetD} (h : NetGood n) : NetSmall n := by
  obtain ⟨-, hls⟩ := good_sizesR h
  have h1 := h.1
  have h2 := lineTot_le 24 n.lines (fun l hl => by obtain ⟨a1, a2, a3⟩ := hls l hl; unfold lineSz; omega)
  have h3 : 24 * n.lines.length ≤ 24 * 5 := Nat.mul_le_mul_left _ h1.2.2.2
  exact ⟨by omega, by omega, fun l hl => by obtain ⟨a1, a2, a3⟩ := hls l hl; exact ⟨by omega, by omega, by omega⟩, by omega⟩
theorem rvF_small (n : NetD) (line : Int) (name : ByteArray) : NetSmall (rvF n line name).1 := by
  unfold rvF
  split
  · rename_i h; exact netSmall_good h.2.2
  · simp [NetSmall, lineTot]
end Go.Proofs.Ytemejcbilhcebaa
