/-
  CONTRACT of spec.l6Trips: the numbers of a line's trips in the order of their starts, in new memory.
-/
import Derived.Test.YtffcgblionlhhaaLtP
import Derived.Test.YtffcgblionlhhaaL5Starts
import Derived.OrdersHeld
import Derived.Deep.RegionHeld
import Derived.Deep.RegionLaw
namespace Go.Proofs.Ytffcgblionlhhaa
open Go.RowKit
set_option linter.unusedVariables false

set_option maxRecDepth 100000 in
set_option maxHeartbeats 8000000 in
theorem l6Trips_any (v : Value) (t : TTD) (line : Int) (w : World) (hr : TTAt w v t) (hs : TTSmall t) :
    Calls Try.prog 187 #[v, .int .i64 line] w fun e w' => (∃ v', e = .returned v' ∧ w'.ownsRow w.heap.size 3 1 v' (trS t line t.trips.length).length (ints (trS t line t.trips.length))) ∧ Below w.heap.size w w' := by
  have hts := hs.2
  unfold TripsSmall at hts
  obtain ⟨a, c, a', c', b, d, rfl, -, ht⟩ := tt_open hr
  have HT := Lib.hid ht
  clear hr hs ht
  obtain ⟨i0, hi0, hz0, hz1, hz2⟩ := info_parts infoInt
  go_enter Try.func187, Try.ntmps187
  go_wp2_with fail
  go_loopw [5, 6] (fun o q wr => ∃ k : Nat, k ≤ t.trips.length ∧ q = .int .i64 k ∧ Hid (o.ownBlock ≠ none ∧ wr.ownsRow (w.heap.size + 1) 3 1 o (trS t line k).length (ints (trS t line k))) ∧
      wr.cell? ⟨w.heap.size, 2, none⟩ = some (.slice b t.trips.length d) ∧ Hid (Below w.heap.size w wr ∧ w.heap.size < wr.heap.size))
    (fun _ q _ => t.trips.length - (RowKit.intOf q).toNat)
  case atStart =>
    refine ⟨0, Nat.zero_le _, rfl, ⟨by simp [Value.ownBlock], ?_⟩, by go_simp, ⟨((Below.refl _ _).alloc (Nat.le_refl _) _).alloc (by simp) _, by simp <;> omega⟩⟩
    have h := row_new (w.alloc (.cells #[.slice a t.net.stops.length c, .slice a' t.net.lines.length c', .slice b t.trips.length d] 89 (0, 0))) (w.heap.size + 1) (by simp)
    simp only [World.size_alloc] at h
    exact h
  case round =>
    obtain ⟨k, hk, rfl, HOwn, p2, HB⟩ := hrel
    obtain ⟨og, oc, rfl, hoc, hom, hogl, hogb, hcell⟩ := own_open HOwn.out.2 HOwn.out.1
    have HCell := Lib.hid hcell
    have hz := HB.out.2
    clear hcell
    by_cases hlt : k < t.trips.length
    · obtain ⟨g, go, rfl, hgb, y0, y1, y2⟩ := trip_at (HT.out.below rfl HB.out.1) k hlt
      have hk1 : (k : Int) < (t.trips.length : Int) := by omega
      have HYes := Lib.hid (fun h => trS_ins (line := line) hlt h)
      have HNo := Lib.hid (trS_no (line := line) hlt)
      have HSort := Lib.hid (trS_sorted t line k hk)
      have HMem := Lib.hid (trS_mem t line k hk)
      have hll : (trS t line k).length ≤ t.trips.length := by rw [trS_len t line k hk]; exact stS_len t line k hk
      have HL : Hid ((trS t line k).length ≤ 1048576) := by show _ ≤ _; omega
      have HTr := Lib.hid (fun q hq => trip_at (HT.out.below rfl HB.out.1) q hq)
      generalize t.trips[k] = x at *
      obtain ⟨xi, xl, xs⟩ := x
      simp only at *
      by_cases hln : xl = line
      · have HIn := Lib.hid (HYes.out hln)
        subst hln
        clear HYes HNo
        generalize hLd : trS t xl k = R at *
        clear hLd
        have hL := HL.out
        have hself : (xl != xl) = false := by simp
        go_wp2_with fail
        obtain ⟨wo, rfl⟩ : ∃ wo : World, wo = wr := ⟨_, rfl⟩
        go_loopw [7] (fun q wi => ∃ m : Nat, m ≤ R.length ∧ q = .int .i64 m ∧ Hid (∀ j (hj : j < R.length), m ≤ j → xs < stAt t R[j]) ∧ Hid (Dr wo wi)) (fun q _ => (RowKit.intOf q).toNat)
        case atStart => exact ⟨R.length, Nat.le_refl _, rfl, (fun j hj h => by omega), Dr.refl _⟩
        case round =>
          obtain ⟨m, hm, rfl, HGt, HDr⟩ := hrel
          obtain ⟨nq, rfl⟩ := HDr.out
          have hmc : (m : Int) ≤ (oc : Int) := by omega
          by_cases hpos : 0 < m
          · obtain ⟨j, rfl⟩ : ∃ j, m = j + 1 := ⟨m - 1, by omega⟩
            have hjl : j < R.length := by omega
            have hcj := HCell.out j _ (by rw [ints, List.getElem?_map, List.getElem?_eq_getElem hjl]; rfl)
            have e1 : decide ((0 : Int) < ((j + 1 : Nat) : Int)) = true := decide_eq_true (by omega)
            have e1' : decide ((0 : Int) < (j : Int) + 1) = true := decide_eq_true (by omega)
            have e2 : IntKind.i64.wrap ((j : Int) + 1 - 1) = (j : Int) := by rw [IntWalk.i64_in _ ⟨by omega, by omega⟩]; omega
            have e3 : IntKind.i64.wrap (j : Int) = (j : Int) := IntWalk.i64_in _ ⟨by omega, by omega⟩
            have e4 : (0 : Int) ≤ (j : Int) := by omega
            have e5 : (j : Int) < (R.length : Int) := by omega
            obtain ⟨q, hq, hqk, hqt, -⟩ := HMem.out _ (List.getElem_mem hjl)
            have hsq : stAt t R[j] = (t.trips[q]).start := by rw [hq, stAt_at hqt]
            obtain ⟨g', go', he', -, -, -, y2'⟩ := HTr.out q hqt
            simp at he'
            obtain ⟨rfl, rfl⟩ := he'
            rw [hq] at hcj
            have e7 : (q : Int) < (t.trips.length : Int) := by omega
            by_cases hcmp : xs < stAt t R[j]
            · have HGt2 : Hid (∀ i (hi : i < R.length), j ≤ i → xs < stAt t R[i]) := fun i hi h => by
                by_cases e : i = j
                · subst e; exact hcmp
                · exact HGt.out i hi (by omega)
              have e6 : decide (xs < (t.trips[q]).start) = true := decide_eq_true (by rw [← hsq]; exact hcmp)
              clear HGt hcmp hsq hq
              generalize (t.trips[q]).start = y at *
              go_wp2_with fail
              go_quiet (fail)
              go_wp2_with fail
              exact ⟨⟨j, by omega, by go_num, HGt2, ⟨_, rfl⟩⟩, by simp [RowKit.intOf] <;> omega⟩
            · have HIns : Hid (trS t xl (k + 1) = R.take (j + 1) ++ ([(k : Int)] ++ R.drop (j + 1))) := HIn.out (j + 1) (by omega) (fun i hi h => by have := HSort.out i j (by omega) hi hjl; omega) (fun h => HGt.out (j + 1) h (Nat.le_refl _))
              have e6 : decide (xs < (t.trips[q]).start) = false := decide_eq_false (by rw [← hsq]; exact hcmp)
              clear HGt hcmp hsq hq
              generalize (t.trips[q]).start = y at *
              go_wp2_with fail
              go_quiet (fail)
              go_wp2_with fail
              have HN1 : Hid (∀ W, Below wo.heap.size wo W → ∀ i u, ((ints R).take (j + 1))[i]? = some u → W.cell? ((⟨og, 0, none⟩ : Addr).add i) = some u) := fun W h i u hu => by
                rw [addr_add, Nat.zero_add]
                refine bkeep h (HCell.out i u ?_)
                rw [List.getElem?_take] at hu
                split at hu
                · exact hu
                · cases hu
              have HN2' : Hid (∀ W, Below wo.heap.size wo W → ∀ i u, ((ints R).drop (j + 1))[i]? = some u → W.cell? ((⟨og, j + 1, none⟩ : Addr).add i) = some u) := fun W h i u hu => by
                rw [addr_add]
                rw [List.getElem?_drop] at hu
                exact bkeep h (HCell.out _ u hu)
              have hmo : ((j : Int) + 1 : Int) ≤ (oc : Int) := by omega
              have hml : ((j : Int) + 1 : Int) ≤ (R.length : Int) := by omega
              have hm0 : (0 : Int) ≤ ((j : Int) + 1 : Int) := by omega
              by_cases hcm : oc = j + 1
              · have HLm : Hid (R.length = j + 1) := by show _ = _; omega
                have HN2 : Hid (∀ W, Below wo.heap.size wo W → ∀ i u, ((ints R).drop (j + 1))[i]? = some u → W.cell? ((⟨og, 0, none⟩ : Addr).add i) = some u) := fun W h i u hu => by
                  rw [List.getElem?_drop, List.getElem?_eq_none (by have := HLm.out; simp [ints]; omega)] at hu; cases hu
                refine wp_region_held_drew (S := fun w' => Below wo.heap.size wo w') (by kernel_rfl) ?_ (fun hHeld => ?_)
                · exact (((Dr.refl wo).step _).step _).below.drew
                refine wpAnyH_take (i := 1) (v := ?_) (by simp only [List.getElem?_toArray, List.getElem?_cons_succ, List.getElem?_cons_zero]; rfl) (by kernel_rfl) (by kernel_rfl) (by kernel_rfl) (by exact fun _ _ _ h => h) (Or.inl ⟨by rfl, ?_⟩) (by assumption) ?_
                rotate_left
                · intro w' hSw; (try dsimp only at hSw); go_simp; try with_reducible rfl
                try simp only [Act.put, List.setIfInBounds_toArray, List.set_cons_zero, List.set_cons_succ]
                refine wpAnyH_take (i := 2) (v := ?_) (by simp only [List.getElem?_toArray, List.getElem?_cons_succ, List.getElem?_cons_zero]; rfl) (by kernel_rfl) (by kernel_rfl) (by kernel_rfl) (by exact fun _ _ _ h => h) (Or.inl ⟨by rfl, ?_⟩) (by assumption) ?_
                rotate_left
                · intro w' hSw; (try dsimp only at hSw); go_simp; try with_reducible rfl
                try simp only [Act.put, List.setIfInBounds_toArray, List.set_cons_zero, List.set_cons_succ]
                refine wpAnyH_take (i := 3) (v := ?_) (by simp only [List.getElem?_toArray, List.getElem?_cons_succ, List.getElem?_cons_zero]; rfl) (by kernel_rfl) (by kernel_rfl) (by kernel_rfl) (by exact fun _ _ _ h => h) (Or.inl ⟨by rfl, ?_⟩) (by assumption) ?_
                rotate_left
                · intro w' hSw; (try dsimp only at hSw); go_simp; try with_reducible rfl
                try simp only [Act.put, List.setIfInBounds_toArray, List.set_cons_zero, List.set_cons_succ]
                refine wpAnyH_take (i := 5) (v := ?_) (by simp only [List.getElem?_toArray, List.getElem?_cons_succ, List.getElem?_cons_zero]; rfl) (by kernel_rfl) (by kernel_rfl) (by kernel_rfl) (by exact fun _ _ _ h => h) (Or.inl ⟨by rfl, ?_⟩) (by assumption) ?_
                rotate_left
                · intro w' hSw; (try dsimp only at hSw); go_simp; try with_reducible rfl
                try simp only [Act.put, List.setIfInBounds_toArray, List.set_cons_zero, List.set_cons_succ]
                refine wpAnyH_take (i := 8) (v := ?_) (by simp only [List.getElem?_toArray, List.getElem?_cons_succ, List.getElem?_cons_zero]; rfl) (by kernel_rfl) (by kernel_rfl) (by kernel_rfl) (by exact fun _ _ _ h => h) (Or.inl ⟨by rfl, ?_⟩) (by assumption) ?_
                rotate_left
                · intro w' hSw; (try dsimp only at hSw); go_simp; try with_reducible rfl
                try simp only [Act.put, List.setIfInBounds_toArray, List.set_cons_zero, List.set_cons_succ]
                refine wpAnyH_take (i := 9) (v := ?_) (by simp only [List.getElem?_toArray, List.getElem?_cons_succ, List.getElem?_cons_zero]; rfl) (by kernel_rfl) (by kernel_rfl) (by kernel_rfl) (by exact fun _ _ _ h => h) (Or.inl ⟨by rfl, ?_⟩) (by assumption) ?_
                rotate_left
                · intro w' hSw; (try dsimp only at hSw); go_simp; try with_reducible rfl
                try simp only [Act.put, List.setIfInBounds_toArray, List.set_cons_zero, List.set_cons_succ]
                refine wpAnyH_take (i := 10) (v := ?_) (by simp only [List.getElem?_toArray, List.getElem?_cons_succ, List.getElem?_cons_zero]; rfl) (by kernel_rfl) (by kernel_rfl) (by kernel_rfl) (by exact fun _ _ _ h => h) (Or.inl ⟨by rfl, ?_⟩) (by assumption) ?_
                rotate_left
                · intro w' hSw; (try dsimp only at hSw); go_simp; try with_reducible rfl
                try simp only [Act.put, List.setIfInBounds_toArray, List.set_cons_zero, List.set_cons_succ]
                refine wpAnyH_ready (rs := [0, 6]) (by kernel_rfl) (by simp) ?_
                refine AllReadyH.cons (by simp only [List.getElem?_toArray, List.getElem?_cons_zero]; rfl) (fun K hK => ?_) (AllReadyH.cons (by simp only [List.getElem?_toArray, List.getElem?_cons_succ, List.getElem?_cons_zero]; rfl) (fun K hK => ?_) AllReadyH.nil)
                · go_simp
                  refine hK.out _ _ ?_ (fun hH0 => ?_)
                  · first | exact hHeld.alloc hHeld.size _ | exact ((Dr.refl wo).step _).below.alloc (Nat.le_refl _) _
                  clear hK K
                  try simp only [Act.put, List.setIfInBounds_toArray, List.set_cons_zero, List.set_cons_succ]
                  refine wpAnyH_ready (rs := [4, 6]) (by kernel_rfl) (by simp) ?_
                  refine AllReadyH.cons (by simp only [List.getElem?_toArray, List.getElem?_cons_succ, List.getElem?_cons_zero]; rfl) (fun K hK => ?_) (AllReadyH.cons (by simp only [List.getElem?_toArray, List.getElem?_cons_succ, List.getElem?_cons_zero]; rfl) (fun K hK => ?_) AllReadyH.nil)
                  · rw [if_pos (by rfl)]
                    refine wp_append_own _ _ _ 43 rfl wo.heap.size 3 i0 (.int .i64 0) 1 8 Try.underlying43 hi0 hz0 hz1 hz2 rfl (by decide) _ _ _ rfl (litE0 wo.heap.size (_) _ (by simp) (by simp)) ⟨og, 0, none⟩ (j + 1) _ ((ints R).take ((j + 1))) rfl (by simp [ints] <;> omega) (HN1.out _ hH0) (fun u hu => ints_oneE R u (List.mem_of_mem_take hu)) (by unfold maxLen; omega) (by omega) hH0.size ?_
                    intro v1 w1 hown4 hg4 _
                    refine hK.out _ _ ?_ (fun hH4 => ?_)
                    · exact hH0.grown hg4 hH0.size (fun g hg => by cases hg; simp)
                    clear hK K
                    try simp only [Act.put, List.setIfInBounds_toArray, List.set_cons_zero, List.set_cons_succ]
                    refine wpAnyH_ready (rs := [6]) (by kernel_rfl) (by simp) ?_
                    refine AllReadyH.cons (by simp only [List.getElem?_toArray, List.getElem?_cons_succ, List.getElem?_cons_zero]; rfl) (fun K hK => ?_) AllReadyH.nil
                    go_simp
                    refine hK.out _ _ ?_ (fun hHc => ?_)
                    · exact hH4.alloc hH4.size _
                    clear hK K
                    try simp only [Act.put, List.setIfInBounds_toArray, List.set_cons_zero, List.set_cons_succ]
                    refine wpAnyH_ready (rs := [7]) (by kernel_rfl) (by simp) ?_
                    refine AllReadyH.cons (by simp only [List.getElem?_toArray, List.getElem?_cons_succ, List.getElem?_cons_zero]; rfl) (fun K hK => ?_) AllReadyH.nil
                    rw [if_pos (by rfl)]
                    refine wp_append_own _ _ _ 43 rfl wo.heap.size 3 i0 (.int .i64 0) 1 8 Try.underlying43 hi0 hz0 hz1 hz2 rfl (by decide) _ _ _ rfl (hown4.alloc _) ⟨w1.heap.size, 0, none⟩ 1 1 [.int .i64 (k : Int)] rfl rfl (one_newN w1 _ _ rfl) (by intro u hu; simp at hu; subst hu; rfl) (by unfold maxLen; omega) (by omega) hHc.size ?_
                    intro v2 w2 hown7 hg7 _
                    refine hK.out _ _ ?_ (fun hH7 => ?_)
                    · exact hHc.grown hg7 hHc.size (fun g hg => (hown4.lt g hg).1)
                    clear hK K
                    try simp only [Act.put, List.setIfInBounds_toArray, List.set_cons_zero, List.set_cons_succ]
                    refine wpAnyH_ready (rs := [11]) (by kernel_rfl) (by simp) ?_
                    refine AllReadyH.cons (by simp only [List.getElem?_toArray, List.getElem?_cons_succ, List.getElem?_cons_zero]; rfl) (fun K hK => ?_) AllReadyH.nil
                    rw [if_pos (by rfl)]
                    refine wp_append_own _ _ _ 43 rfl wo.heap.size 3 i0 (.int .i64 0) 1 8 Try.underlying43 hi0 hz0 hz1 hz2 rfl (by decide) _ _ _ rfl hown7 ⟨og, 0, none⟩ (R.length - (j + 1)) _ ((ints R).drop ((j + 1))) rfl (by simp [ints]) (HN2.out _ hH7) (fun u hu => ints_oneE R u (List.mem_of_mem_drop hu)) (by unfold maxLen; omega) (by omega) hH7.size ?_
                    intro v3 w3 hown11 hg11 _
                    refine hK.out _ _ ?_ (fun hH11 => ?_)
                    · exact hH7.grown hg11 hH7.size (fun g hg => (hown7.lt g hg).1)
                    clear hK K
                    try simp only [Act.put, List.setIfInBounds_toArray, List.set_cons_zero, List.set_cons_succ]
                    refine wpAnyH_take (i := 12) (v := ?_) (by simp only [List.getElem?_toArray, List.getElem?_cons_succ, List.getElem?_cons_zero]; rfl) (by kernel_rfl) (by kernel_rfl) (by kernel_rfl) (by exact fun _ _ _ h => h) (Or.inl ⟨by rfl, ?_⟩) (by assumption) ?_
                    rotate_left
                    · intro w' hSw; (try dsimp only at hSw); go_simp; try with_reducible rfl
                    try simp only [Act.put, List.setIfInBounds_toArray, List.set_cons_zero, List.set_cons_succ]
                    refine wpAnyH_done (by kernel_rfl) ?_ _
                    have HR3 : Hid (w3.ownsRow (w.heap.size + 1) 3 1 v3 (trS t xl (k + 1)).length (ints (trS t xl (k + 1)))) := by
                      show w3.ownsRow _ _ _ _ _ _
                      rw [HIns.out]
                      rw [show (R.take (j + 1) ++ ([(k : Int)] ++ R.drop (j + 1))).length = 0 + (j + 1) + 1 + (R.length - (j + 1)) by simp; omega, show ints (R.take (j + 1) ++ ([(k : Int)] ++ R.drop (j + 1))) = [] ++ (ints R).take (j + 1) ++ [.int .i64 (k : Int)] ++ (ints R).drop (j + 1) by simp [ints]]
                      exact own_base hown11 (by omega)
                    have HV3 := Lib.hid (own_someE hown11 (by omega))
                    have HH := Lib.hid hH11
                    clear hown11 hg11 hown7 hg7
                    have HB3 : Hid (Below w.heap.size w w3 ∧ w.heap.size < w3.heap.size) := ⟨HB.out.1.trans (HH.out.mono (by omega)), by have := HH.out.size; omega⟩
                    have z2 : w3.cell? ⟨w.heap.size, 2, none⟩ = some (.slice (some ⟨g, go, none⟩) t.trips.length d) := bkeep HH.out p2
                    clear HB
                    go_wp2_with fail
                    exact ⟨⟨k + 1, by omega, by go_num, ⟨HV3.out, HR3.out⟩, z2, HB3⟩, by simp [RowKit.intOf]; omega⟩
                  · go_simp
                    refine hK.out _ _ ?_ (fun hH6 => ?_)
                    · exact hH0.alloc hH0.size _
                    clear hK K
                    try simp only [Act.put, List.setIfInBounds_toArray, List.set_cons_zero, List.set_cons_succ]
                    refine wpAnyH_ready (rs := [4]) (by kernel_rfl) (by simp) ?_
                    refine AllReadyH.cons (by simp only [List.getElem?_toArray, List.getElem?_cons_succ, List.getElem?_cons_zero]; rfl) (fun K hK => ?_) AllReadyH.nil
                    rw [if_pos (by rfl)]
                    refine wp_append_own _ _ _ 43 rfl wo.heap.size 3 i0 (.int .i64 0) 1 8 Try.underlying43 hi0 hz0 hz1 hz2 rfl (by decide) _ _ _ rfl (((litE0 wo.heap.size (_) _ (by simp) (by simp))).alloc _) ⟨og, 0, none⟩ (j + 1) _ ((ints R).take ((j + 1))) rfl (by simp [ints] <;> omega) (HN1.out _ hH6) (fun u hu => ints_oneE R u (List.mem_of_mem_take hu)) (by unfold maxLen; omega) (by omega) hH6.size ?_
                    intro v1 w1 hown4 hg4 _
                    refine hK.out _ _ ?_ (fun hH4 => ?_)
                    · exact hH6.grown hg4 hH6.size (fun g hg => by cases hg; simp)
                    clear hK K
                    try simp only [Act.put, List.setIfInBounds_toArray, List.set_cons_zero, List.set_cons_succ]
                    have hHc := hH4
                    refine wpAnyH_ready (rs := [7]) (by kernel_rfl) (by simp) ?_
                    refine AllReadyH.cons (by simp only [List.getElem?_toArray, List.getElem?_cons_succ, List.getElem?_cons_zero]; rfl) (fun K hK => ?_) AllReadyH.nil
                    rw [if_pos (by rfl)]
                    refine wp_append_own _ _ _ 43 rfl wo.heap.size 3 i0 (.int .i64 0) 1 8 Try.underlying43 hi0 hz0 hz1 hz2 rfl (by decide) _ _ _ rfl hown4 ⟨wo.heap.size + 1, 0, none⟩ 1 1 [.int .i64 (k : Int)] rfl rfl (one_keptE hg4 (one_newN _ _ (wo.heap.size + 1) (by simp)) (show Value.ownBlock (.slice (some ⟨wo.heap.size, 0, none⟩) 0 0) ≠ some (wo.heap.size + 1) by simp [Value.ownBlock])) (by intro u hu; simp at hu; subst hu; rfl) (by unfold maxLen; omega) (by omega) hHc.size ?_
                    intro v2 w2 hown7 hg7 _
                    refine hK.out _ _ ?_ (fun hH7 => ?_)
                    · exact hHc.grown hg7 hHc.size (fun g hg => (hown4.lt g hg).1)
                    clear hK K
                    try simp only [Act.put, List.setIfInBounds_toArray, List.set_cons_zero, List.set_cons_succ]
                    refine wpAnyH_ready (rs := [11]) (by kernel_rfl) (by simp) ?_
                    refine AllReadyH.cons (by simp only [List.getElem?_toArray, List.getElem?_cons_succ, List.getElem?_cons_zero]; rfl) (fun K hK => ?_) AllReadyH.nil
                    rw [if_pos (by rfl)]
                    refine wp_append_own _ _ _ 43 rfl wo.heap.size 3 i0 (.int .i64 0) 1 8 Try.underlying43 hi0 hz0 hz1 hz2 rfl (by decide) _ _ _ rfl hown7 ⟨og, 0, none⟩ (R.length - (j + 1)) _ ((ints R).drop ((j + 1))) rfl (by simp [ints]) (HN2.out _ hH7) (fun u hu => ints_oneE R u (List.mem_of_mem_drop hu)) (by unfold maxLen; omega) (by omega) hH7.size ?_
                    intro v3 w3 hown11 hg11 _
                    refine hK.out _ _ ?_ (fun hH11 => ?_)
                    · exact hH7.grown hg11 hH7.size (fun g hg => (hown7.lt g hg).1)
                    clear hK K
                    try simp only [Act.put, List.setIfInBounds_toArray, List.set_cons_zero, List.set_cons_succ]
                    refine wpAnyH_take (i := 12) (v := ?_) (by simp only [List.getElem?_toArray, List.getElem?_cons_succ, List.getElem?_cons_zero]; rfl) (by kernel_rfl) (by kernel_rfl) (by kernel_rfl) (by exact fun _ _ _ h => h) (Or.inl ⟨by rfl, ?_⟩) (by assumption) ?_
                    rotate_left
                    · intro w' hSw; (try dsimp only at hSw); go_simp; try with_reducible rfl
                    try simp only [Act.put, List.setIfInBounds_toArray, List.set_cons_zero, List.set_cons_succ]
                    refine wpAnyH_done (by kernel_rfl) ?_ _
                    have HR3 : Hid (w3.ownsRow (w.heap.size + 1) 3 1 v3 (trS t xl (k + 1)).length (ints (trS t xl (k + 1)))) := by
                      show w3.ownsRow _ _ _ _ _ _
                      rw [HIns.out]
                      rw [show (R.take (j + 1) ++ ([(k : Int)] ++ R.drop (j + 1))).length = 0 + (j + 1) + 1 + (R.length - (j + 1)) by simp; omega, show ints (R.take (j + 1) ++ ([(k : Int)] ++ R.drop (j + 1))) = [] ++ (ints R).take (j + 1) ++ [.int .i64 (k : Int)] ++ (ints R).drop (j + 1) by simp [ints]]
                      exact own_base hown11 (by omega)
                    have HV3 := Lib.hid (own_someE hown11 (by omega))
                    have HH := Lib.hid hH11
                    clear hown11 hg11 hown7 hg7
                    have HB3 : Hid (Below w.heap.size w w3 ∧ w.heap.size < w3.heap.size) := ⟨HB.out.1.trans (HH.out.mono (by omega)), by have := HH.out.size; omega⟩
                    have z2 : w3.cell? ⟨w.heap.size, 2, none⟩ = some (.slice (some ⟨g, go, none⟩) t.trips.length d) := bkeep HH.out p2
                    clear HB
                    go_wp2_with fail
                    exact ⟨⟨k + 1, by omega, by go_num, ⟨HV3.out, HR3.out⟩, z2, HB3⟩, by simp [RowKit.intOf]; omega⟩
                · go_simp
                  refine hK.out _ _ ?_ (fun hH6 => ?_)
                  · first | exact hHeld.alloc hHeld.size _ | exact ((Dr.refl wo).step _).below.alloc (Nat.le_refl _) _
                  clear hK K
                  try simp only [Act.put, List.setIfInBounds_toArray, List.set_cons_zero, List.set_cons_succ]
                  refine wpAnyH_ready (rs := [0]) (by kernel_rfl) (by simp) ?_
                  refine AllReadyH.cons (by simp only [List.getElem?_toArray, List.getElem?_cons_zero]; rfl) (fun K hK => ?_) AllReadyH.nil
                  go_simp
                  refine hK.out _ _ ?_ (fun hH0 => ?_)
                  · exact hH6.alloc hH6.size _
                  clear hK K
                  try simp only [Act.put, List.setIfInBounds_toArray, List.set_cons_zero, List.set_cons_succ]
                  refine wpAnyH_ready (rs := [4]) (by kernel_rfl) (by simp) ?_
                  refine AllReadyH.cons (by simp only [List.getElem?_toArray, List.getElem?_cons_succ, List.getElem?_cons_zero]; rfl) (fun K hK => ?_) AllReadyH.nil
                  rw [if_pos (by rfl)]
                  refine wp_append_own _ _ _ 43 rfl wo.heap.size 3 i0 (.int .i64 0) 1 8 Try.underlying43 hi0 hz0 hz1 hz2 rfl (by decide) _ _ _ rfl (litE0 wo.heap.size (_) _ (by simp) (by simp)) ⟨og, 0, none⟩ (j + 1) _ ((ints R).take ((j + 1))) rfl (by simp [ints] <;> omega) (HN1.out _ hH0) (fun u hu => ints_oneE R u (List.mem_of_mem_take hu)) (by unfold maxLen; omega) (by omega) hH0.size ?_
                  intro v1 w1 hown4 hg4 _
                  refine hK.out _ _ ?_ (fun hH4 => ?_)
                  · exact hH0.grown hg4 hH0.size (fun g hg => by cases hg; simp)
                  clear hK K
                  try simp only [Act.put, List.setIfInBounds_toArray, List.set_cons_zero, List.set_cons_succ]
                  have hHc := hH4
                  refine wpAnyH_ready (rs := [7]) (by kernel_rfl) (by simp) ?_
                  refine AllReadyH.cons (by simp only [List.getElem?_toArray, List.getElem?_cons_succ, List.getElem?_cons_zero]; rfl) (fun K hK => ?_) AllReadyH.nil
                  rw [if_pos (by rfl)]
                  refine wp_append_own _ _ _ 43 rfl wo.heap.size 3 i0 (.int .i64 0) 1 8 Try.underlying43 hi0 hz0 hz1 hz2 rfl (by decide) _ _ _ rfl hown4 ⟨wo.heap.size, 0, none⟩ 1 1 [.int .i64 (k : Int)] rfl rfl (one_keptE hg4 (fun j u hu => acell (one_newN _ _ (wo.heap.size) rfl j u hu) (.cells #[] 3)) (show Value.ownBlock (.slice (some ⟨wo.heap.size + 1, 0, none⟩) 0 0) ≠ some wo.heap.size by simp [Value.ownBlock])) (by intro u hu; simp at hu; subst hu; rfl) (by unfold maxLen; omega) (by omega) hHc.size ?_
                  intro v2 w2 hown7 hg7 _
                  refine hK.out _ _ ?_ (fun hH7 => ?_)
                  · exact hHc.grown hg7 hHc.size (fun g hg => (hown4.lt g hg).1)
                  clear hK K
                  try simp only [Act.put, List.setIfInBounds_toArray, List.set_cons_zero, List.set_cons_succ]
                  refine wpAnyH_ready (rs := [11]) (by kernel_rfl) (by simp) ?_
                  refine AllReadyH.cons (by simp only [List.getElem?_toArray, List.getElem?_cons_succ, List.getElem?_cons_zero]; rfl) (fun K hK => ?_) AllReadyH.nil
                  rw [if_pos (by rfl)]
                  refine wp_append_own _ _ _ 43 rfl wo.heap.size 3 i0 (.int .i64 0) 1 8 Try.underlying43 hi0 hz0 hz1 hz2 rfl (by decide) _ _ _ rfl hown7 ⟨og, 0, none⟩ (R.length - (j + 1)) _ ((ints R).drop ((j + 1))) rfl (by simp [ints]) (HN2.out _ hH7) (fun u hu => ints_oneE R u (List.mem_of_mem_drop hu)) (by unfold maxLen; omega) (by omega) hH7.size ?_
                  intro v3 w3 hown11 hg11 _
                  refine hK.out _ _ ?_ (fun hH11 => ?_)
                  · exact hH7.grown hg11 hH7.size (fun g hg => (hown7.lt g hg).1)
                  clear hK K
                  try simp only [Act.put, List.setIfInBounds_toArray, List.set_cons_zero, List.set_cons_succ]
                  refine wpAnyH_take (i := 12) (v := ?_) (by simp only [List.getElem?_toArray, List.getElem?_cons_succ, List.getElem?_cons_zero]; rfl) (by kernel_rfl) (by kernel_rfl) (by kernel_rfl) (by exact fun _ _ _ h => h) (Or.inl ⟨by rfl, ?_⟩) (by assumption) ?_
                  rotate_left
                  · intro w' hSw; (try dsimp only at hSw); go_simp; try with_reducible rfl
                  try simp only [Act.put, List.setIfInBounds_toArray, List.set_cons_zero, List.set_cons_succ]
                  refine wpAnyH_done (by kernel_rfl) ?_ _
                  have HR3 : Hid (w3.ownsRow (w.heap.size + 1) 3 1 v3 (trS t xl (k + 1)).length (ints (trS t xl (k + 1)))) := by
                    show w3.ownsRow _ _ _ _ _ _
                    rw [HIns.out]
                    rw [show (R.take (j + 1) ++ ([(k : Int)] ++ R.drop (j + 1))).length = 0 + (j + 1) + 1 + (R.length - (j + 1)) by simp; omega, show ints (R.take (j + 1) ++ ([(k : Int)] ++ R.drop (j + 1))) = [] ++ (ints R).take (j + 1) ++ [.int .i64 (k : Int)] ++ (ints R).drop (j + 1) by simp [ints]]
                    exact own_base hown11 (by omega)
                  have HV3 := Lib.hid (own_someE hown11 (by omega))
                  have HH := Lib.hid hH11
                  clear hown11 hg11 hown7 hg7
                  have HB3 : Hid (Below w.heap.size w w3 ∧ w.heap.size < w3.heap.size) := ⟨HB.out.1.trans (HH.out.mono (by omega)), by have := HH.out.size; omega⟩
                  have z2 : w3.cell? ⟨w.heap.size, 2, none⟩ = some (.slice (some ⟨g, go, none⟩) t.trips.length d) := bkeep HH.out p2
                  clear HB
                  go_wp2_with fail
                  exact ⟨⟨k + 1, by omega, by go_num, ⟨HV3.out, HR3.out⟩, z2, HB3⟩, by simp [RowKit.intOf]; omega⟩
              · have hcm2 : ¬ ((oc : Int) = ((j : Int) + 1 : Int)) := by omega
                have HN2 := HN2'
                refine wp_region_held_drew (S := fun w' => Below wo.heap.size wo w') (by kernel_rfl) ?_ (fun hHeld => ?_)
                · exact (((Dr.refl wo).step _).step _).below.drew
                refine wpAnyH_take (i := 1) (v := ?_) (by simp only [List.getElem?_toArray, List.getElem?_cons_succ, List.getElem?_cons_zero]; rfl) (by kernel_rfl) (by kernel_rfl) (by kernel_rfl) (by exact fun _ _ _ h => h) (Or.inl ⟨by rfl, ?_⟩) (by assumption) ?_
                rotate_left
                · intro w' hSw; (try dsimp only at hSw); go_simp; try with_reducible rfl
                try simp only [Act.put, List.setIfInBounds_toArray, List.set_cons_zero, List.set_cons_succ]
                refine wpAnyH_take (i := 2) (v := ?_) (by simp only [List.getElem?_toArray, List.getElem?_cons_succ, List.getElem?_cons_zero]; rfl) (by kernel_rfl) (by kernel_rfl) (by kernel_rfl) (by exact fun _ _ _ h => h) (Or.inl ⟨by rfl, ?_⟩) (by assumption) ?_
                rotate_left
                · intro w' hSw; (try dsimp only at hSw); go_simp; try with_reducible rfl
                try simp only [Act.put, List.setIfInBounds_toArray, List.set_cons_zero, List.set_cons_succ]
                refine wpAnyH_take (i := 3) (v := ?_) (by simp only [List.getElem?_toArray, List.getElem?_cons_succ, List.getElem?_cons_zero]; rfl) (by kernel_rfl) (by kernel_rfl) (by kernel_rfl) (by exact fun _ _ _ h => h) (Or.inl ⟨by rfl, ?_⟩) (by assumption) ?_
                rotate_left
                · intro w' hSw; (try dsimp only at hSw); go_simp; try with_reducible rfl
                try simp only [Act.put, List.setIfInBounds_toArray, List.set_cons_zero, List.set_cons_succ]
                refine wpAnyH_take (i := 5) (v := ?_) (by simp only [List.getElem?_toArray, List.getElem?_cons_succ, List.getElem?_cons_zero]; rfl) (by kernel_rfl) (by kernel_rfl) (by kernel_rfl) (by exact fun _ _ _ h => h) (Or.inl ⟨by rfl, ?_⟩) (by assumption) ?_
                rotate_left
                · intro w' hSw; (try dsimp only at hSw); go_simp; try with_reducible rfl
                try simp only [Act.put, List.setIfInBounds_toArray, List.set_cons_zero, List.set_cons_succ]
                refine wpAnyH_take (i := 8) (v := ?_) (by simp only [List.getElem?_toArray, List.getElem?_cons_succ, List.getElem?_cons_zero]; rfl) (by kernel_rfl) (by kernel_rfl) (by kernel_rfl) (by exact fun _ _ _ h => h) (Or.inl ⟨by rfl, ?_⟩) (by assumption) ?_
                rotate_left
                · intro w' hSw; (try dsimp only at hSw); go_simp; try with_reducible rfl
                try simp only [Act.put, List.setIfInBounds_toArray, List.set_cons_zero, List.set_cons_succ]
                refine wpAnyH_take (i := 9) (v := ?_) (by simp only [List.getElem?_toArray, List.getElem?_cons_succ, List.getElem?_cons_zero]; rfl) (by kernel_rfl) (by kernel_rfl) (by kernel_rfl) (by exact fun _ _ _ h => h) (Or.inl ⟨by rfl, ?_⟩) (by assumption) ?_
                rotate_left
                · intro w' hSw; (try dsimp only at hSw); go_simp; try with_reducible rfl
                try simp only [Act.put, List.setIfInBounds_toArray, List.set_cons_zero, List.set_cons_succ]
                refine wpAnyH_take (i := 10) (v := ?_) (by simp only [List.getElem?_toArray, List.getElem?_cons_succ, List.getElem?_cons_zero]; rfl) (by kernel_rfl) (by kernel_rfl) (by kernel_rfl) (by exact fun _ _ _ h => h) (Or.inl ⟨by rfl, ?_⟩) (by assumption) ?_
                rotate_left
                · intro w' hSw; (try dsimp only at hSw); go_simp; try with_reducible rfl
                try simp only [Act.put, List.setIfInBounds_toArray, List.set_cons_zero, List.set_cons_succ]
                refine wpAnyH_ready (rs := [0, 6]) (by kernel_rfl) (by simp) ?_
                refine AllReadyH.cons (by simp only [List.getElem?_toArray, List.getElem?_cons_zero]; rfl) (fun K hK => ?_) (AllReadyH.cons (by simp only [List.getElem?_toArray, List.getElem?_cons_succ, List.getElem?_cons_zero]; rfl) (fun K hK => ?_) AllReadyH.nil)
                · go_simp
                  refine hK.out _ _ ?_ (fun hH0 => ?_)
                  · first | exact hHeld.alloc hHeld.size _ | exact ((Dr.refl wo).step _).below.alloc (Nat.le_refl _) _
                  clear hK K
                  try simp only [Act.put, List.setIfInBounds_toArray, List.set_cons_zero, List.set_cons_succ]
                  refine wpAnyH_ready (rs := [4, 6]) (by kernel_rfl) (by simp) ?_
                  refine AllReadyH.cons (by simp only [List.getElem?_toArray, List.getElem?_cons_succ, List.getElem?_cons_zero]; rfl) (fun K hK => ?_) (AllReadyH.cons (by simp only [List.getElem?_toArray, List.getElem?_cons_succ, List.getElem?_cons_zero]; rfl) (fun K hK => ?_) AllReadyH.nil)
                  · rw [if_pos (by rfl)]
                    refine wp_append_own _ _ _ 43 rfl wo.heap.size 3 i0 (.int .i64 0) 1 8 Try.underlying43 hi0 hz0 hz1 hz2 rfl (by decide) _ _ _ rfl (litE0 wo.heap.size (_) _ (by simp) (by simp)) ⟨og, 0, none⟩ (j + 1) _ ((ints R).take ((j + 1))) rfl (by simp [ints] <;> omega) (HN1.out _ hH0) (fun u hu => ints_oneE R u (List.mem_of_mem_take hu)) (by unfold maxLen; omega) (by omega) hH0.size ?_
                    intro v1 w1 hown4 hg4 _
                    refine hK.out _ _ ?_ (fun hH4 => ?_)
                    · exact hH0.grown hg4 hH0.size (fun g hg => by cases hg; simp)
                    clear hK K
                    try simp only [Act.put, List.setIfInBounds_toArray, List.set_cons_zero, List.set_cons_succ]
                    refine wpAnyH_ready (rs := [6]) (by kernel_rfl) (by simp) ?_
                    refine AllReadyH.cons (by simp only [List.getElem?_toArray, List.getElem?_cons_succ, List.getElem?_cons_zero]; rfl) (fun K hK => ?_) AllReadyH.nil
                    go_simp
                    refine hK.out _ _ ?_ (fun hHc => ?_)
                    · exact hH4.alloc hH4.size _
                    clear hK K
                    try simp only [Act.put, List.setIfInBounds_toArray, List.set_cons_zero, List.set_cons_succ]
                    refine wpAnyH_ready (rs := [7]) (by kernel_rfl) (by simp) ?_
                    refine AllReadyH.cons (by simp only [List.getElem?_toArray, List.getElem?_cons_succ, List.getElem?_cons_zero]; rfl) (fun K hK => ?_) AllReadyH.nil
                    rw [if_pos (by rfl)]
                    refine wp_append_own _ _ _ 43 rfl wo.heap.size 3 i0 (.int .i64 0) 1 8 Try.underlying43 hi0 hz0 hz1 hz2 rfl (by decide) _ _ _ rfl (hown4.alloc _) ⟨w1.heap.size, 0, none⟩ 1 1 [.int .i64 (k : Int)] rfl rfl (one_newN w1 _ _ rfl) (by intro u hu; simp at hu; subst hu; rfl) (by unfold maxLen; omega) (by omega) hHc.size ?_
                    intro v2 w2 hown7 hg7 _
                    refine hK.out _ _ ?_ (fun hH7 => ?_)
                    · exact hHc.grown hg7 hHc.size (fun g hg => (hown4.lt g hg).1)
                    clear hK K
                    try simp only [Act.put, List.setIfInBounds_toArray, List.set_cons_zero, List.set_cons_succ]
                    refine wpAnyH_ready (rs := [11]) (by kernel_rfl) (by simp) ?_
                    refine AllReadyH.cons (by simp only [List.getElem?_toArray, List.getElem?_cons_succ, List.getElem?_cons_zero]; rfl) (fun K hK => ?_) AllReadyH.nil
                    rw [if_pos (by rfl)]
                    refine wp_append_own _ _ _ 43 rfl wo.heap.size 3 i0 (.int .i64 0) 1 8 Try.underlying43 hi0 hz0 hz1 hz2 rfl (by decide) _ _ _ rfl hown7 ⟨og, j + 1, none⟩ (R.length - (j + 1)) _ ((ints R).drop ((j + 1))) rfl (by simp [ints]) (HN2.out _ hH7) (fun u hu => ints_oneE R u (List.mem_of_mem_drop hu)) (by unfold maxLen; omega) (by omega) hH7.size ?_
                    intro v3 w3 hown11 hg11 _
                    refine hK.out _ _ ?_ (fun hH11 => ?_)
                    · exact hH7.grown hg11 hH7.size (fun g hg => (hown7.lt g hg).1)
                    clear hK K
                    try simp only [Act.put, List.setIfInBounds_toArray, List.set_cons_zero, List.set_cons_succ]
                    refine wpAnyH_take (i := 12) (v := ?_) (by simp only [List.getElem?_toArray, List.getElem?_cons_succ, List.getElem?_cons_zero]; rfl) (by kernel_rfl) (by kernel_rfl) (by kernel_rfl) (by exact fun _ _ _ h => h) (Or.inl ⟨by rfl, ?_⟩) (by assumption) ?_
                    rotate_left
                    · intro w' hSw; (try dsimp only at hSw); go_simp; try with_reducible rfl
                    try simp only [Act.put, List.setIfInBounds_toArray, List.set_cons_zero, List.set_cons_succ]
                    refine wpAnyH_done (by kernel_rfl) ?_ _
                    have HR3 : Hid (w3.ownsRow (w.heap.size + 1) 3 1 v3 (trS t xl (k + 1)).length (ints (trS t xl (k + 1)))) := by
                      show w3.ownsRow _ _ _ _ _ _
                      rw [HIns.out]
                      rw [show (R.take (j + 1) ++ ([(k : Int)] ++ R.drop (j + 1))).length = 0 + (j + 1) + 1 + (R.length - (j + 1)) by simp; omega, show ints (R.take (j + 1) ++ ([(k : Int)] ++ R.drop (j + 1))) = [] ++ (ints R).take (j + 1) ++ [.int .i64 (k : Int)] ++ (ints R).drop (j + 1) by simp [ints]]
                      exact own_base hown11 (by omega)
                    have HV3 := Lib.hid (own_someE hown11 (by omega))
                    have HH := Lib.hid hH11
                    clear hown11 hg11 hown7 hg7
                    have HB3 : Hid (Below w.heap.size w w3 ∧ w.heap.size < w3.heap.size) := ⟨HB.out.1.trans (HH.out.mono (by omega)), by have := HH.out.size; omega⟩
                    have z2 : w3.cell? ⟨w.heap.size, 2, none⟩ = some (.slice (some ⟨g, go, none⟩) t.trips.length d) := bkeep HH.out p2
                    clear HB
                    go_wp2_with fail
                    exact ⟨⟨k + 1, by omega, by go_num, ⟨HV3.out, HR3.out⟩, z2, HB3⟩, by simp [RowKit.intOf]; omega⟩
                  · go_simp
                    refine hK.out _ _ ?_ (fun hH6 => ?_)
                    · exact hH0.alloc hH0.size _
                    clear hK K
                    try simp only [Act.put, List.setIfInBounds_toArray, List.set_cons_zero, List.set_cons_succ]
                    refine wpAnyH_ready (rs := [4]) (by kernel_rfl) (by simp) ?_
                    refine AllReadyH.cons (by simp only [List.getElem?_toArray, List.getElem?_cons_succ, List.getElem?_cons_zero]; rfl) (fun K hK => ?_) AllReadyH.nil
                    rw [if_pos (by rfl)]
                    refine wp_append_own _ _ _ 43 rfl wo.heap.size 3 i0 (.int .i64 0) 1 8 Try.underlying43 hi0 hz0 hz1 hz2 rfl (by decide) _ _ _ rfl (((litE0 wo.heap.size (_) _ (by simp) (by simp))).alloc _) ⟨og, 0, none⟩ (j + 1) _ ((ints R).take ((j + 1))) rfl (by simp [ints] <;> omega) (HN1.out _ hH6) (fun u hu => ints_oneE R u (List.mem_of_mem_take hu)) (by unfold maxLen; omega) (by omega) hH6.size ?_
                    intro v1 w1 hown4 hg4 _
                    refine hK.out _ _ ?_ (fun hH4 => ?_)
                    · exact hH6.grown hg4 hH6.size (fun g hg => by cases hg; simp)
                    clear hK K
                    try simp only [Act.put, List.setIfInBounds_toArray, List.set_cons_zero, List.set_cons_succ]
                    have hHc := hH4
                    refine wpAnyH_ready (rs := [7]) (by kernel_rfl) (by simp) ?_
                    refine AllReadyH.cons (by simp only [List.getElem?_toArray, List.getElem?_cons_succ, List.getElem?_cons_zero]; rfl) (fun K hK => ?_) AllReadyH.nil
                    rw [if_pos (by rfl)]
                    refine wp_append_own _ _ _ 43 rfl wo.heap.size 3 i0 (.int .i64 0) 1 8 Try.underlying43 hi0 hz0 hz1 hz2 rfl (by decide) _ _ _ rfl hown4 ⟨wo.heap.size + 1, 0, none⟩ 1 1 [.int .i64 (k : Int)] rfl rfl (one_keptE hg4 (one_newN _ _ (wo.heap.size + 1) (by simp)) (show Value.ownBlock (.slice (some ⟨wo.heap.size, 0, none⟩) 0 0) ≠ some (wo.heap.size + 1) by simp [Value.ownBlock])) (by intro u hu; simp at hu; subst hu; rfl) (by unfold maxLen; omega) (by omega) hHc.size ?_
                    intro v2 w2 hown7 hg7 _
                    refine hK.out _ _ ?_ (fun hH7 => ?_)
                    · exact hHc.grown hg7 hHc.size (fun g hg => (hown4.lt g hg).1)
                    clear hK K
                    try simp only [Act.put, List.setIfInBounds_toArray, List.set_cons_zero, List.set_cons_succ]
                    refine wpAnyH_ready (rs := [11]) (by kernel_rfl) (by simp) ?_
                    refine AllReadyH.cons (by simp only [List.getElem?_toArray, List.getElem?_cons_succ, List.getElem?_cons_zero]; rfl) (fun K hK => ?_) AllReadyH.nil
                    rw [if_pos (by rfl)]
                    refine wp_append_own _ _ _ 43 rfl wo.heap.size 3 i0 (.int .i64 0) 1 8 Try.underlying43 hi0 hz0 hz1 hz2 rfl (by decide) _ _ _ rfl hown7 ⟨og, j + 1, none⟩ (R.length - (j + 1)) _ ((ints R).drop ((j + 1))) rfl (by simp [ints]) (HN2.out _ hH7) (fun u hu => ints_oneE R u (List.mem_of_mem_drop hu)) (by unfold maxLen; omega) (by omega) hH7.size ?_
                    intro v3 w3 hown11 hg11 _
                    refine hK.out _ _ ?_ (fun hH11 => ?_)
                    · exact hH7.grown hg11 hH7.size (fun g hg => (hown7.lt g hg).1)
                    clear hK K
                    try simp only [Act.put, List.setIfInBounds_toArray, List.set_cons_zero, List.set_cons_succ]
                    refine wpAnyH_take (i := 12) (v := ?_) (by simp only [List.getElem?_toArray, List.getElem?_cons_succ, List.getElem?_cons_zero]; rfl) (by kernel_rfl) (by kernel_rfl) (by kernel_rfl) (by exact fun _ _ _ h => h) (Or.inl ⟨by rfl, ?_⟩) (by assumption) ?_
                    rotate_left
                    · intro w' hSw; (try dsimp only at hSw); go_simp; try with_reducible rfl
                    try simp only [Act.put, List.setIfInBounds_toArray, List.set_cons_zero, List.set_cons_succ]
                    refine wpAnyH_done (by kernel_rfl) ?_ _
                    have HR3 : Hid (w3.ownsRow (w.heap.size + 1) 3 1 v3 (trS t xl (k + 1)).length (ints (trS t xl (k + 1)))) := by
                      show w3.ownsRow _ _ _ _ _ _
                      rw [HIns.out]
                      rw [show (R.take (j + 1) ++ ([(k : Int)] ++ R.drop (j + 1))).length = 0 + (j + 1) + 1 + (R.length - (j + 1)) by simp; omega, show ints (R.take (j + 1) ++ ([(k : Int)] ++ R.drop (j + 1))) = [] ++ (ints R).take (j + 1) ++ [.int .i64 (k : Int)] ++ (ints R).drop (j + 1) by simp [ints]]
                      exact own_base hown11 (by omega)
                    have HV3 := Lib.hid (own_someE hown11 (by omega))
                    have HH := Lib.hid hH11
                    clear hown11 hg11 hown7 hg7
                    have HB3 : Hid (Below w.heap.size w w3 ∧ w.heap.size < w3.heap.size) := ⟨HB.out.1.trans (HH.out.mono (by omega)), by have := HH.out.size; omega⟩
                    have z2 : w3.cell? ⟨w.heap.size, 2, none⟩ = some (.slice (some ⟨g, go, none⟩) t.trips.length d) := bkeep HH.out p2
                    clear HB
                    go_wp2_with fail
                    exact ⟨⟨k + 1, by omega, by go_num, ⟨HV3.out, HR3.out⟩, z2, HB3⟩, by simp [RowKit.intOf]; omega⟩
                · go_simp
                  refine hK.out _ _ ?_ (fun hH6 => ?_)
                  · first | exact hHeld.alloc hHeld.size _ | exact ((Dr.refl wo).step _).below.alloc (Nat.le_refl _) _
                  clear hK K
                  try simp only [Act.put, List.setIfInBounds_toArray, List.set_cons_zero, List.set_cons_succ]
                  refine wpAnyH_ready (rs := [0]) (by kernel_rfl) (by simp) ?_
                  refine AllReadyH.cons (by simp only [List.getElem?_toArray, List.getElem?_cons_zero]; rfl) (fun K hK => ?_) AllReadyH.nil
                  go_simp
                  refine hK.out _ _ ?_ (fun hH0 => ?_)
                  · exact hH6.alloc hH6.size _
                  clear hK K
                  try simp only [Act.put, List.setIfInBounds_toArray, List.set_cons_zero, List.set_cons_succ]
                  refine wpAnyH_ready (rs := [4]) (by kernel_rfl) (by simp) ?_
                  refine AllReadyH.cons (by simp only [List.getElem?_toArray, List.getElem?_cons_succ, List.getElem?_cons_zero]; rfl) (fun K hK => ?_) AllReadyH.nil
                  rw [if_pos (by rfl)]
                  refine wp_append_own _ _ _ 43 rfl wo.heap.size 3 i0 (.int .i64 0) 1 8 Try.underlying43 hi0 hz0 hz1 hz2 rfl (by decide) _ _ _ rfl (litE0 wo.heap.size (_) _ (by simp) (by simp)) ⟨og, 0, none⟩ (j + 1) _ ((ints R).take ((j + 1))) rfl (by simp [ints] <;> omega) (HN1.out _ hH0) (fun u hu => ints_oneE R u (List.mem_of_mem_take hu)) (by unfold maxLen; omega) (by omega) hH0.size ?_
                  intro v1 w1 hown4 hg4 _
                  refine hK.out _ _ ?_ (fun hH4 => ?_)
                  · exact hH0.grown hg4 hH0.size (fun g hg => by cases hg; simp)
                  clear hK K
                  try simp only [Act.put, List.setIfInBounds_toArray, List.set_cons_zero, List.set_cons_succ]
                  have hHc := hH4
                  refine wpAnyH_ready (rs := [7]) (by kernel_rfl) (by simp) ?_
                  refine AllReadyH.cons (by simp only [List.getElem?_toArray, List.getElem?_cons_succ, List.getElem?_cons_zero]; rfl) (fun K hK => ?_) AllReadyH.nil
                  rw [if_pos (by rfl)]
                  refine wp_append_own _ _ _ 43 rfl wo.heap.size 3 i0 (.int .i64 0) 1 8 Try.underlying43 hi0 hz0 hz1 hz2 rfl (by decide) _ _ _ rfl hown4 ⟨wo.heap.size, 0, none⟩ 1 1 [.int .i64 (k : Int)] rfl rfl (one_keptE hg4 (fun j u hu => acell (one_newN _ _ (wo.heap.size) rfl j u hu) (.cells #[] 3)) (show Value.ownBlock (.slice (some ⟨wo.heap.size + 1, 0, none⟩) 0 0) ≠ some wo.heap.size by simp [Value.ownBlock])) (by intro u hu; simp at hu; subst hu; rfl) (by unfold maxLen; omega) (by omega) hHc.size ?_
                  intro v2 w2 hown7 hg7 _
                  refine hK.out _ _ ?_ (fun hH7 => ?_)
                  · exact hHc.grown hg7 hHc.size (fun g hg => (hown4.lt g hg).1)
                  clear hK K
                  try simp only [Act.put, List.setIfInBounds_toArray, List.set_cons_zero, List.set_cons_succ]
                  refine wpAnyH_ready (rs := [11]) (by kernel_rfl) (by simp) ?_
                  refine AllReadyH.cons (by simp only [List.getElem?_toArray, List.getElem?_cons_succ, List.getElem?_cons_zero]; rfl) (fun K hK => ?_) AllReadyH.nil
                  rw [if_pos (by rfl)]
                  refine wp_append_own _ _ _ 43 rfl wo.heap.size 3 i0 (.int .i64 0) 1 8 Try.underlying43 hi0 hz0 hz1 hz2 rfl (by decide) _ _ _ rfl hown7 ⟨og, j + 1, none⟩ (R.length - (j + 1)) _ ((ints R).drop ((j + 1))) rfl (by simp [ints]) (HN2.out _ hH7) (fun u hu => ints_oneE R u (List.mem_of_mem_drop hu)) (by unfold maxLen; omega) (by omega) hH7.size ?_
                  intro v3 w3 hown11 hg11 _
                  refine hK.out _ _ ?_ (fun hH11 => ?_)
                  · exact hH7.grown hg11 hH7.size (fun g hg => (hown7.lt g hg).1)
                  clear hK K
                  try simp only [Act.put, List.setIfInBounds_toArray, List.set_cons_zero, List.set_cons_succ]
                  refine wpAnyH_take (i := 12) (v := ?_) (by simp only [List.getElem?_toArray, List.getElem?_cons_succ, List.getElem?_cons_zero]; rfl) (by kernel_rfl) (by kernel_rfl) (by kernel_rfl) (by exact fun _ _ _ h => h) (Or.inl ⟨by rfl, ?_⟩) (by assumption) ?_
                  rotate_left
                  · intro w' hSw; (try dsimp only at hSw); go_simp; try with_reducible rfl
                  try simp only [Act.put, List.setIfInBounds_toArray, List.set_cons_zero, List.set_cons_succ]
                  refine wpAnyH_done (by kernel_rfl) ?_ _
                  have HR3 : Hid (w3.ownsRow (w.heap.size + 1) 3 1 v3 (trS t xl (k + 1)).length (ints (trS t xl (k + 1)))) := by
                    show w3.ownsRow _ _ _ _ _ _
                    rw [HIns.out]
                    rw [show (R.take (j + 1) ++ ([(k : Int)] ++ R.drop (j + 1))).length = 0 + (j + 1) + 1 + (R.length - (j + 1)) by simp; omega, show ints (R.take (j + 1) ++ ([(k : Int)] ++ R.drop (j + 1))) = [] ++ (ints R).take (j + 1) ++ [.int .i64 (k : Int)] ++ (ints R).drop (j + 1) by simp [ints]]
                    exact own_base hown11 (by omega)
                  have HV3 := Lib.hid (own_someE hown11 (by omega))
                  have HH := Lib.hid hH11
                  clear hown11 hg11 hown7 hg7
                  have HB3 : Hid (Below w.heap.size w w3 ∧ w.heap.size < w3.heap.size) := ⟨HB.out.1.trans (HH.out.mono (by omega)), by have := HH.out.size; omega⟩
                  have z2 : w3.cell? ⟨w.heap.size, 2, none⟩ = some (.slice (some ⟨g, go, none⟩) t.trips.length d) := bkeep HH.out p2
                  clear HB
                  go_wp2_with fail
                  exact ⟨⟨k + 1, by omega, by go_num, ⟨HV3.out, HR3.out⟩, z2, HB3⟩, by simp [RowKit.intOf]; omega⟩
          · obtain rfl : m = 0 := by omega
            have HIns : Hid (trS t xl (k + 1) = R.take 0 ++ ([(k : Int)] ++ R.drop 0)) := HIn.out 0 (by omega) (fun i hi h => by omega) (fun h => HGt.out 0 h (Nat.le_refl _))
            have e1 : decide ((0 : Int) < ((0 : Nat) : Int)) = false := by simp
            clear HGt
            go_wp2_with fail
            go_quiet (fail)
            go_wp2_with fail
            have HN1 : Hid (∀ W, Below wo.heap.size wo W → ∀ i u, ((ints R).take (0))[i]? = some u → W.cell? ((⟨og, 0, none⟩ : Addr).add i) = some u) := fun W h i u hu => by
              rw [addr_add, Nat.zero_add]
              refine bkeep h (HCell.out i u ?_)
              rw [List.getElem?_take] at hu
              split at hu
              · exact hu
              · cases hu
            have HN2' : Hid (∀ W, Below wo.heap.size wo W → ∀ i u, ((ints R).drop (0))[i]? = some u → W.cell? ((⟨og, 0, none⟩ : Addr).add i) = some u) := fun W h i u hu => by
              rw [addr_add]
              rw [List.getElem?_drop] at hu
              exact bkeep h (HCell.out _ u hu)
            have hmo : (((0 : Nat) : Int) : Int) ≤ (oc : Int) := by omega
            have hml : (((0 : Nat) : Int) : Int) ≤ (R.length : Int) := by omega
            have hm0 : (0 : Int) ≤ (((0 : Nat) : Int) : Int) := by omega
            by_cases hcm : oc = 0
            · have HLm : Hid (R.length = 0) := by show _ = _; omega
              have HN2 : Hid (∀ W, Below wo.heap.size wo W → ∀ i u, ((ints R).drop (0))[i]? = some u → W.cell? ((⟨og, 0, none⟩ : Addr).add i) = some u) := fun W h i u hu => by
                rw [List.getElem?_drop, List.getElem?_eq_none (by have := HLm.out; simp [ints]; omega)] at hu; cases hu
              refine wp_region_held_drew (S := fun w' => Below wo.heap.size wo w') (by kernel_rfl) ?_ (fun hHeld => ?_)
              · exact (((Dr.refl wo).step _).step _).below.drew
              refine wpAnyH_take (i := 1) (v := ?_) (by simp only [List.getElem?_toArray, List.getElem?_cons_succ, List.getElem?_cons_zero]; rfl) (by kernel_rfl) (by kernel_rfl) (by kernel_rfl) (by exact fun _ _ _ h => h) (Or.inl ⟨by rfl, ?_⟩) (by assumption) ?_
              rotate_left
              · intro w' hSw; (try dsimp only at hSw); go_simp; try with_reducible rfl
              try simp only [Act.put, List.setIfInBounds_toArray, List.set_cons_zero, List.set_cons_succ]
              refine wpAnyH_take (i := 2) (v := ?_) (by simp only [List.getElem?_toArray, List.getElem?_cons_succ, List.getElem?_cons_zero]; rfl) (by kernel_rfl) (by kernel_rfl) (by kernel_rfl) (by exact fun _ _ _ h => h) (Or.inl ⟨by rfl, ?_⟩) (by assumption) ?_
              rotate_left
              · intro w' hSw; (try dsimp only at hSw); go_simp; try with_reducible rfl
              try simp only [Act.put, List.setIfInBounds_toArray, List.set_cons_zero, List.set_cons_succ]
              refine wpAnyH_take (i := 3) (v := ?_) (by simp only [List.getElem?_toArray, List.getElem?_cons_succ, List.getElem?_cons_zero]; rfl) (by kernel_rfl) (by kernel_rfl) (by kernel_rfl) (by exact fun _ _ _ h => h) (Or.inl ⟨by rfl, ?_⟩) (by assumption) ?_
              rotate_left
              · intro w' hSw; (try dsimp only at hSw); go_simp; try with_reducible rfl
              try simp only [Act.put, List.setIfInBounds_toArray, List.set_cons_zero, List.set_cons_succ]
              refine wpAnyH_take (i := 5) (v := ?_) (by simp only [List.getElem?_toArray, List.getElem?_cons_succ, List.getElem?_cons_zero]; rfl) (by kernel_rfl) (by kernel_rfl) (by kernel_rfl) (by exact fun _ _ _ h => h) (Or.inl ⟨by rfl, ?_⟩) (by assumption) ?_
              rotate_left
              · intro w' hSw; (try dsimp only at hSw); go_simp; try with_reducible rfl
              try simp only [Act.put, List.setIfInBounds_toArray, List.set_cons_zero, List.set_cons_succ]
              refine wpAnyH_take (i := 8) (v := ?_) (by simp only [List.getElem?_toArray, List.getElem?_cons_succ, List.getElem?_cons_zero]; rfl) (by kernel_rfl) (by kernel_rfl) (by kernel_rfl) (by exact fun _ _ _ h => h) (Or.inl ⟨by rfl, ?_⟩) (by assumption) ?_
              rotate_left
              · intro w' hSw; (try dsimp only at hSw); go_simp; try with_reducible rfl
              try simp only [Act.put, List.setIfInBounds_toArray, List.set_cons_zero, List.set_cons_succ]
              refine wpAnyH_take (i := 9) (v := ?_) (by simp only [List.getElem?_toArray, List.getElem?_cons_succ, List.getElem?_cons_zero]; rfl) (by kernel_rfl) (by kernel_rfl) (by kernel_rfl) (by exact fun _ _ _ h => h) (Or.inl ⟨by rfl, ?_⟩) (by assumption) ?_
              rotate_left
              · intro w' hSw; (try dsimp only at hSw); go_simp; try with_reducible rfl
              try simp only [Act.put, List.setIfInBounds_toArray, List.set_cons_zero, List.set_cons_succ]
              refine wpAnyH_take (i := 10) (v := ?_) (by simp only [List.getElem?_toArray, List.getElem?_cons_succ, List.getElem?_cons_zero]; rfl) (by kernel_rfl) (by kernel_rfl) (by kernel_rfl) (by exact fun _ _ _ h => h) (Or.inl ⟨by rfl, ?_⟩) (by assumption) ?_
              rotate_left
              · intro w' hSw; (try dsimp only at hSw); go_simp; try with_reducible rfl
              try simp only [Act.put, List.setIfInBounds_toArray, List.set_cons_zero, List.set_cons_succ]
              refine wpAnyH_ready (rs := [0, 6]) (by kernel_rfl) (by simp) ?_
              refine AllReadyH.cons (by simp only [List.getElem?_toArray, List.getElem?_cons_zero]; rfl) (fun K hK => ?_) (AllReadyH.cons (by simp only [List.getElem?_toArray, List.getElem?_cons_succ, List.getElem?_cons_zero]; rfl) (fun K hK => ?_) AllReadyH.nil)
              · go_simp
                refine hK.out _ _ ?_ (fun hH0 => ?_)
                · first | exact hHeld.alloc hHeld.size _ | exact ((Dr.refl wo).step _).below.alloc (Nat.le_refl _) _
                clear hK K
                try simp only [Act.put, List.setIfInBounds_toArray, List.set_cons_zero, List.set_cons_succ]
                refine wpAnyH_ready (rs := [4, 6]) (by kernel_rfl) (by simp) ?_
                refine AllReadyH.cons (by simp only [List.getElem?_toArray, List.getElem?_cons_succ, List.getElem?_cons_zero]; rfl) (fun K hK => ?_) (AllReadyH.cons (by simp only [List.getElem?_toArray, List.getElem?_cons_succ, List.getElem?_cons_zero]; rfl) (fun K hK => ?_) AllReadyH.nil)
                · rw [if_pos (by rfl)]
                  refine wp_append_own _ _ _ 43 rfl wo.heap.size 3 i0 (.int .i64 0) 1 8 Try.underlying43 hi0 hz0 hz1 hz2 rfl (by decide) _ _ _ rfl (litE0 wo.heap.size (_) _ (by simp) (by simp)) ⟨og, 0, none⟩ 0 _ ((ints R).take (0)) rfl (by simp [ints] <;> omega) (HN1.out _ hH0) (fun u hu => ints_oneE R u (List.mem_of_mem_take hu)) (by unfold maxLen; omega) (by omega) hH0.size ?_
                  intro v1 w1 hown4 hg4 _
                  refine hK.out _ _ ?_ (fun hH4 => ?_)
                  · exact hH0.grown hg4 hH0.size (fun g hg => by cases hg; simp)
                  clear hK K
                  try simp only [Act.put, List.setIfInBounds_toArray, List.set_cons_zero, List.set_cons_succ]
                  refine wpAnyH_ready (rs := [6]) (by kernel_rfl) (by simp) ?_
                  refine AllReadyH.cons (by simp only [List.getElem?_toArray, List.getElem?_cons_succ, List.getElem?_cons_zero]; rfl) (fun K hK => ?_) AllReadyH.nil
                  go_simp
                  refine hK.out _ _ ?_ (fun hHc => ?_)
                  · exact hH4.alloc hH4.size _
                  clear hK K
                  try simp only [Act.put, List.setIfInBounds_toArray, List.set_cons_zero, List.set_cons_succ]
                  refine wpAnyH_ready (rs := [7]) (by kernel_rfl) (by simp) ?_
                  refine AllReadyH.cons (by simp only [List.getElem?_toArray, List.getElem?_cons_succ, List.getElem?_cons_zero]; rfl) (fun K hK => ?_) AllReadyH.nil
                  rw [if_pos (by rfl)]
                  refine wp_append_own _ _ _ 43 rfl wo.heap.size 3 i0 (.int .i64 0) 1 8 Try.underlying43 hi0 hz0 hz1 hz2 rfl (by decide) _ _ _ rfl (hown4.alloc _) ⟨w1.heap.size, 0, none⟩ 1 1 [.int .i64 (k : Int)] rfl rfl (one_newN w1 _ _ rfl) (by intro u hu; simp at hu; subst hu; rfl) (by unfold maxLen; omega) (by omega) hHc.size ?_
                  intro v2 w2 hown7 hg7 _
                  refine hK.out _ _ ?_ (fun hH7 => ?_)
                  · exact hHc.grown hg7 hHc.size (fun g hg => (hown4.lt g hg).1)
                  clear hK K
                  try simp only [Act.put, List.setIfInBounds_toArray, List.set_cons_zero, List.set_cons_succ]
                  refine wpAnyH_ready (rs := [11]) (by kernel_rfl) (by simp) ?_
                  refine AllReadyH.cons (by simp only [List.getElem?_toArray, List.getElem?_cons_succ, List.getElem?_cons_zero]; rfl) (fun K hK => ?_) AllReadyH.nil
                  rw [if_pos (by rfl)]
                  refine wp_append_own _ _ _ 43 rfl wo.heap.size 3 i0 (.int .i64 0) 1 8 Try.underlying43 hi0 hz0 hz1 hz2 rfl (by decide) _ _ _ rfl hown7 ⟨og, 0, none⟩ (R.length - 0) _ ((ints R).drop (0)) rfl (by simp [ints]) (HN2.out _ hH7) (fun u hu => ints_oneE R u (List.mem_of_mem_drop hu)) (by unfold maxLen; omega) (by omega) hH7.size ?_
                  intro v3 w3 hown11 hg11 _
                  refine hK.out _ _ ?_ (fun hH11 => ?_)
                  · exact hH7.grown hg11 hH7.size (fun g hg => (hown7.lt g hg).1)
                  clear hK K
                  try simp only [Act.put, List.setIfInBounds_toArray, List.set_cons_zero, List.set_cons_succ]
                  refine wpAnyH_take (i := 12) (v := ?_) (by simp only [List.getElem?_toArray, List.getElem?_cons_succ, List.getElem?_cons_zero]; rfl) (by kernel_rfl) (by kernel_rfl) (by kernel_rfl) (by exact fun _ _ _ h => h) (Or.inl ⟨by rfl, ?_⟩) (by assumption) ?_
                  rotate_left
                  · intro w' hSw; (try dsimp only at hSw); go_simp; try with_reducible rfl
                  try simp only [Act.put, List.setIfInBounds_toArray, List.set_cons_zero, List.set_cons_succ]
                  refine wpAnyH_done (by kernel_rfl) ?_ _
                  have HR3 : Hid (w3.ownsRow (w.heap.size + 1) 3 1 v3 (trS t xl (k + 1)).length (ints (trS t xl (k + 1)))) := by
                    show w3.ownsRow _ _ _ _ _ _
                    rw [HIns.out]
                    rw [show (R.take (0) ++ ([(k : Int)] ++ R.drop (0))).length = 0 + (0) + 1 + (R.length - (0)) by simp; omega, show ints (R.take (0) ++ ([(k : Int)] ++ R.drop (0))) = [] ++ (ints R).take (0) ++ [.int .i64 (k : Int)] ++ (ints R).drop (0) by simp [ints]]
                    exact own_base hown11 (by omega)
                  have HV3 := Lib.hid (own_someE hown11 (by omega))
                  have HH := Lib.hid hH11
                  clear hown11 hg11 hown7 hg7
                  have HB3 : Hid (Below w.heap.size w w3 ∧ w.heap.size < w3.heap.size) := ⟨HB.out.1.trans (HH.out.mono (by omega)), by have := HH.out.size; omega⟩
                  have z2 : w3.cell? ⟨w.heap.size, 2, none⟩ = some (.slice (some ⟨g, go, none⟩) t.trips.length d) := bkeep HH.out p2
                  clear HB
                  go_wp2_with fail
                  exact ⟨⟨k + 1, by omega, by go_num, ⟨HV3.out, HR3.out⟩, z2, HB3⟩, by simp [RowKit.intOf]; omega⟩
                · go_simp
                  refine hK.out _ _ ?_ (fun hH6 => ?_)
                  · exact hH0.alloc hH0.size _
                  clear hK K
                  try simp only [Act.put, List.setIfInBounds_toArray, List.set_cons_zero, List.set_cons_succ]
                  refine wpAnyH_ready (rs := [4]) (by kernel_rfl) (by simp) ?_
                  refine AllReadyH.cons (by simp only [List.getElem?_toArray, List.getElem?_cons_succ, List.getElem?_cons_zero]; rfl) (fun K hK => ?_) AllReadyH.nil
                  rw [if_pos (by rfl)]
                  refine wp_append_own _ _ _ 43 rfl wo.heap.size 3 i0 (.int .i64 0) 1 8 Try.underlying43 hi0 hz0 hz1 hz2 rfl (by decide) _ _ _ rfl (((litE0 wo.heap.size (_) _ (by simp) (by simp))).alloc _) ⟨og, 0, none⟩ 0 _ ((ints R).take (0)) rfl (by simp [ints] <;> omega) (HN1.out _ hH6) (fun u hu => ints_oneE R u (List.mem_of_mem_take hu)) (by unfold maxLen; omega) (by omega) hH6.size ?_
                  intro v1 w1 hown4 hg4 _
                  refine hK.out _ _ ?_ (fun hH4 => ?_)
                  · exact hH6.grown hg4 hH6.size (fun g hg => by cases hg; simp)
                  clear hK K
                  try simp only [Act.put, List.setIfInBounds_toArray, List.set_cons_zero, List.set_cons_succ]
                  have hHc := hH4
                  refine wpAnyH_ready (rs := [7]) (by kernel_rfl) (by simp) ?_
                  refine AllReadyH.cons (by simp only [List.getElem?_toArray, List.getElem?_cons_succ, List.getElem?_cons_zero]; rfl) (fun K hK => ?_) AllReadyH.nil
                  rw [if_pos (by rfl)]
                  refine wp_append_own _ _ _ 43 rfl wo.heap.size 3 i0 (.int .i64 0) 1 8 Try.underlying43 hi0 hz0 hz1 hz2 rfl (by decide) _ _ _ rfl hown4 ⟨wo.heap.size + 1, 0, none⟩ 1 1 [.int .i64 (k : Int)] rfl rfl (one_keptE hg4 (one_newN _ _ (wo.heap.size + 1) (by simp)) (show Value.ownBlock (.slice (some ⟨wo.heap.size, 0, none⟩) 0 0) ≠ some (wo.heap.size + 1) by simp [Value.ownBlock])) (by intro u hu; simp at hu; subst hu; rfl) (by unfold maxLen; omega) (by omega) hHc.size ?_
                  intro v2 w2 hown7 hg7 _
                  refine hK.out _ _ ?_ (fun hH7 => ?_)
                  · exact hHc.grown hg7 hHc.size (fun g hg => (hown4.lt g hg).1)
                  clear hK K
                  try simp only [Act.put, List.setIfInBounds_toArray, List.set_cons_zero, List.set_cons_succ]
                  refine wpAnyH_ready (rs := [11]) (by kernel_rfl) (by simp) ?_
                  refine AllReadyH.cons (by simp only [List.getElem?_toArray, List.getElem?_cons_succ, List.getElem?_cons_zero]; rfl) (fun K hK => ?_) AllReadyH.nil
                  rw [if_pos (by rfl)]
                  refine wp_append_own _ _ _ 43 rfl wo.heap.size 3 i0 (.int .i64 0) 1 8 Try.underlying43 hi0 hz0 hz1 hz2 rfl (by decide) _ _ _ rfl hown7 ⟨og, 0, none⟩ (R.length - 0) _ ((ints R).drop (0)) rfl (by simp [ints]) (HN2.out _ hH7) (fun u hu => ints_oneE R u (List.mem_of_mem_drop hu)) (by unfold maxLen; omega) (by omega) hH7.size ?_
                  intro v3 w3 hown11 hg11 _
                  refine hK.out _ _ ?_ (fun hH11 => ?_)
                  · exact hH7.grown hg11 hH7.size (fun g hg => (hown7.lt g hg).1)
                  clear hK K
                  try simp only [Act.put, List.setIfInBounds_toArray, List.set_cons_zero, List.set_cons_succ]
                  refine wpAnyH_take (i := 12) (v := ?_) (by simp only [List.getElem?_toArray, List.getElem?_cons_succ, List.getElem?_cons_zero]; rfl) (by kernel_rfl) (by kernel_rfl) (by kernel_rfl) (by exact fun _ _ _ h => h) (Or.inl ⟨by rfl, ?_⟩) (by assumption) ?_
                  rotate_left
                  · intro w' hSw; (try dsimp only at hSw); go_simp; try with_reducible rfl
                  try simp only [Act.put, List.setIfInBounds_toArray, List.set_cons_zero, List.set_cons_succ]
                  refine wpAnyH_done (by kernel_rfl) ?_ _
                  have HR3 : Hid (w3.ownsRow (w.heap.size + 1) 3 1 v3 (trS t xl (k + 1)).length (ints (trS t xl (k + 1)))) := by
                    show w3.ownsRow _ _ _ _ _ _
                    rw [HIns.out]
                    rw [show (R.take (0) ++ ([(k : Int)] ++ R.drop (0))).length = 0 + (0) + 1 + (R.length - (0)) by simp; omega, show ints (R.take (0) ++ ([(k : Int)] ++ R.drop (0))) = [] ++ (ints R).take (0) ++ [.int .i64 (k : Int)] ++ (ints R).drop (0) by simp [ints]]
                    exact own_base hown11 (by omega)
                  have HV3 := Lib.hid (own_someE hown11 (by omega))
                  have HH := Lib.hid hH11
                  clear hown11 hg11 hown7 hg7
                  have HB3 : Hid (Below w.heap.size w w3 ∧ w.heap.size < w3.heap.size) := ⟨HB.out.1.trans (HH.out.mono (by omega)), by have := HH.out.size; omega⟩
                  have z2 : w3.cell? ⟨w.heap.size, 2, none⟩ = some (.slice (some ⟨g, go, none⟩) t.trips.length d) := bkeep HH.out p2
                  clear HB
                  go_wp2_with fail
                  exact ⟨⟨k + 1, by omega, by go_num, ⟨HV3.out, HR3.out⟩, z2, HB3⟩, by simp [RowKit.intOf]; omega⟩
              · go_simp
                refine hK.out _ _ ?_ (fun hH6 => ?_)
                · first | exact hHeld.alloc hHeld.size _ | exact ((Dr.refl wo).step _).below.alloc (Nat.le_refl _) _
                clear hK K
                try simp only [Act.put, List.setIfInBounds_toArray, List.set_cons_zero, List.set_cons_succ]
                refine wpAnyH_ready (rs := [0]) (by kernel_rfl) (by simp) ?_
                refine AllReadyH.cons (by simp only [List.getElem?_toArray, List.getElem?_cons_zero]; rfl) (fun K hK => ?_) AllReadyH.nil
                go_simp
                refine hK.out _ _ ?_ (fun hH0 => ?_)
                · exact hH6.alloc hH6.size _
                clear hK K
                try simp only [Act.put, List.setIfInBounds_toArray, List.set_cons_zero, List.set_cons_succ]
                refine wpAnyH_ready (rs := [4]) (by kernel_rfl) (by simp) ?_
                refine AllReadyH.cons (by simp only [List.getElem?_toArray, List.getElem?_cons_succ, List.getElem?_cons_zero]; rfl) (fun K hK => ?_) AllReadyH.nil
                rw [if_pos (by rfl)]
                refine wp_append_own _ _ _ 43 rfl wo.heap.size 3 i0 (.int .i64 0) 1 8 Try.underlying43 hi0 hz0 hz1 hz2 rfl (by decide) _ _ _ rfl (litE0 wo.heap.size (_) _ (by simp) (by simp)) ⟨og, 0, none⟩ 0 _ ((ints R).take (0)) rfl (by simp [ints] <;> omega) (HN1.out _ hH0) (fun u hu => ints_oneE R u (List.mem_of_mem_take hu)) (by unfold maxLen; omega) (by omega) hH0.size ?_
                intro v1 w1 hown4 hg4 _
                refine hK.out _ _ ?_ (fun hH4 => ?_)
                · exact hH0.grown hg4 hH0.size (fun g hg => by cases hg; simp)
                clear hK K
                try simp only [Act.put, List.setIfInBounds_toArray, List.set_cons_zero, List.set_cons_succ]
                have hHc := hH4
                refine wpAnyH_ready (rs := [7]) (by kernel_rfl) (by simp) ?_
                refine AllReadyH.cons (by simp only [List.getElem?_toArray, List.getElem?_cons_succ, List.getElem?_cons_zero]; rfl) (fun K hK => ?_) AllReadyH.nil
                rw [if_pos (by rfl)]
                refine wp_append_own _ _ _ 43 rfl wo.heap.size 3 i0 (.int .i64 0) 1 8 Try.underlying43 hi0 hz0 hz1 hz2 rfl (by decide) _ _ _ rfl hown4 ⟨wo.heap.size, 0, none⟩ 1 1 [.int .i64 (k : Int)] rfl rfl (one_keptE hg4 (fun j u hu => acell (one_newN _ _ (wo.heap.size) rfl j u hu) (.cells #[] 3)) (show Value.ownBlock (.slice (some ⟨wo.heap.size + 1, 0, none⟩) 0 0) ≠ some wo.heap.size by simp [Value.ownBlock])) (by intro u hu; simp at hu; subst hu; rfl) (by unfold maxLen; omega) (by omega) hHc.size ?_
                intro v2 w2 hown7 hg7 _
                refine hK.out _ _ ?_ (fun hH7 => ?_)
                · exact hHc.grown hg7 hHc.size (fun g hg => (hown4.lt g hg).1)
                clear hK K
                try simp only [Act.put, List.setIfInBounds_toArray, List.set_cons_zero, List.set_cons_succ]
                refine wpAnyH_ready (rs := [11]) (by kernel_rfl) (by simp) ?_
                refine AllReadyH.cons (by simp only [List.getElem?_toArray, List.getElem?_cons_succ, List.getElem?_cons_zero]; rfl) (fun K hK => ?_) AllReadyH.nil
                rw [if_pos (by rfl)]
                refine wp_append_own _ _ _ 43 rfl wo.heap.size 3 i0 (.int .i64 0) 1 8 Try.underlying43 hi0 hz0 hz1 hz2 rfl (by decide) _ _ _ rfl hown7 ⟨og, 0, none⟩ (R.length - 0) _ ((ints R).drop (0)) rfl (by simp [ints]) (HN2.out _ hH7) (fun u hu => ints_oneE R u (List.mem_of_mem_drop hu)) (by unfold maxLen; omega) (by omega) hH7.size ?_
                intro v3 w3 hown11 hg11 _
                refine hK.out _ _ ?_ (fun hH11 => ?_)
                · exact hH7.grown hg11 hH7.size (fun g hg => (hown7.lt g hg).1)
                clear hK K
                try simp only [Act.put, List.setIfInBounds_toArray, List.set_cons_zero, List.set_cons_succ]
                refine wpAnyH_take (i := 12) (v := ?_) (by simp only [List.getElem?_toArray, List.getElem?_cons_succ, List.getElem?_cons_zero]; rfl) (by kernel_rfl) (by kernel_rfl) (by kernel_rfl) (by exact fun _ _ _ h => h) (Or.inl ⟨by rfl, ?_⟩) (by assumption) ?_
                rotate_left
                · intro w' hSw; (try dsimp only at hSw); go_simp; try with_reducible rfl
                try simp only [Act.put, List.setIfInBounds_toArray, List.set_cons_zero, List.set_cons_succ]
                refine wpAnyH_done (by kernel_rfl) ?_ _
                have HR3 : Hid (w3.ownsRow (w.heap.size + 1) 3 1 v3 (trS t xl (k + 1)).length (ints (trS t xl (k + 1)))) := by
                  show w3.ownsRow _ _ _ _ _ _
                  rw [HIns.out]
                  rw [show (R.take (0) ++ ([(k : Int)] ++ R.drop (0))).length = 0 + (0) + 1 + (R.length - (0)) by simp; omega, show ints (R.take (0) ++ ([(k : Int)] ++ R.drop (0))) = [] ++ (ints R).take (0) ++ [.int .i64 (k : Int)] ++ (ints R).drop (0) by simp [ints]]
                  exact own_base hown11 (by omega)
                have HV3 := Lib.hid (own_someE hown11 (by omega))
                have HH := Lib.hid hH11
                clear hown11 hg11 hown7 hg7
                have HB3 : Hid (Below w.heap.size w w3 ∧ w.heap.size < w3.heap.size) := ⟨HB.out.1.trans (HH.out.mono (by omega)), by have := HH.out.size; omega⟩
                have z2 : w3.cell? ⟨w.heap.size, 2, none⟩ = some (.slice (some ⟨g, go, none⟩) t.trips.length d) := bkeep HH.out p2
                clear HB
                go_wp2_with fail
                exact ⟨⟨k + 1, by omega, by go_num, ⟨HV3.out, HR3.out⟩, z2, HB3⟩, by simp [RowKit.intOf]; omega⟩
            · have hcm2 : ¬ ((oc : Int) = (((0 : Nat) : Int) : Int)) := by omega
              have HN2 := HN2'
              refine wp_region_held_drew (S := fun w' => Below wo.heap.size wo w') (by kernel_rfl) ?_ (fun hHeld => ?_)
              · exact (((Dr.refl wo).step _).step _).below.drew
              refine wpAnyH_take (i := 1) (v := ?_) (by simp only [List.getElem?_toArray, List.getElem?_cons_succ, List.getElem?_cons_zero]; rfl) (by kernel_rfl) (by kernel_rfl) (by kernel_rfl) (by exact fun _ _ _ h => h) (Or.inl ⟨by rfl, ?_⟩) (by assumption) ?_
              rotate_left
              · intro w' hSw; (try dsimp only at hSw); go_simp; try with_reducible rfl
              try simp only [Act.put, List.setIfInBounds_toArray, List.set_cons_zero, List.set_cons_succ]
              refine wpAnyH_take (i := 2) (v := ?_) (by simp only [List.getElem?_toArray, List.getElem?_cons_succ, List.getElem?_cons_zero]; rfl) (by kernel_rfl) (by kernel_rfl) (by kernel_rfl) (by exact fun _ _ _ h => h) (Or.inl ⟨by rfl, ?_⟩) (by assumption) ?_
              rotate_left
              · intro w' hSw; (try dsimp only at hSw); go_simp; try with_reducible rfl
              try simp only [Act.put, List.setIfInBounds_toArray, List.set_cons_zero, List.set_cons_succ]
              refine wpAnyH_take (i := 3) (v := ?_) (by simp only [List.getElem?_toArray, List.getElem?_cons_succ, List.getElem?_cons_zero]; rfl) (by kernel_rfl) (by kernel_rfl) (by kernel_rfl) (by exact fun _ _ _ h => h) (Or.inl ⟨by rfl, ?_⟩) (by assumption) ?_
              rotate_left
              · intro w' hSw; (try dsimp only at hSw); go_simp; try with_reducible rfl
              try simp only [Act.put, List.setIfInBounds_toArray, List.set_cons_zero, List.set_cons_succ]
              refine wpAnyH_take (i := 5) (v := ?_) (by simp only [List.getElem?_toArray, List.getElem?_cons_succ, List.getElem?_cons_zero]; rfl) (by kernel_rfl) (by kernel_rfl) (by kernel_rfl) (by exact fun _ _ _ h => h) (Or.inl ⟨by rfl, ?_⟩) (by assumption) ?_
              rotate_left
              · intro w' hSw; (try dsimp only at hSw); go_simp; try with_reducible rfl
              try simp only [Act.put, List.setIfInBounds_toArray, List.set_cons_zero, List.set_cons_succ]
              refine wpAnyH_take (i := 8) (v := ?_) (by simp only [List.getElem?_toArray, List.getElem?_cons_succ, List.getElem?_cons_zero]; rfl) (by kernel_rfl) (by kernel_rfl) (by kernel_rfl) (by exact fun _ _ _ h => h) (Or.inl ⟨by rfl, ?_⟩) (by assumption) ?_
              rotate_left
              · intro w' hSw; (try dsimp only at hSw); go_simp; try with_reducible rfl
              try simp only [Act.put, List.setIfInBounds_toArray, List.set_cons_zero, List.set_cons_succ]
              refine wpAnyH_take (i := 9) (v := ?_) (by simp only [List.getElem?_toArray, List.getElem?_cons_succ, List.getElem?_cons_zero]; rfl) (by kernel_rfl) (by kernel_rfl) (by kernel_rfl) (by exact fun _ _ _ h => h) (Or.inl ⟨by rfl, ?_⟩) (by assumption) ?_
              rotate_left
              · intro w' hSw; (try dsimp only at hSw); go_simp; try with_reducible rfl
              try simp only [Act.put, List.setIfInBounds_toArray, List.set_cons_zero, List.set_cons_succ]
              refine wpAnyH_take (i := 10) (v := ?_) (by simp only [List.getElem?_toArray, List.getElem?_cons_succ, List.getElem?_cons_zero]; rfl) (by kernel_rfl) (by kernel_rfl) (by kernel_rfl) (by exact fun _ _ _ h => h) (Or.inl ⟨by rfl, ?_⟩) (by assumption) ?_
              rotate_left
              · intro w' hSw; (try dsimp only at hSw); go_simp; try with_reducible rfl
              try simp only [Act.put, List.setIfInBounds_toArray, List.set_cons_zero, List.set_cons_succ]
              refine wpAnyH_ready (rs := [0, 6]) (by kernel_rfl) (by simp) ?_
              refine AllReadyH.cons (by simp only [List.getElem?_toArray, List.getElem?_cons_zero]; rfl) (fun K hK => ?_) (AllReadyH.cons (by simp only [List.getElem?_toArray, List.getElem?_cons_succ, List.getElem?_cons_zero]; rfl) (fun K hK => ?_) AllReadyH.nil)
              · go_simp
                refine hK.out _ _ ?_ (fun hH0 => ?_)
                · first | exact hHeld.alloc hHeld.size _ | exact ((Dr.refl wo).step _).below.alloc (Nat.le_refl _) _
                clear hK K
                try simp only [Act.put, List.setIfInBounds_toArray, List.set_cons_zero, List.set_cons_succ]
                refine wpAnyH_ready (rs := [4, 6]) (by kernel_rfl) (by simp) ?_
                refine AllReadyH.cons (by simp only [List.getElem?_toArray, List.getElem?_cons_succ, List.getElem?_cons_zero]; rfl) (fun K hK => ?_) (AllReadyH.cons (by simp only [List.getElem?_toArray, List.getElem?_cons_succ, List.getElem?_cons_zero]; rfl) (fun K hK => ?_) AllReadyH.nil)
                · rw [if_pos (by rfl)]
                  refine wp_append_own _ _ _ 43 rfl wo.heap.size 3 i0 (.int .i64 0) 1 8 Try.underlying43 hi0 hz0 hz1 hz2 rfl (by decide) _ _ _ rfl (litE0 wo.heap.size (_) _ (by simp) (by simp)) ⟨og, 0, none⟩ 0 _ ((ints R).take (0)) rfl (by simp [ints] <;> omega) (HN1.out _ hH0) (fun u hu => ints_oneE R u (List.mem_of_mem_take hu)) (by unfold maxLen; omega) (by omega) hH0.size ?_
                  intro v1 w1 hown4 hg4 _
                  refine hK.out _ _ ?_ (fun hH4 => ?_)
                  · exact hH0.grown hg4 hH0.size (fun g hg => by cases hg; simp)
                  clear hK K
                  try simp only [Act.put, List.setIfInBounds_toArray, List.set_cons_zero, List.set_cons_succ]
                  refine wpAnyH_ready (rs := [6]) (by kernel_rfl) (by simp) ?_
                  refine AllReadyH.cons (by simp only [List.getElem?_toArray, List.getElem?_cons_succ, List.getElem?_cons_zero]; rfl) (fun K hK => ?_) AllReadyH.nil
                  go_simp
                  refine hK.out _ _ ?_ (fun hHc => ?_)
                  · exact hH4.alloc hH4.size _
                  clear hK K
                  try simp only [Act.put, List.setIfInBounds_toArray, List.set_cons_zero, List.set_cons_succ]
                  refine wpAnyH_ready (rs := [7]) (by kernel_rfl) (by simp) ?_
                  refine AllReadyH.cons (by simp only [List.getElem?_toArray, List.getElem?_cons_succ, List.getElem?_cons_zero]; rfl) (fun K hK => ?_) AllReadyH.nil
                  rw [if_pos (by rfl)]
                  refine wp_append_own _ _ _ 43 rfl wo.heap.size 3 i0 (.int .i64 0) 1 8 Try.underlying43 hi0 hz0 hz1 hz2 rfl (by decide) _ _ _ rfl (hown4.alloc _) ⟨w1.heap.size, 0, none⟩ 1 1 [.int .i64 (k : Int)] rfl rfl (one_newN w1 _ _ rfl) (by intro u hu; simp at hu; subst hu; rfl) (by unfold maxLen; omega) (by omega) hHc.size ?_
                  intro v2 w2 hown7 hg7 _
                  refine hK.out _ _ ?_ (fun hH7 => ?_)
                  · exact hHc.grown hg7 hHc.size (fun g hg => (hown4.lt g hg).1)
                  clear hK K
                  try simp only [Act.put, List.setIfInBounds_toArray, List.set_cons_zero, List.set_cons_succ]
                  refine wpAnyH_ready (rs := [11]) (by kernel_rfl) (by simp) ?_
                  refine AllReadyH.cons (by simp only [List.getElem?_toArray, List.getElem?_cons_succ, List.getElem?_cons_zero]; rfl) (fun K hK => ?_) AllReadyH.nil
                  rw [if_pos (by rfl)]
                  refine wp_append_own _ _ _ 43 rfl wo.heap.size 3 i0 (.int .i64 0) 1 8 Try.underlying43 hi0 hz0 hz1 hz2 rfl (by decide) _ _ _ rfl hown7 ⟨og, 0, none⟩ (R.length - 0) _ ((ints R).drop (0)) rfl (by simp [ints]) (HN2.out _ hH7) (fun u hu => ints_oneE R u (List.mem_of_mem_drop hu)) (by unfold maxLen; omega) (by omega) hH7.size ?_
                  intro v3 w3 hown11 hg11 _
                  refine hK.out _ _ ?_ (fun hH11 => ?_)
                  · exact hH7.grown hg11 hH7.size (fun g hg => (hown7.lt g hg).1)
                  clear hK K
                  try simp only [Act.put, List.setIfInBounds_toArray, List.set_cons_zero, List.set_cons_succ]
                  refine wpAnyH_take (i := 12) (v := ?_) (by simp only [List.getElem?_toArray, List.getElem?_cons_succ, List.getElem?_cons_zero]; rfl) (by kernel_rfl) (by kernel_rfl) (by kernel_rfl) (by exact fun _ _ _ h => h) (Or.inl ⟨by rfl, ?_⟩) (by assumption) ?_
                  rotate_left
                  · intro w' hSw; (try dsimp only at hSw); go_simp; try with_reducible rfl
                  try simp only [Act.put, List.setIfInBounds_toArray, List.set_cons_zero, List.set_cons_succ]
                  refine wpAnyH_done (by kernel_rfl) ?_ _
                  have HR3 : Hid (w3.ownsRow (w.heap.size + 1) 3 1 v3 (trS t xl (k + 1)).length (ints (trS t xl (k + 1)))) := by
                    show w3.ownsRow _ _ _ _ _ _
                    rw [HIns.out]
                    rw [show (R.take (0) ++ ([(k : Int)] ++ R.drop (0))).length = 0 + (0) + 1 + (R.length - (0)) by simp; omega, show ints (R.take (0) ++ ([(k : Int)] ++ R.drop (0))) = [] ++ (ints R).take (0) ++ [.int .i64 (k : Int)] ++ (ints R).drop (0) by simp [ints]]
                    exact own_base hown11 (by omega)
                  have HV3 := Lib.hid (own_someE hown11 (by omega))
                  have HH := Lib.hid hH11
                  clear hown11 hg11 hown7 hg7
                  have HB3 : Hid (Below w.heap.size w w3 ∧ w.heap.size < w3.heap.size) := ⟨HB.out.1.trans (HH.out.mono (by omega)), by have := HH.out.size; omega⟩
                  have z2 : w3.cell? ⟨w.heap.size, 2, none⟩ = some (.slice (some ⟨g, go, none⟩) t.trips.length d) := bkeep HH.out p2
                  clear HB
                  go_wp2_with fail
                  exact ⟨⟨k + 1, by omega, by go_num, ⟨HV3.out, HR3.out⟩, z2, HB3⟩, by simp [RowKit.intOf]; omega⟩
                · go_simp
                  refine hK.out _ _ ?_ (fun hH6 => ?_)
                  · exact hH0.alloc hH0.size _
                  clear hK K
                  try simp only [Act.put, List.setIfInBounds_toArray, List.set_cons_zero, List.set_cons_succ]
                  refine wpAnyH_ready (rs := [4]) (by kernel_rfl) (by simp) ?_
                  refine AllReadyH.cons (by simp only [List.getElem?_toArray, List.getElem?_cons_succ, List.getElem?_cons_zero]; rfl) (fun K hK => ?_) AllReadyH.nil
                  rw [if_pos (by rfl)]
                  refine wp_append_own _ _ _ 43 rfl wo.heap.size 3 i0 (.int .i64 0) 1 8 Try.underlying43 hi0 hz0 hz1 hz2 rfl (by decide) _ _ _ rfl (((litE0 wo.heap.size (_) _ (by simp) (by simp))).alloc _) ⟨og, 0, none⟩ 0 _ ((ints R).take (0)) rfl (by simp [ints] <;> omega) (HN1.out _ hH6) (fun u hu => ints_oneE R u (List.mem_of_mem_take hu)) (by unfold maxLen; omega) (by omega) hH6.size ?_
                  intro v1 w1 hown4 hg4 _
                  refine hK.out _ _ ?_ (fun hH4 => ?_)
                  · exact hH6.grown hg4 hH6.size (fun g hg => by cases hg; simp)
                  clear hK K
                  try simp only [Act.put, List.setIfInBounds_toArray, List.set_cons_zero, List.set_cons_succ]
                  have hHc := hH4
                  refine wpAnyH_ready (rs := [7]) (by kernel_rfl) (by simp) ?_
                  refine AllReadyH.cons (by simp only [List.getElem?_toArray, List.getElem?_cons_succ, List.getElem?_cons_zero]; rfl) (fun K hK => ?_) AllReadyH.nil
                  rw [if_pos (by rfl)]
                  refine wp_append_own _ _ _ 43 rfl wo.heap.size 3 i0 (.int .i64 0) 1 8 Try.underlying43 hi0 hz0 hz1 hz2 rfl (by decide) _ _ _ rfl hown4 ⟨wo.heap.size + 1, 0, none⟩ 1 1 [.int .i64 (k : Int)] rfl rfl (one_keptE hg4 (one_newN _ _ (wo.heap.size + 1) (by simp)) (show Value.ownBlock (.slice (some ⟨wo.heap.size, 0, none⟩) 0 0) ≠ some (wo.heap.size + 1) by simp [Value.ownBlock])) (by intro u hu; simp at hu; subst hu; rfl) (by unfold maxLen; omega) (by omega) hHc.size ?_
                  intro v2 w2 hown7 hg7 _
                  refine hK.out _ _ ?_ (fun hH7 => ?_)
                  · exact hHc.grown hg7 hHc.size (fun g hg => (hown4.lt g hg).1)
                  clear hK K
                  try simp only [Act.put, List.setIfInBounds_toArray, List.set_cons_zero, List.set_cons_succ]
                  refine wpAnyH_ready (rs := [11]) (by kernel_rfl) (by simp) ?_
                  refine AllReadyH.cons (by simp only [List.getElem?_toArray, List.getElem?_cons_succ, List.getElem?_cons_zero]; rfl) (fun K hK => ?_) AllReadyH.nil
                  rw [if_pos (by rfl)]
                  refine wp_append_own _ _ _ 43 rfl wo.heap.size 3 i0 (.int .i64 0) 1 8 Try.underlying43 hi0 hz0 hz1 hz2 rfl (by decide) _ _ _ rfl hown7 ⟨og, 0, none⟩ (R.length - 0) _ ((ints R).drop (0)) rfl (by simp [ints]) (HN2.out _ hH7) (fun u hu => ints_oneE R u (List.mem_of_mem_drop hu)) (by unfold maxLen; omega) (by omega) hH7.size ?_
                  intro v3 w3 hown11 hg11 _
                  refine hK.out _ _ ?_ (fun hH11 => ?_)
                  · exact hH7.grown hg11 hH7.size (fun g hg => (hown7.lt g hg).1)
                  clear hK K
                  try simp only [Act.put, List.setIfInBounds_toArray, List.set_cons_zero, List.set_cons_succ]
                  refine wpAnyH_take (i := 12) (v := ?_) (by simp only [List.getElem?_toArray, List.getElem?_cons_succ, List.getElem?_cons_zero]; rfl) (by kernel_rfl) (by kernel_rfl) (by kernel_rfl) (by exact fun _ _ _ h => h) (Or.inl ⟨by rfl, ?_⟩) (by assumption) ?_
                  rotate_left
                  · intro w' hSw; (try dsimp only at hSw); go_simp; try with_reducible rfl
                  try simp only [Act.put, List.setIfInBounds_toArray, List.set_cons_zero, List.set_cons_succ]
                  refine wpAnyH_done (by kernel_rfl) ?_ _
                  have HR3 : Hid (w3.ownsRow (w.heap.size + 1) 3 1 v3 (trS t xl (k + 1)).length (ints (trS t xl (k + 1)))) := by
                    show w3.ownsRow _ _ _ _ _ _
                    rw [HIns.out]
                    rw [show (R.take (0) ++ ([(k : Int)] ++ R.drop (0))).length = 0 + (0) + 1 + (R.length - (0)) by simp; omega, show ints (R.take (0) ++ ([(k : Int)] ++ R.drop (0))) = [] ++ (ints R).take (0) ++ [.int .i64 (k : Int)] ++ (ints R).drop (0) by simp [ints]]
                    exact own_base hown11 (by omega)
                  have HV3 := Lib.hid (own_someE hown11 (by omega))
                  have HH := Lib.hid hH11
                  clear hown11 hg11 hown7 hg7
                  have HB3 : Hid (Below w.heap.size w w3 ∧ w.heap.size < w3.heap.size) := ⟨HB.out.1.trans (HH.out.mono (by omega)), by have := HH.out.size; omega⟩
                  have z2 : w3.cell? ⟨w.heap.size, 2, none⟩ = some (.slice (some ⟨g, go, none⟩) t.trips.length d) := bkeep HH.out p2
                  clear HB
                  go_wp2_with fail
                  exact ⟨⟨k + 1, by omega, by go_num, ⟨HV3.out, HR3.out⟩, z2, HB3⟩, by simp [RowKit.intOf]; omega⟩
              · go_simp
                refine hK.out _ _ ?_ (fun hH6 => ?_)
                · first | exact hHeld.alloc hHeld.size _ | exact ((Dr.refl wo).step _).below.alloc (Nat.le_refl _) _
                clear hK K
                try simp only [Act.put, List.setIfInBounds_toArray, List.set_cons_zero, List.set_cons_succ]
                refine wpAnyH_ready (rs := [0]) (by kernel_rfl) (by simp) ?_
                refine AllReadyH.cons (by simp only [List.getElem?_toArray, List.getElem?_cons_zero]; rfl) (fun K hK => ?_) AllReadyH.nil
                go_simp
                refine hK.out _ _ ?_ (fun hH0 => ?_)
                · exact hH6.alloc hH6.size _
                clear hK K
                try simp only [Act.put, List.setIfInBounds_toArray, List.set_cons_zero, List.set_cons_succ]
                refine wpAnyH_ready (rs := [4]) (by kernel_rfl) (by simp) ?_
                refine AllReadyH.cons (by simp only [List.getElem?_toArray, List.getElem?_cons_succ, List.getElem?_cons_zero]; rfl) (fun K hK => ?_) AllReadyH.nil
                rw [if_pos (by rfl)]
                refine wp_append_own _ _ _ 43 rfl wo.heap.size 3 i0 (.int .i64 0) 1 8 Try.underlying43 hi0 hz0 hz1 hz2 rfl (by decide) _ _ _ rfl (litE0 wo.heap.size (_) _ (by simp) (by simp)) ⟨og, 0, none⟩ 0 _ ((ints R).take (0)) rfl (by simp [ints] <;> omega) (HN1.out _ hH0) (fun u hu => ints_oneE R u (List.mem_of_mem_take hu)) (by unfold maxLen; omega) (by omega) hH0.size ?_
                intro v1 w1 hown4 hg4 _
                refine hK.out _ _ ?_ (fun hH4 => ?_)
                · exact hH0.grown hg4 hH0.size (fun g hg => by cases hg; simp)
                clear hK K
                try simp only [Act.put, List.setIfInBounds_toArray, List.set_cons_zero, List.set_cons_succ]
                have hHc := hH4
                refine wpAnyH_ready (rs := [7]) (by kernel_rfl) (by simp) ?_
                refine AllReadyH.cons (by simp only [List.getElem?_toArray, List.getElem?_cons_succ, List.getElem?_cons_zero]; rfl) (fun K hK => ?_) AllReadyH.nil
                rw [if_pos (by rfl)]
                refine wp_append_own _ _ _ 43 rfl wo.heap.size 3 i0 (.int .i64 0) 1 8 Try.underlying43 hi0 hz0 hz1 hz2 rfl (by decide) _ _ _ rfl hown4 ⟨wo.heap.size, 0, none⟩ 1 1 [.int .i64 (k : Int)] rfl rfl (one_keptE hg4 (fun j u hu => acell (one_newN _ _ (wo.heap.size) rfl j u hu) (.cells #[] 3)) (show Value.ownBlock (.slice (some ⟨wo.heap.size + 1, 0, none⟩) 0 0) ≠ some wo.heap.size by simp [Value.ownBlock])) (by intro u hu; simp at hu; subst hu; rfl) (by unfold maxLen; omega) (by omega) hHc.size ?_
                intro v2 w2 hown7 hg7 _
                refine hK.out _ _ ?_ (fun hH7 => ?_)
                · exact hHc.grown hg7 hHc.size (fun g hg => (hown4.lt g hg).1)
                clear hK K
                try simp only [Act.put, List.setIfInBounds_toArray, List.set_cons_zero, List.set_cons_succ]
                refine wpAnyH_ready (rs := [11]) (by kernel_rfl) (by simp) ?_
                refine AllReadyH.cons (by simp only [List.getElem?_toArray, List.getElem?_cons_succ, List.getElem?_cons_zero]; rfl) (fun K hK => ?_) AllReadyH.nil
                rw [if_pos (by rfl)]
                refine wp_append_own _ _ _ 43 rfl wo.heap.size 3 i0 (.int .i64 0) 1 8 Try.underlying43 hi0 hz0 hz1 hz2 rfl (by decide) _ _ _ rfl hown7 ⟨og, 0, none⟩ (R.length - 0) _ ((ints R).drop (0)) rfl (by simp [ints]) (HN2.out _ hH7) (fun u hu => ints_oneE R u (List.mem_of_mem_drop hu)) (by unfold maxLen; omega) (by omega) hH7.size ?_
                intro v3 w3 hown11 hg11 _
                refine hK.out _ _ ?_ (fun hH11 => ?_)
                · exact hH7.grown hg11 hH7.size (fun g hg => (hown7.lt g hg).1)
                clear hK K
                try simp only [Act.put, List.setIfInBounds_toArray, List.set_cons_zero, List.set_cons_succ]
                refine wpAnyH_take (i := 12) (v := ?_) (by simp only [List.getElem?_toArray, List.getElem?_cons_succ, List.getElem?_cons_zero]; rfl) (by kernel_rfl) (by kernel_rfl) (by kernel_rfl) (by exact fun _ _ _ h => h) (Or.inl ⟨by rfl, ?_⟩) (by assumption) ?_
                rotate_left
                · intro w' hSw; (try dsimp only at hSw); go_simp; try with_reducible rfl
                try simp only [Act.put, List.setIfInBounds_toArray, List.set_cons_zero, List.set_cons_succ]
                refine wpAnyH_done (by kernel_rfl) ?_ _
                have HR3 : Hid (w3.ownsRow (w.heap.size + 1) 3 1 v3 (trS t xl (k + 1)).length (ints (trS t xl (k + 1)))) := by
                  show w3.ownsRow _ _ _ _ _ _
                  rw [HIns.out]
                  rw [show (R.take (0) ++ ([(k : Int)] ++ R.drop (0))).length = 0 + (0) + 1 + (R.length - (0)) by simp; omega, show ints (R.take (0) ++ ([(k : Int)] ++ R.drop (0))) = [] ++ (ints R).take (0) ++ [.int .i64 (k : Int)] ++ (ints R).drop (0) by simp [ints]]
                  exact own_base hown11 (by omega)
                have HV3 := Lib.hid (own_someE hown11 (by omega))
                have HH := Lib.hid hH11
                clear hown11 hg11 hown7 hg7
                have HB3 : Hid (Below w.heap.size w w3 ∧ w.heap.size < w3.heap.size) := ⟨HB.out.1.trans (HH.out.mono (by omega)), by have := HH.out.size; omega⟩
                have z2 : w3.cell? ⟨w.heap.size, 2, none⟩ = some (.slice (some ⟨g, go, none⟩) t.trips.length d) := bkeep HH.out p2
                clear HB
                go_wp2_with fail
                exact ⟨⟨k + 1, by omega, by go_num, ⟨HV3.out, HR3.out⟩, z2, HB3⟩, by simp [RowKit.intOf]; omega⟩
      · have HSucc := Lib.hid (HNo.out hln)
        have hne : (xl != line) = true := by simp [hln]
        have HR : Hid ((Value.slice (some ⟨og, 0, none⟩) (trS t line k).length oc).ownBlock ≠ none ∧ wr.ownsRow (w.heap.size + 1) 3 1 (.slice (some ⟨og, 0, none⟩) (trS t line k).length oc) (trS t line (k + 1)).length (ints (trS t line (k + 1)))) := by show _ ∧ World.ownsRow _ _ _ _ _ _ _; rw [HSucc.out]; exact HOwn.out
        clear HYes HNo HOwn
        go_wp2_with fail
        go_roundw
        case rel => exact ⟨k + 1, by omega, by go_num, HR, p2, HB⟩
        case measure => simp [RowKit.intOf]; omega
    · obtain rfl : k = t.trips.length := by omega
      have hlt1 : ¬ (t.trips.length : Int) < (t.trips.length : Int) := by omega
      have hX := HOwn.out.2
      have hle : w.heap.size ≤ w.heap.size + 1 := by omega
      have HX := Lib.hid (own_base hX hle)
      clear hX
      go_wp2_with fail
      go_ret
      exact ⟨⟨_, rfl, HX.out⟩, HB.out.1⟩
end Go.Proofs.Ytffcgblionlhhaa
