/-
  CONTRACT: spec.l1Put enters a number into an ascending list in new memory, or hands the list back if it stands there.
-/
import Derived.Test.YtniankcjgcackaaMa
import Derived.Maps.AppendAt
import Derived.IntWalk
namespace Go.Proofs.Ytniankcjgcackaa
open Go.RowKit
set_option linter.unusedVariables false

/-- the place before which x belongs -/
def putAt (x : Int) : List Int → Nat
  | [] => 0
  | y :: ys => if y < x then putAt x ys + 1 else 0
def putL (x : Int) (xs : List Int) : List Int := if xs[putAt x xs]? = some x then xs else xs.take (putAt x xs) ++ ([x] ++ xs.drop (putAt x xs))
theorem putAt_le (x : Int) : ∀ xs : List Int, putAt x xs ≤ xs.length
  | [] => Nat.le_refl _
  | y :: ys => by unfold putAt; split <;> simp; exact putAt_le x ys
theorem putAt_lt (x : Int) : ∀ (xs : List Int) (j : Nat) (h : j < xs.length), j < putAt x xs → xs[j] < x
  | [], j, h, _ => by simp at h
  | y :: ys, j, h, hj => by
    unfold putAt at hj
    split at hj
    · cases j with
      | zero => simpa using (by assumption : y < x)
      | succ j => simpa using putAt_lt x ys j (by simpa using h) (by omega)
    · omega
theorem putAt_ge (x : Int) : ∀ (xs : List Int) (h : putAt x xs < xs.length), ¬ xs[putAt x xs] < x
  | [], h => by simp at h
  | y :: ys, h => by
    by_cases hy : y < x
    · have e : putAt x (y :: ys) = putAt x ys + 1 := by simp [putAt, hy]
      have h' : putAt x ys < ys.length := by rw [e] at h; simpa using h
      have := putAt_ge x ys h'
      simp only [e]; simpa using this
    · have e : putAt x (y :: ys) = 0 := by simp [putAt, hy]
      simp only [e]; simpa using hy
theorem putL_len (x : Int) (xs : List Int) : (putL x xs).length ≤ xs.length + 1 := by
  unfold putL
  split
  · omega
  · have := putAt_le x xs; simp; omega

theorem ints_one (zs : List Int) : ∀ u ∈ ints zs, u.oneCell' = true := by
  intro u hu
  obtain ⟨q, _, rfl⟩ := List.mem_map.1 hu
  rfl
theorem lit0 (B : Nat) (w : World) (m : Nat) (hm : m = w.heap.size) (hB : B ≤ w.heap.size) : (w.alloc (.cells #[] 3)).ownsRow B 3 1 (.slice (some ⟨m, 0, none⟩) 0 0) 0 [] := by
  subst hm; exact World.ownsRow_lit w #[] 0 hB (by decide) (by simp)
theorem own_some {w : World} {B : Nat} {e : TypeId} {sz : Nat} {v : Value} {n : Nat} {xs : List Value} (h : w.ownsRow B e sz v n xs) (hn : 0 < n) : v.ownBlock ≠ none := by
  obtain ⟨_, h2⟩ := h
  rcases h2 with ⟨_, h0⟩ | ⟨g, cap, cur, hv, _⟩
  · omega
  · rw [hv]; simp [Value.ownBlock]
theorem one_kept {W w : World} {row : Option Nat} {m : Nat} {l : List Value} (hg : W.grownBy w row) (h : ∀ j u, l[j]? = some u → W.cell? ((⟨m, 0, none⟩ : Addr).add j) = some u) (hne : row ≠ some m) : ∀ j u, l[j]? = some u → w.cell? ((⟨m, 0, none⟩ : Addr).add j) = some u := fun j u hu => by
  have h1 := h j u hu
  rw [addr_add] at h1 ⊢
  exact hg.cell h1 (fun e => hne e.symm)

set_option maxRecDepth 100000 in
set_option maxHeartbeats 2000000 in
theorem l1Put_gen (v : Value) (xs : List Int) (x : Int) (B0 B : Nat) (w : World) (hr0 : w.ownsRow B0 3 1 v xs.length (ints xs)) (hr : x ∈ xs → w.ownsRow B 3 1 v xs.length (ints xs)) (hv : v.ownBlock ≠ none) (hB : B ≤ w.heap.size) (hn : xs.length ≤ 1048576) :
    Calls Try.prog 182 #[v, .int .i64 x] w fun e w' => (∃ v', e = .returned v' ∧ v'.ownBlock ≠ none ∧ w'.ownsRow B 3 1 v' (putL x xs).length (ints (putL x xs))) ∧ Below w.heap.size w w' := by
  obtain ⟨i0, hi, hz0, hz1, hz2⟩ := info_parts infoInt
  have HO := Lib.hid hr
  have HO0 := Lib.hid hr0
  obtain ⟨a, c, rfl, hc, hm, HC⟩ := ints_open (rowAt_own hr0)
  clear hr hr0
  have hple := putAt_le x xs
  obtain ⟨p, hp⟩ : ∃ p, putAt x xs = p := ⟨_, rfl⟩
  have HP := Lib.hid hp
  rw [hp] at hple
  clear hp
  go_enter Try.func182, Try.ntmps182
  go_wp2_with fail
  go_loop [5] (fun i => ∃ k : Nat, k ≤ p ∧ i = .int .i64 k) (fun i => xs.length - (RowKit.intOf i).toNat)
  case atStart => exact ⟨0, Nat.zero_le _, rfl⟩
  case round =>
    obtain ⟨k, hk, rfl⟩ := hrel
    by_cases hkp : k < p
    · have hlt : k < xs.length := by omega
      obtain ⟨b, off, rfl, _, hcx⟩ := HC.out k hlt
      have hx : xs[k] < x := putAt_lt x xs k hlt (by rw [HP.out]; exact hkp)
      generalize xs[k] = y at *
      go_wp2_with fail
      go_round
      case rel => exact ⟨k + 1, by omega, by go_num⟩
      case measure => simp [RowKit.intOf]; omega
    · have he : k = p := by omega
      subst he
      by_cases hlt : k < xs.length
      · obtain ⟨b, off, rfl, hbl, hcx⟩ := HC.out k hlt
        have hx : ¬ xs[k] < x := by have := putAt_ge x xs (by rw [HP.out]; exact hlt); simp only [HP.out] at this; exact this
        by_cases hex : xs[k] = x
        · have HR : Hid (putL x xs = xs) := by show _ = _; unfold putL; rw [HP.out, List.getElem?_eq_getElem hlt, hex, if_pos rfl]
          have hb : (xs[k] == x) = true := by simp [hex]
          have HO := Lib.hid (HO.out (by rw [← hex]; exact List.getElem_mem hlt))
          clear hex
          generalize xs[k] = y at *
          go_wp2_with fail
          go_ret
          exact ⟨⟨_, rfl, hv, by rw [HR.out]; exact HO.out⟩, Below.refl _ _⟩
        · have HR : Hid (putL x xs = xs.take k ++ ([x] ++ xs.drop k)) := by show _ = _; unfold putL; rw [HP.out, List.getElem?_eq_getElem hlt, if_neg (fun e => hex (Option.some.inj e))]
          have hb : (xs[k] == x) = false := by simp [hex]
          clear hex
          generalize xs[k] = y at *
          go_wp2_with fail
          have hkc : ((k : Nat) : Int) ≤ (c : Int) := by omega
          have hkc2 : ¬ (c = k) := by omega
          have HN1 : Hid (∀ W, Below w.heap.size w W → ∀ j u, ((ints xs).take k)[j]? = some u → W.cell? ((⟨b, off, none⟩ : Addr).add j) = some u) := fun W hW j u hu => by
            have hj : j < k ∧ j < xs.length := by have := (List.getElem?_eq_some_iff.1 hu).1; simp [ints] at this; omega
            have hu' : u = .int .i64 (xs[j]'hj.2) := by
              have := (List.getElem?_eq_some_iff.1 hu).2; simp [ints] at this; exact this.symm
            obtain ⟨b', off', he, _, h⟩ := HC.out j hj.2
            simp at he
            obtain ⟨rfl, rfl⟩ := he
            rw [addr_add, hW.cell (p := ⟨b, off + j, none⟩) hbl, h, hu']
          have HN2 : Hid (∀ W, Below w.heap.size w W → ∀ j u, ((ints xs).drop k)[j]? = some u → W.cell? ((⟨b, off + k, none⟩ : Addr).add j) = some u) := fun W hW j u hu => by
            have hj : k + j < xs.length := by have := (List.getElem?_eq_some_iff.1 hu).1; simp [ints] at this; omega
            have hu' : u = .int .i64 (xs[k + j]'hj) := by
              have := (List.getElem?_eq_some_iff.1 hu).2; simp [ints] at this; exact this.symm
            obtain ⟨b', off', he, _, h⟩ := HC.out (k + j) hj
            simp at he
            obtain ⟨rfl, rfl⟩ := he
            rw [addr_add, Nat.add_assoc, hW.cell (p := ⟨b, off + (k + j), none⟩) hbl, h, hu']
          refine wp_region_held_drew (S := fun w' => Below w.heap.size w w') (by kernel_rfl) ?_ (fun hHeld => ?_)
          · exact (Below.refl _ _).drew
          refine wpAnyH_take (i := 1) (v := ?_) (by simp only [List.getElem?_toArray, List.getElem?_cons_succ, List.getElem?_cons_zero]; rfl) (by kernel_rfl) (by kernel_rfl) (by kernel_rfl) (by exact fun _ _ _ h => h) (Or.inl ⟨by rfl, ?_⟩) (by assumption) ?_
          rotate_left
          · intro w' hSw; (try dsimp only at hSw); go_simp; try with_reducible rfl
          try simp only [Act.put, List.setIfInBounds_toArray, List.set_cons_zero, List.set_cons_succ]
          refine wpAnyH_take (i := 2) (v := ?_) (by simp only [List.getElem?_toArray, List.getElem?_cons_succ, List.getElem?_cons_zero]; rfl) (by kernel_rfl) (by kernel_rfl) (by kernel_rfl) (by exact fun _ _ _ h => h) (Or.inl ⟨by rfl, ?_⟩) (by assumption) ?_
          rotate_left
          · intro w' hSw; (try dsimp only at hSw); go_simp; try with_reducible rfl
          try simp only [Act.put, List.setIfInBounds_toArray, List.set_cons_zero, List.set_cons_succ]
          refine wpAnyH_take (i := 3) (v := ?_) (by simp only [List.getElem?_toArray, List.getElem?_cons_succ, List.getElem?_cons_zero]; rfl) (by kernel_rfl) (by kernel_rfl) (by kernel_rfl) (by exact fun _ _ _ h => h) (Or.inl ⟨by rfl, ?_⟩) (by assumption) ?_
          rotate_left
          · intro w' hSw; (try dsimp only at hSw); go_simp; try with_reducible rfl
          try simp only [Act.put, List.setIfInBounds_toArray, List.set_cons_zero, List.set_cons_succ]
          refine wpAnyH_take (i := 5) (v := ?_) (by simp only [List.getElem?_toArray, List.getElem?_cons_succ, List.getElem?_cons_zero]; rfl) (by kernel_rfl) (by kernel_rfl) (by kernel_rfl) (by exact fun _ _ _ h => h) (Or.inl ⟨by rfl, ?_⟩) (by assumption) ?_
          rotate_left
          · intro w' hSw; (try dsimp only at hSw); go_simp; try with_reducible rfl
          try simp only [Act.put, List.setIfInBounds_toArray, List.set_cons_zero, List.set_cons_succ]
          refine wpAnyH_take (i := 8) (v := ?_) (by simp only [List.getElem?_toArray, List.getElem?_cons_succ, List.getElem?_cons_zero]; rfl) (by kernel_rfl) (by kernel_rfl) (by kernel_rfl) (by exact fun _ _ _ h => h) (Or.inl ⟨by rfl, ?_⟩) (by assumption) ?_
          rotate_left
          · intro w' hSw; (try dsimp only at hSw); go_simp; try with_reducible rfl
          try simp only [Act.put, List.setIfInBounds_toArray, List.set_cons_zero, List.set_cons_succ]
          refine wpAnyH_take (i := 9) (v := ?_) (by simp only [List.getElem?_toArray, List.getElem?_cons_succ, List.getElem?_cons_zero]; rfl) (by kernel_rfl) (by kernel_rfl) (by kernel_rfl) (by exact fun _ _ _ h => h) (Or.inl ⟨by rfl, ?_⟩) (by assumption) ?_
          rotate_left
          · intro w' hSw; (try dsimp only at hSw); go_simp; try with_reducible rfl
          try simp only [Act.put, List.setIfInBounds_toArray, List.set_cons_zero, List.set_cons_succ]
          refine wpAnyH_take (i := 10) (v := ?_) (by simp only [List.getElem?_toArray, List.getElem?_cons_succ, List.getElem?_cons_zero]; rfl) (by kernel_rfl) (by kernel_rfl) (by kernel_rfl) (by exact fun _ _ _ h => h) (Or.inl ⟨by rfl, ?_⟩) (by assumption) ?_
          rotate_left
          · intro w' hSw; (try dsimp only at hSw); go_simp; try with_reducible rfl
          try simp only [Act.put, List.setIfInBounds_toArray, List.set_cons_zero, List.set_cons_succ]
          refine wpAnyH_ready (rs := [0, 6]) (by kernel_rfl) (by simp) ?_
          refine AllReadyH.cons (by simp only [List.getElem?_toArray, List.getElem?_cons_zero]; rfl) (fun K hK => ?_) (AllReadyH.cons (by simp only [List.getElem?_toArray, List.getElem?_cons_succ, List.getElem?_cons_zero]; rfl) (fun K hK => ?_) AllReadyH.nil)
          · go_simp
            refine hK.out _ _ ?_ (fun hH0 => ?_)
            · exact ((Below.refl _ _).alloc (Nat.le_refl _) _).drew
            clear hK K
            try simp only [Act.put, List.setIfInBounds_toArray, List.set_cons_zero, List.set_cons_succ]
            refine wpAnyH_ready (rs := [4, 6]) (by kernel_rfl) (by simp) ?_
            refine AllReadyH.cons (by simp only [List.getElem?_toArray, List.getElem?_cons_succ, List.getElem?_cons_zero]; rfl) (fun K hK => ?_) (AllReadyH.cons (by simp only [List.getElem?_toArray, List.getElem?_cons_succ, List.getElem?_cons_zero]; rfl) (fun K hK => ?_) AllReadyH.nil)
            · rw [if_pos (by rfl)]
              refine wp_append_own _ _ _ 45 rfl w.heap.size 3 i0 (.int .i64 0) 1 8 Try.underlying45 hi hz0 hz1 hz2 rfl (by decide) _ _ _ rfl (lit0 w.heap.size w _ (by simp) (by simp)) ⟨b, off, none⟩ k _ ((ints xs).take k) rfl (by simp [ints]; omega) (HN1.out _ hH0) (fun u hu => ints_one xs u (List.mem_of_mem_take hu)) (by unfold maxLen; omega) (by omega) hH0.size ?_
              intro v1 w1 hown4 hg4 _
              refine hK.out _ _ ?_ (fun hH4 => ?_)
              · exact hH0.grown hg4 hH0.size (fun g hg => by cases hg; simp)
              clear hK K
              try simp only [Act.put, List.setIfInBounds_toArray, List.set_cons_zero, List.set_cons_succ]
              refine wpAnyH_ready (rs := [6]) (by kernel_rfl) (by simp) ?_
              refine AllReadyH.cons (by simp only [List.getElem?_toArray, List.getElem?_cons_succ, List.getElem?_cons_zero]; rfl) (fun K hK => ?_) AllReadyH.nil
              go_simp
              refine hK.out _ _ ?_ (fun hHc => ?_)
              · exact hH4.alloc hH4.size _
              clear hK K
              try simp only [Act.put, List.setIfInBounds_toArray, List.set_cons_zero, List.set_cons_succ]
              refine wpAnyH_ready (rs := [7]) (by kernel_rfl) (by simp) ?_
              refine AllReadyH.cons (by simp only [List.getElem?_toArray, List.getElem?_cons_succ, List.getElem?_cons_zero]; rfl) (fun K hK => ?_) AllReadyH.nil
              rw [if_pos (by rfl)]
              refine wp_append_own _ _ _ 45 rfl w.heap.size 3 i0 (.int .i64 0) 1 8 Try.underlying45 hi hz0 hz1 hz2 rfl (by decide) _ _ _ rfl (hown4.alloc _) ⟨w1.heap.size, 0, none⟩ 1 1 [.int .i64 x] rfl rfl (one_newN w1 _ _ rfl) (by intro u hu; simp at hu; subst hu; rfl) (by unfold maxLen; omega) (by omega) hHc.size ?_
              intro v2 w2 hown7 hg7 _
              refine hK.out _ _ ?_ (fun hH7 => ?_)
              · exact hHc.grown hg7 hHc.size (fun g hg => (hown4.lt g hg).1)
              clear hK K
              try simp only [Act.put, List.setIfInBounds_toArray, List.set_cons_zero, List.set_cons_succ]
              refine wpAnyH_ready (rs := [11]) (by kernel_rfl) (by simp) ?_
              refine AllReadyH.cons (by simp only [List.getElem?_toArray, List.getElem?_cons_succ, List.getElem?_cons_zero]; rfl) (fun K hK => ?_) AllReadyH.nil
              rw [if_pos (by rfl)]
              refine wp_append_own _ _ _ 45 rfl w.heap.size 3 i0 (.int .i64 0) 1 8 Try.underlying45 hi hz0 hz1 hz2 rfl (by decide) _ _ _ rfl hown7 ⟨b, off + k, none⟩ (xs.length - k) _ ((ints xs).drop k) rfl (by simp [ints]) (HN2.out _ hH7) (fun u hu => ints_one xs u (List.mem_of_mem_drop hu)) (by unfold maxLen; omega) (by omega) hH7.size ?_
              intro v3 w3 hown11 hg11 _
              refine hK.out _ _ ?_ (fun hH11 => ?_)
              · exact hH7.grown hg11 hH7.size (fun g hg => (hown7.lt g hg).1)
              clear hK K
              try simp only [Act.put, List.setIfInBounds_toArray, List.set_cons_zero, List.set_cons_succ]
              refine wpAnyH_take (i := 12) (v := ?_) (by simp only [List.getElem?_toArray, List.getElem?_cons_succ, List.getElem?_cons_zero]; rfl) (by kernel_rfl) (by kernel_rfl) (by kernel_rfl) (by exact fun _ _ _ h => h) (Or.inl ⟨by rfl, ?_⟩) (by assumption) ?_
              rotate_left
              · intro w' hSw; (try dsimp only at hSw); go_simp; try with_reducible rfl
              try simp only [Act.put, List.setIfInBounds_toArray, List.set_cons_zero, List.set_cons_succ]
              refine wpAnyH_done (by kernel_rfl) ?_ _
              have HR3 : Hid (w3.ownsRow B 3 1 v3 (putL x xs).length (ints (putL x xs))) := by
                show w3.ownsRow _ _ _ _ _ _
                rw [show (putL x xs).length = 0 + k + 1 + (xs.length - k) by rw [HR.out]; simp; omega, show ints (putL x xs) = [] ++ (ints xs).take k ++ [.int .i64 x] ++ (ints xs).drop k by rw [HR.out]; simp [ints]]
                exact own_base hown11 hB
              have HV3 := Lib.hid (own_some hown11 (by omega))
              have HH := Lib.hid hH11
              clear hown11 hg11 hown7 hg7
              go_wp2_with fail
              go_ret
              exact ⟨⟨_, rfl, HV3.out, HR3.out⟩, HH.out⟩
            · go_simp
              refine hK.out _ _ ?_ (fun hH6 => ?_)
              · exact (((Below.refl _ _).alloc (Nat.le_refl _) _).alloc (by simp) _).drew
              clear hK K
              try simp only [Act.put, List.setIfInBounds_toArray, List.set_cons_zero, List.set_cons_succ]
              refine wpAnyH_ready (rs := [4]) (by kernel_rfl) (by simp) ?_
              refine AllReadyH.cons (by simp only [List.getElem?_toArray, List.getElem?_cons_succ, List.getElem?_cons_zero]; rfl) (fun K hK => ?_) AllReadyH.nil
              rw [if_pos (by rfl)]
              refine wp_append_own _ _ _ 45 rfl w.heap.size 3 i0 (.int .i64 0) 1 8 Try.underlying45 hi hz0 hz1 hz2 rfl (by decide) _ _ _ rfl (((lit0 w.heap.size w _ (by simp) (by simp))).alloc _) ⟨b, off, none⟩ k _ ((ints xs).take k) rfl (by simp [ints]; omega) (HN1.out _ hH6) (fun u hu => ints_one xs u (List.mem_of_mem_take hu)) (by unfold maxLen; omega) (by omega) hH6.size ?_
              intro v1 w1 hown4 hg4 _
              refine hK.out _ _ ?_ (fun hH4 => ?_)
              · exact hH6.grown hg4 hH6.size (fun g hg => by cases hg; simp)
              clear hK K
              try simp only [Act.put, List.setIfInBounds_toArray, List.set_cons_zero, List.set_cons_succ]
              have hHc := hH4
              refine wpAnyH_ready (rs := [7]) (by kernel_rfl) (by simp) ?_
              refine AllReadyH.cons (by simp only [List.getElem?_toArray, List.getElem?_cons_succ, List.getElem?_cons_zero]; rfl) (fun K hK => ?_) AllReadyH.nil
              rw [if_pos (by rfl)]
              refine wp_append_own _ _ _ 45 rfl w.heap.size 3 i0 (.int .i64 0) 1 8 Try.underlying45 hi hz0 hz1 hz2 rfl (by decide) _ _ _ rfl hown4 ⟨w.heap.size + 1, 0, none⟩ 1 1 [.int .i64 x] rfl rfl (one_kept hg4 (one_newN (w.alloc (.cells #[] 3)) _ (w.heap.size + 1) (by simp)) (show Value.ownBlock (.slice (some ⟨w.heap.size, 0, none⟩) 0 0) ≠ some (w.heap.size + 1) by simp [Value.ownBlock])) (by intro u hu; simp at hu; subst hu; rfl) (by unfold maxLen; omega) (by omega) hHc.size ?_
              intro v2 w2 hown7 hg7 _
              refine hK.out _ _ ?_ (fun hH7 => ?_)
              · exact hHc.grown hg7 hHc.size (fun g hg => (hown4.lt g hg).1)
              clear hK K
              try simp only [Act.put, List.setIfInBounds_toArray, List.set_cons_zero, List.set_cons_succ]
              refine wpAnyH_ready (rs := [11]) (by kernel_rfl) (by simp) ?_
              refine AllReadyH.cons (by simp only [List.getElem?_toArray, List.getElem?_cons_succ, List.getElem?_cons_zero]; rfl) (fun K hK => ?_) AllReadyH.nil
              rw [if_pos (by rfl)]
              refine wp_append_own _ _ _ 45 rfl w.heap.size 3 i0 (.int .i64 0) 1 8 Try.underlying45 hi hz0 hz1 hz2 rfl (by decide) _ _ _ rfl hown7 ⟨b, off + k, none⟩ (xs.length - k) _ ((ints xs).drop k) rfl (by simp [ints]) (HN2.out _ hH7) (fun u hu => ints_one xs u (List.mem_of_mem_drop hu)) (by unfold maxLen; omega) (by omega) hH7.size ?_
              intro v3 w3 hown11 hg11 _
              refine hK.out _ _ ?_ (fun hH11 => ?_)
              · exact hH7.grown hg11 hH7.size (fun g hg => (hown7.lt g hg).1)
              clear hK K
              try simp only [Act.put, List.setIfInBounds_toArray, List.set_cons_zero, List.set_cons_succ]
              refine wpAnyH_take (i := 12) (v := ?_) (by simp only [List.getElem?_toArray, List.getElem?_cons_succ, List.getElem?_cons_zero]; rfl) (by kernel_rfl) (by kernel_rfl) (by kernel_rfl) (by exact fun _ _ _ h => h) (Or.inl ⟨by rfl, ?_⟩) (by assumption) ?_
              rotate_left
              · intro w' hSw; (try dsimp only at hSw); go_simp; try with_reducible rfl
              try simp only [Act.put, List.setIfInBounds_toArray, List.set_cons_zero, List.set_cons_succ]
              refine wpAnyH_done (by kernel_rfl) ?_ _
              have HR3 : Hid (w3.ownsRow B 3 1 v3 (putL x xs).length (ints (putL x xs))) := by
                show w3.ownsRow _ _ _ _ _ _
                rw [show (putL x xs).length = 0 + k + 1 + (xs.length - k) by rw [HR.out]; simp; omega, show ints (putL x xs) = [] ++ (ints xs).take k ++ [.int .i64 x] ++ (ints xs).drop k by rw [HR.out]; simp [ints]]
                exact own_base hown11 hB
              have HV3 := Lib.hid (own_some hown11 (by omega))
              have HH := Lib.hid hH11
              clear hown11 hg11 hown7 hg7
              go_wp2_with fail
              go_ret
              exact ⟨⟨_, rfl, HV3.out, HR3.out⟩, HH.out⟩
          · go_simp
            refine hK.out _ _ ?_ (fun hH6 => ?_)
            · exact ((Below.refl _ _).alloc (Nat.le_refl _) _).drew
            clear hK K
            try simp only [Act.put, List.setIfInBounds_toArray, List.set_cons_zero, List.set_cons_succ]
            refine wpAnyH_ready (rs := [0]) (by kernel_rfl) (by simp) ?_
            refine AllReadyH.cons (by simp only [List.getElem?_toArray, List.getElem?_cons_zero]; rfl) (fun K hK => ?_) AllReadyH.nil
            go_simp
            refine hK.out _ _ ?_ (fun hH0 => ?_)
            · exact (((Below.refl _ _).alloc (Nat.le_refl _) _).alloc (by simp) _).drew
            clear hK K
            try simp only [Act.put, List.setIfInBounds_toArray, List.set_cons_zero, List.set_cons_succ]
            refine wpAnyH_ready (rs := [4]) (by kernel_rfl) (by simp) ?_
            refine AllReadyH.cons (by simp only [List.getElem?_toArray, List.getElem?_cons_succ, List.getElem?_cons_zero]; rfl) (fun K hK => ?_) AllReadyH.nil
            rw [if_pos (by rfl)]
            refine wp_append_own _ _ _ 45 rfl w.heap.size 3 i0 (.int .i64 0) 1 8 Try.underlying45 hi hz0 hz1 hz2 rfl (by decide) _ _ _ rfl (lit0 w.heap.size (w.alloc (.cells #[.int .i64 x] 3)) _ (by simp) (by simp)) ⟨b, off, none⟩ k _ ((ints xs).take k) rfl (by simp [ints]; omega) (HN1.out _ hH0) (fun u hu => ints_one xs u (List.mem_of_mem_take hu)) (by unfold maxLen; omega) (by omega) hH0.size ?_
            intro v1 w1 hown4 hg4 _
            refine hK.out _ _ ?_ (fun hH4 => ?_)
            · exact hH0.grown hg4 hH0.size (fun g hg => by cases hg; simp)
            clear hK K
            try simp only [Act.put, List.setIfInBounds_toArray, List.set_cons_zero, List.set_cons_succ]
            have hHc := hH4
            refine wpAnyH_ready (rs := [7]) (by kernel_rfl) (by simp) ?_
            refine AllReadyH.cons (by simp only [List.getElem?_toArray, List.getElem?_cons_succ, List.getElem?_cons_zero]; rfl) (fun K hK => ?_) AllReadyH.nil
            rw [if_pos (by rfl)]
            refine wp_append_own _ _ _ 45 rfl w.heap.size 3 i0 (.int .i64 0) 1 8 Try.underlying45 hi hz0 hz1 hz2 rfl (by decide) _ _ _ rfl hown4 ⟨w.heap.size, 0, none⟩ 1 1 [.int .i64 x] rfl rfl (one_kept hg4 (fun j u hu => acell (one_newN w _ w.heap.size rfl j u hu) (.cells #[] 3)) (show Value.ownBlock (.slice (some ⟨w.heap.size + 1, 0, none⟩) 0 0) ≠ some w.heap.size by simp [Value.ownBlock])) (by intro u hu; simp at hu; subst hu; rfl) (by unfold maxLen; omega) (by omega) hHc.size ?_
            intro v2 w2 hown7 hg7 _
            refine hK.out _ _ ?_ (fun hH7 => ?_)
            · exact hHc.grown hg7 hHc.size (fun g hg => (hown4.lt g hg).1)
            clear hK K
            try simp only [Act.put, List.setIfInBounds_toArray, List.set_cons_zero, List.set_cons_succ]
            refine wpAnyH_ready (rs := [11]) (by kernel_rfl) (by simp) ?_
            refine AllReadyH.cons (by simp only [List.getElem?_toArray, List.getElem?_cons_succ, List.getElem?_cons_zero]; rfl) (fun K hK => ?_) AllReadyH.nil
            rw [if_pos (by rfl)]
            refine wp_append_own _ _ _ 45 rfl w.heap.size 3 i0 (.int .i64 0) 1 8 Try.underlying45 hi hz0 hz1 hz2 rfl (by decide) _ _ _ rfl hown7 ⟨b, off + k, none⟩ (xs.length - k) _ ((ints xs).drop k) rfl (by simp [ints]) (HN2.out _ hH7) (fun u hu => ints_one xs u (List.mem_of_mem_drop hu)) (by unfold maxLen; omega) (by omega) hH7.size ?_
            intro v3 w3 hown11 hg11 _
            refine hK.out _ _ ?_ (fun hH11 => ?_)
            · exact hH7.grown hg11 hH7.size (fun g hg => (hown7.lt g hg).1)
            clear hK K
            try simp only [Act.put, List.setIfInBounds_toArray, List.set_cons_zero, List.set_cons_succ]
            refine wpAnyH_take (i := 12) (v := ?_) (by simp only [List.getElem?_toArray, List.getElem?_cons_succ, List.getElem?_cons_zero]; rfl) (by kernel_rfl) (by kernel_rfl) (by kernel_rfl) (by exact fun _ _ _ h => h) (Or.inl ⟨by rfl, ?_⟩) (by assumption) ?_
            rotate_left
            · intro w' hSw; (try dsimp only at hSw); go_simp; try with_reducible rfl
            try simp only [Act.put, List.setIfInBounds_toArray, List.set_cons_zero, List.set_cons_succ]
            refine wpAnyH_done (by kernel_rfl) ?_ _
            have HR3 : Hid (w3.ownsRow B 3 1 v3 (putL x xs).length (ints (putL x xs))) := by
              show w3.ownsRow _ _ _ _ _ _
              rw [show (putL x xs).length = 0 + k + 1 + (xs.length - k) by rw [HR.out]; simp; omega, show ints (putL x xs) = [] ++ (ints xs).take k ++ [.int .i64 x] ++ (ints xs).drop k by rw [HR.out]; simp [ints]]
              exact own_base hown11 hB
            have HV3 := Lib.hid (own_some hown11 (by omega))
            have HH := Lib.hid hH11
            clear hown11 hg11 hown7 hg7
            go_wp2_with fail
            go_ret
            exact ⟨⟨_, rfl, HV3.out, HR3.out⟩, HH.out⟩
      · have he : k = xs.length := by omega
        have HR : Hid (putL x xs = xs.take k ++ ([x] ++ xs.drop k)) := by show _ = _; unfold putL; rw [HP.out, List.getElem?_eq_none (by omega), if_neg (by simp)]
        obtain ⟨b, off, ha⟩ : ∃ b off, a = some ⟨b, off, none⟩ := by
          obtain ⟨_, h2⟩ := HO0.out
          rcases h2 with ⟨hvv, _⟩ | ⟨g, cap, cur, hvv, _⟩
          · simp at hvv; rw [hvv.1] at hv; simp [Value.ownBlock] at hv
          · simp at hvv; exact ⟨_, _, hvv.1⟩
        subst ha
        have hbl : b < w.heap.size := (HO0.out.lt b rfl).2
        have hkc : ((k : Nat) : Int) ≤ (c : Int) := by omega
        have hke : ((xs.length : Nat) : Int) ≤ (k : Int) := by omega
        have HN1 : Hid (∀ W, Below w.heap.size w W → ∀ j u, ((ints xs).take k)[j]? = some u → W.cell? ((⟨b, off, none⟩ : Addr).add j) = some u) := fun W hW j u hu => by
          have hj : j < k ∧ j < xs.length := by have := (List.getElem?_eq_some_iff.1 hu).1; simp [ints] at this; omega
          have hu' : u = .int .i64 (xs[j]'hj.2) := by
            have := (List.getElem?_eq_some_iff.1 hu).2; simp [ints] at this; exact this.symm
          obtain ⟨b', off', he, _, h⟩ := HC.out j hj.2
          simp at he
          obtain ⟨rfl, rfl⟩ := he
          rw [addr_add, hW.cell (p := ⟨b, off + j, none⟩) hbl, h, hu']
        clear he
        by_cases hck : c = k
        · go_wp2_with fail
          have HN2 : Hid (∀ W, Below w.heap.size w W → ∀ j u, ((ints xs).drop k)[j]? = some u → W.cell? ((⟨b, off, none⟩ : Addr).add j) = some u) := fun W hW j u hu => by
            have := (List.getElem?_eq_some_iff.1 hu).1; simp [ints] at this; omega
          refine wp_region_held_drew (S := fun w' => Below w.heap.size w w') (by kernel_rfl) ?_ (fun hHeld => ?_)
          · exact (Below.refl _ _).drew
          refine wpAnyH_take (i := 1) (v := ?_) (by simp only [List.getElem?_toArray, List.getElem?_cons_succ, List.getElem?_cons_zero]; rfl) (by kernel_rfl) (by kernel_rfl) (by kernel_rfl) (by exact fun _ _ _ h => h) (Or.inl ⟨by rfl, ?_⟩) (by assumption) ?_
          rotate_left
          · intro w' hSw; (try dsimp only at hSw); go_simp; try with_reducible rfl
          try simp only [Act.put, List.setIfInBounds_toArray, List.set_cons_zero, List.set_cons_succ]
          refine wpAnyH_take (i := 2) (v := ?_) (by simp only [List.getElem?_toArray, List.getElem?_cons_succ, List.getElem?_cons_zero]; rfl) (by kernel_rfl) (by kernel_rfl) (by kernel_rfl) (by exact fun _ _ _ h => h) (Or.inl ⟨by rfl, ?_⟩) (by assumption) ?_
          rotate_left
          · intro w' hSw; (try dsimp only at hSw); go_simp; try with_reducible rfl
          try simp only [Act.put, List.setIfInBounds_toArray, List.set_cons_zero, List.set_cons_succ]
          refine wpAnyH_take (i := 3) (v := ?_) (by simp only [List.getElem?_toArray, List.getElem?_cons_succ, List.getElem?_cons_zero]; rfl) (by kernel_rfl) (by kernel_rfl) (by kernel_rfl) (by exact fun _ _ _ h => h) (Or.inl ⟨by rfl, ?_⟩) (by assumption) ?_
          rotate_left
          · intro w' hSw; (try dsimp only at hSw); go_simp; try with_reducible rfl
          try simp only [Act.put, List.setIfInBounds_toArray, List.set_cons_zero, List.set_cons_succ]
          refine wpAnyH_take (i := 5) (v := ?_) (by simp only [List.getElem?_toArray, List.getElem?_cons_succ, List.getElem?_cons_zero]; rfl) (by kernel_rfl) (by kernel_rfl) (by kernel_rfl) (by exact fun _ _ _ h => h) (Or.inl ⟨by rfl, ?_⟩) (by assumption) ?_
          rotate_left
          · intro w' hSw; (try dsimp only at hSw); go_simp; try with_reducible rfl
          try simp only [Act.put, List.setIfInBounds_toArray, List.set_cons_zero, List.set_cons_succ]
          refine wpAnyH_take (i := 8) (v := ?_) (by simp only [List.getElem?_toArray, List.getElem?_cons_succ, List.getElem?_cons_zero]; rfl) (by kernel_rfl) (by kernel_rfl) (by kernel_rfl) (by exact fun _ _ _ h => h) (Or.inl ⟨by rfl, ?_⟩) (by assumption) ?_
          rotate_left
          · intro w' hSw; (try dsimp only at hSw); go_simp; try with_reducible rfl
          try simp only [Act.put, List.setIfInBounds_toArray, List.set_cons_zero, List.set_cons_succ]
          refine wpAnyH_take (i := 9) (v := ?_) (by simp only [List.getElem?_toArray, List.getElem?_cons_succ, List.getElem?_cons_zero]; rfl) (by kernel_rfl) (by kernel_rfl) (by kernel_rfl) (by exact fun _ _ _ h => h) (Or.inl ⟨by rfl, ?_⟩) (by assumption) ?_
          rotate_left
          · intro w' hSw; (try dsimp only at hSw); go_simp; try with_reducible rfl
          try simp only [Act.put, List.setIfInBounds_toArray, List.set_cons_zero, List.set_cons_succ]
          refine wpAnyH_take (i := 10) (v := ?_) (by simp only [List.getElem?_toArray, List.getElem?_cons_succ, List.getElem?_cons_zero]; rfl) (by kernel_rfl) (by kernel_rfl) (by kernel_rfl) (by exact fun _ _ _ h => h) (Or.inl ⟨by rfl, ?_⟩) (by assumption) ?_
          rotate_left
          · intro w' hSw; (try dsimp only at hSw); go_simp; try with_reducible rfl
          try simp only [Act.put, List.setIfInBounds_toArray, List.set_cons_zero, List.set_cons_succ]
          refine wpAnyH_ready (rs := [0, 6]) (by kernel_rfl) (by simp) ?_
          refine AllReadyH.cons (by simp only [List.getElem?_toArray, List.getElem?_cons_zero]; rfl) (fun K hK => ?_) (AllReadyH.cons (by simp only [List.getElem?_toArray, List.getElem?_cons_succ, List.getElem?_cons_zero]; rfl) (fun K hK => ?_) AllReadyH.nil)
          · go_simp
            refine hK.out _ _ ?_ (fun hH0 => ?_)
            · exact ((Below.refl _ _).alloc (Nat.le_refl _) _).drew
            clear hK K
            try simp only [Act.put, List.setIfInBounds_toArray, List.set_cons_zero, List.set_cons_succ]
            refine wpAnyH_ready (rs := [4, 6]) (by kernel_rfl) (by simp) ?_
            refine AllReadyH.cons (by simp only [List.getElem?_toArray, List.getElem?_cons_succ, List.getElem?_cons_zero]; rfl) (fun K hK => ?_) (AllReadyH.cons (by simp only [List.getElem?_toArray, List.getElem?_cons_succ, List.getElem?_cons_zero]; rfl) (fun K hK => ?_) AllReadyH.nil)
            · rw [if_pos (by rfl)]
              refine wp_append_own _ _ _ 45 rfl w.heap.size 3 i0 (.int .i64 0) 1 8 Try.underlying45 hi hz0 hz1 hz2 rfl (by decide) _ _ _ rfl (lit0 w.heap.size w _ (by simp) (by simp)) ⟨b, off, none⟩ k _ ((ints xs).take k) rfl (by simp [ints]; omega) (HN1.out _ hH0) (fun u hu => ints_one xs u (List.mem_of_mem_take hu)) (by unfold maxLen; omega) (by omega) hH0.size ?_
              intro v1 w1 hown4 hg4 _
              refine hK.out _ _ ?_ (fun hH4 => ?_)
              · exact hH0.grown hg4 hH0.size (fun g hg => by cases hg; simp)
              clear hK K
              try simp only [Act.put, List.setIfInBounds_toArray, List.set_cons_zero, List.set_cons_succ]
              refine wpAnyH_ready (rs := [6]) (by kernel_rfl) (by simp) ?_
              refine AllReadyH.cons (by simp only [List.getElem?_toArray, List.getElem?_cons_succ, List.getElem?_cons_zero]; rfl) (fun K hK => ?_) AllReadyH.nil
              go_simp
              refine hK.out _ _ ?_ (fun hHc => ?_)
              · exact hH4.alloc hH4.size _
              clear hK K
              try simp only [Act.put, List.setIfInBounds_toArray, List.set_cons_zero, List.set_cons_succ]
              refine wpAnyH_ready (rs := [7]) (by kernel_rfl) (by simp) ?_
              refine AllReadyH.cons (by simp only [List.getElem?_toArray, List.getElem?_cons_succ, List.getElem?_cons_zero]; rfl) (fun K hK => ?_) AllReadyH.nil
              rw [if_pos (by rfl)]
              refine wp_append_own _ _ _ 45 rfl w.heap.size 3 i0 (.int .i64 0) 1 8 Try.underlying45 hi hz0 hz1 hz2 rfl (by decide) _ _ _ rfl (hown4.alloc _) ⟨w1.heap.size, 0, none⟩ 1 1 [.int .i64 x] rfl rfl (one_newN w1 _ _ rfl) (by intro u hu; simp at hu; subst hu; rfl) (by unfold maxLen; omega) (by omega) hHc.size ?_
              intro v2 w2 hown7 hg7 _
              refine hK.out _ _ ?_ (fun hH7 => ?_)
              · exact hHc.grown hg7 hHc.size (fun g hg => (hown4.lt g hg).1)
              clear hK K
              try simp only [Act.put, List.setIfInBounds_toArray, List.set_cons_zero, List.set_cons_succ]
              refine wpAnyH_ready (rs := [11]) (by kernel_rfl) (by simp) ?_
              refine AllReadyH.cons (by simp only [List.getElem?_toArray, List.getElem?_cons_succ, List.getElem?_cons_zero]; rfl) (fun K hK => ?_) AllReadyH.nil
              rw [if_pos (by rfl)]
              refine wp_append_own _ _ _ 45 rfl w.heap.size 3 i0 (.int .i64 0) 1 8 Try.underlying45 hi hz0 hz1 hz2 rfl (by decide) _ _ _ rfl hown7 ⟨b, off, none⟩ (xs.length - k) _ ((ints xs).drop k) rfl (by simp [ints]) (HN2.out _ hH7) (fun u hu => ints_one xs u (List.mem_of_mem_drop hu)) (by unfold maxLen; omega) (by omega) hH7.size ?_
              intro v3 w3 hown11 hg11 _
              refine hK.out _ _ ?_ (fun hH11 => ?_)
              · exact hH7.grown hg11 hH7.size (fun g hg => (hown7.lt g hg).1)
              clear hK K
              try simp only [Act.put, List.setIfInBounds_toArray, List.set_cons_zero, List.set_cons_succ]
              refine wpAnyH_take (i := 12) (v := ?_) (by simp only [List.getElem?_toArray, List.getElem?_cons_succ, List.getElem?_cons_zero]; rfl) (by kernel_rfl) (by kernel_rfl) (by kernel_rfl) (by exact fun _ _ _ h => h) (Or.inl ⟨by rfl, ?_⟩) (by assumption) ?_
              rotate_left
              · intro w' hSw; (try dsimp only at hSw); go_simp; try with_reducible rfl
              try simp only [Act.put, List.setIfInBounds_toArray, List.set_cons_zero, List.set_cons_succ]
              refine wpAnyH_done (by kernel_rfl) ?_ _
              have HR3 : Hid (w3.ownsRow B 3 1 v3 (putL x xs).length (ints (putL x xs))) := by
                show w3.ownsRow _ _ _ _ _ _
                rw [show (putL x xs).length = 0 + k + 1 + (xs.length - k) by rw [HR.out]; simp; omega, show ints (putL x xs) = [] ++ (ints xs).take k ++ [.int .i64 x] ++ (ints xs).drop k by rw [HR.out]; simp [ints]]
                exact own_base hown11 hB
              have HV3 := Lib.hid (own_some hown11 (by omega))
              have HH := Lib.hid hH11
              clear hown11 hg11 hown7 hg7
              go_wp2_with fail
              go_ret
              exact ⟨⟨_, rfl, HV3.out, HR3.out⟩, HH.out⟩
            · go_simp
              refine hK.out _ _ ?_ (fun hH6 => ?_)
              · exact (((Below.refl _ _).alloc (Nat.le_refl _) _).alloc (by simp) _).drew
              clear hK K
              try simp only [Act.put, List.setIfInBounds_toArray, List.set_cons_zero, List.set_cons_succ]
              refine wpAnyH_ready (rs := [4]) (by kernel_rfl) (by simp) ?_
              refine AllReadyH.cons (by simp only [List.getElem?_toArray, List.getElem?_cons_succ, List.getElem?_cons_zero]; rfl) (fun K hK => ?_) AllReadyH.nil
              rw [if_pos (by rfl)]
              refine wp_append_own _ _ _ 45 rfl w.heap.size 3 i0 (.int .i64 0) 1 8 Try.underlying45 hi hz0 hz1 hz2 rfl (by decide) _ _ _ rfl (((lit0 w.heap.size w _ (by simp) (by simp))).alloc _) ⟨b, off, none⟩ k _ ((ints xs).take k) rfl (by simp [ints]; omega) (HN1.out _ hH6) (fun u hu => ints_one xs u (List.mem_of_mem_take hu)) (by unfold maxLen; omega) (by omega) hH6.size ?_
              intro v1 w1 hown4 hg4 _
              refine hK.out _ _ ?_ (fun hH4 => ?_)
              · exact hH6.grown hg4 hH6.size (fun g hg => by cases hg; simp)
              clear hK K
              try simp only [Act.put, List.setIfInBounds_toArray, List.set_cons_zero, List.set_cons_succ]
              have hHc := hH4
              refine wpAnyH_ready (rs := [7]) (by kernel_rfl) (by simp) ?_
              refine AllReadyH.cons (by simp only [List.getElem?_toArray, List.getElem?_cons_succ, List.getElem?_cons_zero]; rfl) (fun K hK => ?_) AllReadyH.nil
              rw [if_pos (by rfl)]
              refine wp_append_own _ _ _ 45 rfl w.heap.size 3 i0 (.int .i64 0) 1 8 Try.underlying45 hi hz0 hz1 hz2 rfl (by decide) _ _ _ rfl hown4 ⟨w.heap.size + 1, 0, none⟩ 1 1 [.int .i64 x] rfl rfl (one_kept hg4 (one_newN (w.alloc (.cells #[] 3)) _ (w.heap.size + 1) (by simp)) (show Value.ownBlock (.slice (some ⟨w.heap.size, 0, none⟩) 0 0) ≠ some (w.heap.size + 1) by simp [Value.ownBlock])) (by intro u hu; simp at hu; subst hu; rfl) (by unfold maxLen; omega) (by omega) hHc.size ?_
              intro v2 w2 hown7 hg7 _
              refine hK.out _ _ ?_ (fun hH7 => ?_)
              · exact hHc.grown hg7 hHc.size (fun g hg => (hown4.lt g hg).1)
              clear hK K
              try simp only [Act.put, List.setIfInBounds_toArray, List.set_cons_zero, List.set_cons_succ]
              refine wpAnyH_ready (rs := [11]) (by kernel_rfl) (by simp) ?_
              refine AllReadyH.cons (by simp only [List.getElem?_toArray, List.getElem?_cons_succ, List.getElem?_cons_zero]; rfl) (fun K hK => ?_) AllReadyH.nil
              rw [if_pos (by rfl)]
              refine wp_append_own _ _ _ 45 rfl w.heap.size 3 i0 (.int .i64 0) 1 8 Try.underlying45 hi hz0 hz1 hz2 rfl (by decide) _ _ _ rfl hown7 ⟨b, off, none⟩ (xs.length - k) _ ((ints xs).drop k) rfl (by simp [ints]) (HN2.out _ hH7) (fun u hu => ints_one xs u (List.mem_of_mem_drop hu)) (by unfold maxLen; omega) (by omega) hH7.size ?_
              intro v3 w3 hown11 hg11 _
              refine hK.out _ _ ?_ (fun hH11 => ?_)
              · exact hH7.grown hg11 hH7.size (fun g hg => (hown7.lt g hg).1)
              clear hK K
              try simp only [Act.put, List.setIfInBounds_toArray, List.set_cons_zero, List.set_cons_succ]
              refine wpAnyH_take (i := 12) (v := ?_) (by simp only [List.getElem?_toArray, List.getElem?_cons_succ, List.getElem?_cons_zero]; rfl) (by kernel_rfl) (by kernel_rfl) (by kernel_rfl) (by exact fun _ _ _ h => h) (Or.inl ⟨by rfl, ?_⟩) (by assumption) ?_
              rotate_left
              · intro w' hSw; (try dsimp only at hSw); go_simp; try with_reducible rfl
              try simp only [Act.put, List.setIfInBounds_toArray, List.set_cons_zero, List.set_cons_succ]
              refine wpAnyH_done (by kernel_rfl) ?_ _
              have HR3 : Hid (w3.ownsRow B 3 1 v3 (putL x xs).length (ints (putL x xs))) := by
                show w3.ownsRow _ _ _ _ _ _
                rw [show (putL x xs).length = 0 + k + 1 + (xs.length - k) by rw [HR.out]; simp; omega, show ints (putL x xs) = [] ++ (ints xs).take k ++ [.int .i64 x] ++ (ints xs).drop k by rw [HR.out]; simp [ints]]
                exact own_base hown11 hB
              have HV3 := Lib.hid (own_some hown11 (by omega))
              have HH := Lib.hid hH11
              clear hown11 hg11 hown7 hg7
              go_wp2_with fail
              go_ret
              exact ⟨⟨_, rfl, HV3.out, HR3.out⟩, HH.out⟩
          · go_simp
            refine hK.out _ _ ?_ (fun hH6 => ?_)
            · exact ((Below.refl _ _).alloc (Nat.le_refl _) _).drew
            clear hK K
            try simp only [Act.put, List.setIfInBounds_toArray, List.set_cons_zero, List.set_cons_succ]
            refine wpAnyH_ready (rs := [0]) (by kernel_rfl) (by simp) ?_
            refine AllReadyH.cons (by simp only [List.getElem?_toArray, List.getElem?_cons_zero]; rfl) (fun K hK => ?_) AllReadyH.nil
            go_simp
            refine hK.out _ _ ?_ (fun hH0 => ?_)
            · exact (((Below.refl _ _).alloc (Nat.le_refl _) _).alloc (by simp) _).drew
            clear hK K
            try simp only [Act.put, List.setIfInBounds_toArray, List.set_cons_zero, List.set_cons_succ]
            refine wpAnyH_ready (rs := [4]) (by kernel_rfl) (by simp) ?_
            refine AllReadyH.cons (by simp only [List.getElem?_toArray, List.getElem?_cons_succ, List.getElem?_cons_zero]; rfl) (fun K hK => ?_) AllReadyH.nil
            rw [if_pos (by rfl)]
            refine wp_append_own _ _ _ 45 rfl w.heap.size 3 i0 (.int .i64 0) 1 8 Try.underlying45 hi hz0 hz1 hz2 rfl (by decide) _ _ _ rfl (lit0 w.heap.size (w.alloc (.cells #[.int .i64 x] 3)) _ (by simp) (by simp)) ⟨b, off, none⟩ k _ ((ints xs).take k) rfl (by simp [ints]; omega) (HN1.out _ hH0) (fun u hu => ints_one xs u (List.mem_of_mem_take hu)) (by unfold maxLen; omega) (by omega) hH0.size ?_
            intro v1 w1 hown4 hg4 _
            refine hK.out _ _ ?_ (fun hH4 => ?_)
            · exact hH0.grown hg4 hH0.size (fun g hg => by cases hg; simp)
            clear hK K
            try simp only [Act.put, List.setIfInBounds_toArray, List.set_cons_zero, List.set_cons_succ]
            have hHc := hH4
            refine wpAnyH_ready (rs := [7]) (by kernel_rfl) (by simp) ?_
            refine AllReadyH.cons (by simp only [List.getElem?_toArray, List.getElem?_cons_succ, List.getElem?_cons_zero]; rfl) (fun K hK => ?_) AllReadyH.nil
            rw [if_pos (by rfl)]
            refine wp_append_own _ _ _ 45 rfl w.heap.size 3 i0 (.int .i64 0) 1 8 Try.underlying45 hi hz0 hz1 hz2 rfl (by decide) _ _ _ rfl hown4 ⟨w.heap.size, 0, none⟩ 1 1 [.int .i64 x] rfl rfl (one_kept hg4 (fun j u hu => acell (one_newN w _ w.heap.size rfl j u hu) (.cells #[] 3)) (show Value.ownBlock (.slice (some ⟨w.heap.size + 1, 0, none⟩) 0 0) ≠ some w.heap.size by simp [Value.ownBlock])) (by intro u hu; simp at hu; subst hu; rfl) (by unfold maxLen; omega) (by omega) hHc.size ?_
            intro v2 w2 hown7 hg7 _
            refine hK.out _ _ ?_ (fun hH7 => ?_)
            · exact hHc.grown hg7 hHc.size (fun g hg => (hown4.lt g hg).1)
            clear hK K
            try simp only [Act.put, List.setIfInBounds_toArray, List.set_cons_zero, List.set_cons_succ]
            refine wpAnyH_ready (rs := [11]) (by kernel_rfl) (by simp) ?_
            refine AllReadyH.cons (by simp only [List.getElem?_toArray, List.getElem?_cons_succ, List.getElem?_cons_zero]; rfl) (fun K hK => ?_) AllReadyH.nil
            rw [if_pos (by rfl)]
            refine wp_append_own _ _ _ 45 rfl w.heap.size 3 i0 (.int .i64 0) 1 8 Try.underlying45 hi hz0 hz1 hz2 rfl (by decide) _ _ _ rfl hown7 ⟨b, off, none⟩ (xs.length - k) _ ((ints xs).drop k) rfl (by simp [ints]) (HN2.out _ hH7) (fun u hu => ints_one xs u (List.mem_of_mem_drop hu)) (by unfold maxLen; omega) (by omega) hH7.size ?_
            intro v3 w3 hown11 hg11 _
            refine hK.out _ _ ?_ (fun hH11 => ?_)
            · exact hH7.grown hg11 hH7.size (fun g hg => (hown7.lt g hg).1)
            clear hK K
            try simp only [Act.put, List.setIfInBounds_toArray, List.set_cons_zero, List.set_cons_succ]
            refine wpAnyH_take (i := 12) (v := ?_) (by simp only [List.getElem?_toArray, List.getElem?_cons_succ, List.getElem?_cons_zero]; rfl) (by kernel_rfl) (by kernel_rfl) (by kernel_rfl) (by exact fun _ _ _ h => h) (Or.inl ⟨by rfl, ?_⟩) (by assumption) ?_
            rotate_left
            · intro w' hSw; (try dsimp only at hSw); go_simp; try with_reducible rfl
            try simp only [Act.put, List.setIfInBounds_toArray, List.set_cons_zero, List.set_cons_succ]
            refine wpAnyH_done (by kernel_rfl) ?_ _
            have HR3 : Hid (w3.ownsRow B 3 1 v3 (putL x xs).length (ints (putL x xs))) := by
              show w3.ownsRow _ _ _ _ _ _
              rw [show (putL x xs).length = 0 + k + 1 + (xs.length - k) by rw [HR.out]; simp; omega, show ints (putL x xs) = [] ++ (ints xs).take k ++ [.int .i64 x] ++ (ints xs).drop k by rw [HR.out]; simp [ints]]
              exact own_base hown11 hB
            have HV3 := Lib.hid (own_some hown11 (by omega))
            have HH := Lib.hid hH11
            clear hown11 hg11 hown7 hg7
            go_wp2_with fail
            go_ret
            exact ⟨⟨_, rfl, HV3.out, HR3.out⟩, HH.out⟩
        · go_wp2_with fail
          have HN2 : Hid (∀ W, Below w.heap.size w W → ∀ j u, ((ints xs).drop k)[j]? = some u → W.cell? ((⟨b, off + k, none⟩ : Addr).add j) = some u) := fun W hW j u hu => by
            have := (List.getElem?_eq_some_iff.1 hu).1; simp [ints] at this; omega
          refine wp_region_held_drew (S := fun w' => Below w.heap.size w w') (by kernel_rfl) ?_ (fun hHeld => ?_)
          · exact (Below.refl _ _).drew
          refine wpAnyH_take (i := 1) (v := ?_) (by simp only [List.getElem?_toArray, List.getElem?_cons_succ, List.getElem?_cons_zero]; rfl) (by kernel_rfl) (by kernel_rfl) (by kernel_rfl) (by exact fun _ _ _ h => h) (Or.inl ⟨by rfl, ?_⟩) (by assumption) ?_
          rotate_left
          · intro w' hSw; (try dsimp only at hSw); go_simp; try with_reducible rfl
          try simp only [Act.put, List.setIfInBounds_toArray, List.set_cons_zero, List.set_cons_succ]
          refine wpAnyH_take (i := 2) (v := ?_) (by simp only [List.getElem?_toArray, List.getElem?_cons_succ, List.getElem?_cons_zero]; rfl) (by kernel_rfl) (by kernel_rfl) (by kernel_rfl) (by exact fun _ _ _ h => h) (Or.inl ⟨by rfl, ?_⟩) (by assumption) ?_
          rotate_left
          · intro w' hSw; (try dsimp only at hSw); go_simp; try with_reducible rfl
          try simp only [Act.put, List.setIfInBounds_toArray, List.set_cons_zero, List.set_cons_succ]
          refine wpAnyH_take (i := 3) (v := ?_) (by simp only [List.getElem?_toArray, List.getElem?_cons_succ, List.getElem?_cons_zero]; rfl) (by kernel_rfl) (by kernel_rfl) (by kernel_rfl) (by exact fun _ _ _ h => h) (Or.inl ⟨by rfl, ?_⟩) (by assumption) ?_
          rotate_left
          · intro w' hSw; (try dsimp only at hSw); go_simp; try with_reducible rfl
          try simp only [Act.put, List.setIfInBounds_toArray, List.set_cons_zero, List.set_cons_succ]
          refine wpAnyH_take (i := 5) (v := ?_) (by simp only [List.getElem?_toArray, List.getElem?_cons_succ, List.getElem?_cons_zero]; rfl) (by kernel_rfl) (by kernel_rfl) (by kernel_rfl) (by exact fun _ _ _ h => h) (Or.inl ⟨by rfl, ?_⟩) (by assumption) ?_
          rotate_left
          · intro w' hSw; (try dsimp only at hSw); go_simp; try with_reducible rfl
          try simp only [Act.put, List.setIfInBounds_toArray, List.set_cons_zero, List.set_cons_succ]
          refine wpAnyH_take (i := 8) (v := ?_) (by simp only [List.getElem?_toArray, List.getElem?_cons_succ, List.getElem?_cons_zero]; rfl) (by kernel_rfl) (by kernel_rfl) (by kernel_rfl) (by exact fun _ _ _ h => h) (Or.inl ⟨by rfl, ?_⟩) (by assumption) ?_
          rotate_left
          · intro w' hSw; (try dsimp only at hSw); go_simp; try with_reducible rfl
          try simp only [Act.put, List.setIfInBounds_toArray, List.set_cons_zero, List.set_cons_succ]
          refine wpAnyH_take (i := 9) (v := ?_) (by simp only [List.getElem?_toArray, List.getElem?_cons_succ, List.getElem?_cons_zero]; rfl) (by kernel_rfl) (by kernel_rfl) (by kernel_rfl) (by exact fun _ _ _ h => h) (Or.inl ⟨by rfl, ?_⟩) (by assumption) ?_
          rotate_left
          · intro w' hSw; (try dsimp only at hSw); go_simp; try with_reducible rfl
          try simp only [Act.put, List.setIfInBounds_toArray, List.set_cons_zero, List.set_cons_succ]
          refine wpAnyH_take (i := 10) (v := ?_) (by simp only [List.getElem?_toArray, List.getElem?_cons_succ, List.getElem?_cons_zero]; rfl) (by kernel_rfl) (by kernel_rfl) (by kernel_rfl) (by exact fun _ _ _ h => h) (Or.inl ⟨by rfl, ?_⟩) (by assumption) ?_
          rotate_left
          · intro w' hSw; (try dsimp only at hSw); go_simp; try with_reducible rfl
          try simp only [Act.put, List.setIfInBounds_toArray, List.set_cons_zero, List.set_cons_succ]
          refine wpAnyH_ready (rs := [0, 6]) (by kernel_rfl) (by simp) ?_
          refine AllReadyH.cons (by simp only [List.getElem?_toArray, List.getElem?_cons_zero]; rfl) (fun K hK => ?_) (AllReadyH.cons (by simp only [List.getElem?_toArray, List.getElem?_cons_succ, List.getElem?_cons_zero]; rfl) (fun K hK => ?_) AllReadyH.nil)
          · go_simp
            refine hK.out _ _ ?_ (fun hH0 => ?_)
            · exact ((Below.refl _ _).alloc (Nat.le_refl _) _).drew
            clear hK K
            try simp only [Act.put, List.setIfInBounds_toArray, List.set_cons_zero, List.set_cons_succ]
            refine wpAnyH_ready (rs := [4, 6]) (by kernel_rfl) (by simp) ?_
            refine AllReadyH.cons (by simp only [List.getElem?_toArray, List.getElem?_cons_succ, List.getElem?_cons_zero]; rfl) (fun K hK => ?_) (AllReadyH.cons (by simp only [List.getElem?_toArray, List.getElem?_cons_succ, List.getElem?_cons_zero]; rfl) (fun K hK => ?_) AllReadyH.nil)
            · rw [if_pos (by rfl)]
              refine wp_append_own _ _ _ 45 rfl w.heap.size 3 i0 (.int .i64 0) 1 8 Try.underlying45 hi hz0 hz1 hz2 rfl (by decide) _ _ _ rfl (lit0 w.heap.size w _ (by simp) (by simp)) ⟨b, off, none⟩ k _ ((ints xs).take k) rfl (by simp [ints]; omega) (HN1.out _ hH0) (fun u hu => ints_one xs u (List.mem_of_mem_take hu)) (by unfold maxLen; omega) (by omega) hH0.size ?_
              intro v1 w1 hown4 hg4 _
              refine hK.out _ _ ?_ (fun hH4 => ?_)
              · exact hH0.grown hg4 hH0.size (fun g hg => by cases hg; simp)
              clear hK K
              try simp only [Act.put, List.setIfInBounds_toArray, List.set_cons_zero, List.set_cons_succ]
              refine wpAnyH_ready (rs := [6]) (by kernel_rfl) (by simp) ?_
              refine AllReadyH.cons (by simp only [List.getElem?_toArray, List.getElem?_cons_succ, List.getElem?_cons_zero]; rfl) (fun K hK => ?_) AllReadyH.nil
              go_simp
              refine hK.out _ _ ?_ (fun hHc => ?_)
              · exact hH4.alloc hH4.size _
              clear hK K
              try simp only [Act.put, List.setIfInBounds_toArray, List.set_cons_zero, List.set_cons_succ]
              refine wpAnyH_ready (rs := [7]) (by kernel_rfl) (by simp) ?_
              refine AllReadyH.cons (by simp only [List.getElem?_toArray, List.getElem?_cons_succ, List.getElem?_cons_zero]; rfl) (fun K hK => ?_) AllReadyH.nil
              rw [if_pos (by rfl)]
              refine wp_append_own _ _ _ 45 rfl w.heap.size 3 i0 (.int .i64 0) 1 8 Try.underlying45 hi hz0 hz1 hz2 rfl (by decide) _ _ _ rfl (hown4.alloc _) ⟨w1.heap.size, 0, none⟩ 1 1 [.int .i64 x] rfl rfl (one_newN w1 _ _ rfl) (by intro u hu; simp at hu; subst hu; rfl) (by unfold maxLen; omega) (by omega) hHc.size ?_
              intro v2 w2 hown7 hg7 _
              refine hK.out _ _ ?_ (fun hH7 => ?_)
              · exact hHc.grown hg7 hHc.size (fun g hg => (hown4.lt g hg).1)
              clear hK K
              try simp only [Act.put, List.setIfInBounds_toArray, List.set_cons_zero, List.set_cons_succ]
              refine wpAnyH_ready (rs := [11]) (by kernel_rfl) (by simp) ?_
              refine AllReadyH.cons (by simp only [List.getElem?_toArray, List.getElem?_cons_succ, List.getElem?_cons_zero]; rfl) (fun K hK => ?_) AllReadyH.nil
              rw [if_pos (by rfl)]
              refine wp_append_own _ _ _ 45 rfl w.heap.size 3 i0 (.int .i64 0) 1 8 Try.underlying45 hi hz0 hz1 hz2 rfl (by decide) _ _ _ rfl hown7 ⟨b, off + k, none⟩ (xs.length - k) _ ((ints xs).drop k) rfl (by simp [ints]) (HN2.out _ hH7) (fun u hu => ints_one xs u (List.mem_of_mem_drop hu)) (by unfold maxLen; omega) (by omega) hH7.size ?_
              intro v3 w3 hown11 hg11 _
              refine hK.out _ _ ?_ (fun hH11 => ?_)
              · exact hH7.grown hg11 hH7.size (fun g hg => (hown7.lt g hg).1)
              clear hK K
              try simp only [Act.put, List.setIfInBounds_toArray, List.set_cons_zero, List.set_cons_succ]
              refine wpAnyH_take (i := 12) (v := ?_) (by simp only [List.getElem?_toArray, List.getElem?_cons_succ, List.getElem?_cons_zero]; rfl) (by kernel_rfl) (by kernel_rfl) (by kernel_rfl) (by exact fun _ _ _ h => h) (Or.inl ⟨by rfl, ?_⟩) (by assumption) ?_
              rotate_left
              · intro w' hSw; (try dsimp only at hSw); go_simp; try with_reducible rfl
              try simp only [Act.put, List.setIfInBounds_toArray, List.set_cons_zero, List.set_cons_succ]
              refine wpAnyH_done (by kernel_rfl) ?_ _
              have HR3 : Hid (w3.ownsRow B 3 1 v3 (putL x xs).length (ints (putL x xs))) := by
                show w3.ownsRow _ _ _ _ _ _
                rw [show (putL x xs).length = 0 + k + 1 + (xs.length - k) by rw [HR.out]; simp; omega, show ints (putL x xs) = [] ++ (ints xs).take k ++ [.int .i64 x] ++ (ints xs).drop k by rw [HR.out]; simp [ints]]
                exact own_base hown11 hB
              have HV3 := Lib.hid (own_some hown11 (by omega))
              have HH := Lib.hid hH11
              clear hown11 hg11 hown7 hg7
              go_wp2_with fail
              go_ret
              exact ⟨⟨_, rfl, HV3.out, HR3.out⟩, HH.out⟩
            · go_simp
              refine hK.out _ _ ?_ (fun hH6 => ?_)
              · exact (((Below.refl _ _).alloc (Nat.le_refl _) _).alloc (by simp) _).drew
              clear hK K
              try simp only [Act.put, List.setIfInBounds_toArray, List.set_cons_zero, List.set_cons_succ]
              refine wpAnyH_ready (rs := [4]) (by kernel_rfl) (by simp) ?_
              refine AllReadyH.cons (by simp only [List.getElem?_toArray, List.getElem?_cons_succ, List.getElem?_cons_zero]; rfl) (fun K hK => ?_) AllReadyH.nil
              rw [if_pos (by rfl)]
              refine wp_append_own _ _ _ 45 rfl w.heap.size 3 i0 (.int .i64 0) 1 8 Try.underlying45 hi hz0 hz1 hz2 rfl (by decide) _ _ _ rfl (((lit0 w.heap.size w _ (by simp) (by simp))).alloc _) ⟨b, off, none⟩ k _ ((ints xs).take k) rfl (by simp [ints]; omega) (HN1.out _ hH6) (fun u hu => ints_one xs u (List.mem_of_mem_take hu)) (by unfold maxLen; omega) (by omega) hH6.size ?_
              intro v1 w1 hown4 hg4 _
              refine hK.out _ _ ?_ (fun hH4 => ?_)
              · exact hH6.grown hg4 hH6.size (fun g hg => by cases hg; simp)
              clear hK K
              try simp only [Act.put, List.setIfInBounds_toArray, List.set_cons_zero, List.set_cons_succ]
              have hHc := hH4
              refine wpAnyH_ready (rs := [7]) (by kernel_rfl) (by simp) ?_
              refine AllReadyH.cons (by simp only [List.getElem?_toArray, List.getElem?_cons_succ, List.getElem?_cons_zero]; rfl) (fun K hK => ?_) AllReadyH.nil
              rw [if_pos (by rfl)]
              refine wp_append_own _ _ _ 45 rfl w.heap.size 3 i0 (.int .i64 0) 1 8 Try.underlying45 hi hz0 hz1 hz2 rfl (by decide) _ _ _ rfl hown4 ⟨w.heap.size + 1, 0, none⟩ 1 1 [.int .i64 x] rfl rfl (one_kept hg4 (one_newN (w.alloc (.cells #[] 3)) _ (w.heap.size + 1) (by simp)) (show Value.ownBlock (.slice (some ⟨w.heap.size, 0, none⟩) 0 0) ≠ some (w.heap.size + 1) by simp [Value.ownBlock])) (by intro u hu; simp at hu; subst hu; rfl) (by unfold maxLen; omega) (by omega) hHc.size ?_
              intro v2 w2 hown7 hg7 _
              refine hK.out _ _ ?_ (fun hH7 => ?_)
              · exact hHc.grown hg7 hHc.size (fun g hg => (hown4.lt g hg).1)
              clear hK K
              try simp only [Act.put, List.setIfInBounds_toArray, List.set_cons_zero, List.set_cons_succ]
              refine wpAnyH_ready (rs := [11]) (by kernel_rfl) (by simp) ?_
              refine AllReadyH.cons (by simp only [List.getElem?_toArray, List.getElem?_cons_succ, List.getElem?_cons_zero]; rfl) (fun K hK => ?_) AllReadyH.nil
              rw [if_pos (by rfl)]
              refine wp_append_own _ _ _ 45 rfl w.heap.size 3 i0 (.int .i64 0) 1 8 Try.underlying45 hi hz0 hz1 hz2 rfl (by decide) _ _ _ rfl hown7 ⟨b, off + k, none⟩ (xs.length - k) _ ((ints xs).drop k) rfl (by simp [ints]) (HN2.out _ hH7) (fun u hu => ints_one xs u (List.mem_of_mem_drop hu)) (by unfold maxLen; omega) (by omega) hH7.size ?_
              intro v3 w3 hown11 hg11 _
              refine hK.out _ _ ?_ (fun hH11 => ?_)
              · exact hH7.grown hg11 hH7.size (fun g hg => (hown7.lt g hg).1)
              clear hK K
              try simp only [Act.put, List.setIfInBounds_toArray, List.set_cons_zero, List.set_cons_succ]
              refine wpAnyH_take (i := 12) (v := ?_) (by simp only [List.getElem?_toArray, List.getElem?_cons_succ, List.getElem?_cons_zero]; rfl) (by kernel_rfl) (by kernel_rfl) (by kernel_rfl) (by exact fun _ _ _ h => h) (Or.inl ⟨by rfl, ?_⟩) (by assumption) ?_
              rotate_left
              · intro w' hSw; (try dsimp only at hSw); go_simp; try with_reducible rfl
              try simp only [Act.put, List.setIfInBounds_toArray, List.set_cons_zero, List.set_cons_succ]
              refine wpAnyH_done (by kernel_rfl) ?_ _
              have HR3 : Hid (w3.ownsRow B 3 1 v3 (putL x xs).length (ints (putL x xs))) := by
                show w3.ownsRow _ _ _ _ _ _
                rw [show (putL x xs).length = 0 + k + 1 + (xs.length - k) by rw [HR.out]; simp; omega, show ints (putL x xs) = [] ++ (ints xs).take k ++ [.int .i64 x] ++ (ints xs).drop k by rw [HR.out]; simp [ints]]
                exact own_base hown11 hB
              have HV3 := Lib.hid (own_some hown11 (by omega))
              have HH := Lib.hid hH11
              clear hown11 hg11 hown7 hg7
              go_wp2_with fail
              go_ret
              exact ⟨⟨_, rfl, HV3.out, HR3.out⟩, HH.out⟩
          · go_simp
            refine hK.out _ _ ?_ (fun hH6 => ?_)
            · exact ((Below.refl _ _).alloc (Nat.le_refl _) _).drew
            clear hK K
            try simp only [Act.put, List.setIfInBounds_toArray, List.set_cons_zero, List.set_cons_succ]
            refine wpAnyH_ready (rs := [0]) (by kernel_rfl) (by simp) ?_
            refine AllReadyH.cons (by simp only [List.getElem?_toArray, List.getElem?_cons_zero]; rfl) (fun K hK => ?_) AllReadyH.nil
            go_simp
            refine hK.out _ _ ?_ (fun hH0 => ?_)
            · exact (((Below.refl _ _).alloc (Nat.le_refl _) _).alloc (by simp) _).drew
            clear hK K
            try simp only [Act.put, List.setIfInBounds_toArray, List.set_cons_zero, List.set_cons_succ]
            refine wpAnyH_ready (rs := [4]) (by kernel_rfl) (by simp) ?_
            refine AllReadyH.cons (by simp only [List.getElem?_toArray, List.getElem?_cons_succ, List.getElem?_cons_zero]; rfl) (fun K hK => ?_) AllReadyH.nil
            rw [if_pos (by rfl)]
            refine wp_append_own _ _ _ 45 rfl w.heap.size 3 i0 (.int .i64 0) 1 8 Try.underlying45 hi hz0 hz1 hz2 rfl (by decide) _ _ _ rfl (lit0 w.heap.size (w.alloc (.cells #[.int .i64 x] 3)) _ (by simp) (by simp)) ⟨b, off, none⟩ k _ ((ints xs).take k) rfl (by simp [ints]; omega) (HN1.out _ hH0) (fun u hu => ints_one xs u (List.mem_of_mem_take hu)) (by unfold maxLen; omega) (by omega) hH0.size ?_
            intro v1 w1 hown4 hg4 _
            refine hK.out _ _ ?_ (fun hH4 => ?_)
            · exact hH0.grown hg4 hH0.size (fun g hg => by cases hg; simp)
            clear hK K
            try simp only [Act.put, List.setIfInBounds_toArray, List.set_cons_zero, List.set_cons_succ]
            have hHc := hH4
            refine wpAnyH_ready (rs := [7]) (by kernel_rfl) (by simp) ?_
            refine AllReadyH.cons (by simp only [List.getElem?_toArray, List.getElem?_cons_succ, List.getElem?_cons_zero]; rfl) (fun K hK => ?_) AllReadyH.nil
            rw [if_pos (by rfl)]
            refine wp_append_own _ _ _ 45 rfl w.heap.size 3 i0 (.int .i64 0) 1 8 Try.underlying45 hi hz0 hz1 hz2 rfl (by decide) _ _ _ rfl hown4 ⟨w.heap.size, 0, none⟩ 1 1 [.int .i64 x] rfl rfl (one_kept hg4 (fun j u hu => acell (one_newN w _ w.heap.size rfl j u hu) (.cells #[] 3)) (show Value.ownBlock (.slice (some ⟨w.heap.size + 1, 0, none⟩) 0 0) ≠ some w.heap.size by simp [Value.ownBlock])) (by intro u hu; simp at hu; subst hu; rfl) (by unfold maxLen; omega) (by omega) hHc.size ?_
            intro v2 w2 hown7 hg7 _
            refine hK.out _ _ ?_ (fun hH7 => ?_)
            · exact hHc.grown hg7 hHc.size (fun g hg => (hown4.lt g hg).1)
            clear hK K
            try simp only [Act.put, List.setIfInBounds_toArray, List.set_cons_zero, List.set_cons_succ]
            refine wpAnyH_ready (rs := [11]) (by kernel_rfl) (by simp) ?_
            refine AllReadyH.cons (by simp only [List.getElem?_toArray, List.getElem?_cons_succ, List.getElem?_cons_zero]; rfl) (fun K hK => ?_) AllReadyH.nil
            rw [if_pos (by rfl)]
            refine wp_append_own _ _ _ 45 rfl w.heap.size 3 i0 (.int .i64 0) 1 8 Try.underlying45 hi hz0 hz1 hz2 rfl (by decide) _ _ _ rfl hown7 ⟨b, off + k, none⟩ (xs.length - k) _ ((ints xs).drop k) rfl (by simp [ints]) (HN2.out _ hH7) (fun u hu => ints_one xs u (List.mem_of_mem_drop hu)) (by unfold maxLen; omega) (by omega) hH7.size ?_
            intro v3 w3 hown11 hg11 _
            refine hK.out _ _ ?_ (fun hH11 => ?_)
            · exact hH7.grown hg11 hH7.size (fun g hg => (hown7.lt g hg).1)
            clear hK K
            try simp only [Act.put, List.setIfInBounds_toArray, List.set_cons_zero, List.set_cons_succ]
            refine wpAnyH_take (i := 12) (v := ?_) (by simp only [List.getElem?_toArray, List.getElem?_cons_succ, List.getElem?_cons_zero]; rfl) (by kernel_rfl) (by kernel_rfl) (by kernel_rfl) (by exact fun _ _ _ h => h) (Or.inl ⟨by rfl, ?_⟩) (by assumption) ?_
            rotate_left
            · intro w' hSw; (try dsimp only at hSw); go_simp; try with_reducible rfl
            try simp only [Act.put, List.setIfInBounds_toArray, List.set_cons_zero, List.set_cons_succ]
            refine wpAnyH_done (by kernel_rfl) ?_ _
            have HR3 : Hid (w3.ownsRow B 3 1 v3 (putL x xs).length (ints (putL x xs))) := by
              show w3.ownsRow _ _ _ _ _ _
              rw [show (putL x xs).length = 0 + k + 1 + (xs.length - k) by rw [HR.out]; simp; omega, show ints (putL x xs) = [] ++ (ints xs).take k ++ [.int .i64 x] ++ (ints xs).drop k by rw [HR.out]; simp [ints]]
              exact own_base hown11 hB
            have HV3 := Lib.hid (own_some hown11 (by omega))
            have HH := Lib.hid hH11
            clear hown11 hg11 hown7 hg7
            go_wp2_with fail
            go_ret
            exact ⟨⟨_, rfl, HV3.out, HR3.out⟩, HH.out⟩
theorem l1Put_own (v : Value) (xs : List Int) (x : Int) (B : Nat) (w : World) (hr : w.ownsRow B 3 1 v xs.length (ints xs)) (hv : v.ownBlock ≠ none) (hB : B ≤ w.heap.size) (hn : xs.length ≤ 1048576) :
    Calls Try.prog 182 #[v, .int .i64 x] w fun e w' => (∃ v', e = .returned v' ∧ v'.ownBlock ≠ none ∧ w'.ownsRow B 3 1 v' (putL x xs).length (ints (putL x xs))) ∧ Below w.heap.size w w' :=
  l1Put_gen v xs x B B w hr (fun _ => hr) hv hB hn
end Go.Proofs.Ytniankcjgcackaa
