import Derived.Test.YtemejcbilhcebaaWalkGood
import Derived.Outline
namespace Go.Proofs.Ytemejcbilhcebaa
open Go.RowKit
set_option linter.unusedVariables false
set_option linter.unusedSimpArgs false

def NodeAt (w : World) (fb : Nat) : Chn → Value → Prop
  | [], v => v = .pointer none
  | (s, m) :: q, v => ∃ b v', v = .pointer (some ⟨b, 0, none⟩) ∧ b < w.heap.size ∧ b ≠ fb ∧ w.cell? ⟨b, 0, none⟩ = some v' ∧ w.cell? ⟨b, 1, none⟩ = some (.int .i64 s) ∧ w.cell? ⟨b, 2, none⟩ = some (.int .i64 ((q.length + 1 : Nat) : Int)) ∧ w.cell? ⟨b, 3, none⟩ = some (.int .i64 m) ∧ NodeAt w fb q v'
theorem NodeAt.out {w w' : World} {fb : Nat} (h : Out fb (fb + 1) w w') : ∀ {p : Chn} {v : Value}, NodeAt w fb p v → NodeAt w' fb p v
  | [], v, hv => hv
  | (s, m) :: q, v, ⟨b, v', e, hl, hne, h0, h1, h2, h3, hq⟩ =>
    ⟨b, v', e, Nat.lt_of_lt_of_le hl h.below.size, hne, h.cell (p := ⟨b, 0, none⟩) (by dsimp only; omega) h0, h.cell (p := ⟨b, 1, none⟩) (by dsimp only; omega) h1, h.cell (p := ⟨b, 2, none⟩) (by dsimp only; omega) h2, h.cell (p := ⟨b, 3, none⟩) (by dsimp only; omega) h3, NodeAt.out h hq⟩
def NodesAt (w : World) (fb : Nat) (vs : List Value) (σ : List Chn) : Prop := vs.length = σ.length ∧ ∀ s (h : s < σ.length) (h' : s < vs.length), NodeAt w fb σ[s] vs[s]
theorem NodesAt.out {w w' : World} {fb : Nat} {vs : List Value} {σ : List Chn} (h : NodesAt w fb vs σ) (ho : Out fb (fb + 1) w w') : NodesAt w' fb vs σ := ⟨h.1, fun s h1 h2 => (h.2 s h1 h2).out ho⟩
theorem NodesAt.set {w : World} {fb : Nat} {vs : List Value} {σ : List Chn} (h : NodesAt w fb vs σ) {p : Chn} {v : Value} (hp : NodeAt w fb p v) (i : Nat) : NodesAt w fb (vs.set i v) (σ.set i p) :=
  ⟨by simp [h.1], fun s h1 h2 => by
    rw [List.getElem_set, List.getElem_set]
    split
    · exact hp
    · exact h.2 s (by simpa using h1) (by simpa using h2)⟩
theorem ahead_cmp {p o : Chn} (ho : o ≠ []) : aheadB p o = decide (orI (cmpI (mOf p) (mOf o)) (cmpI (p.length : Int) (o.length : Int)) < 0) := by
  have he : o.isEmpty = false := by simpa using ho
  have h := cmpE_neg ⟨mOf p, p.length, 0⟩ ⟨mOf o, o.length, 0⟩
  unfold cmpE at h
  simp only at h
  rw [Bool.eq_iff_iff, decide_eq_true_iff, h]
  unfold aheadB
  rw [he]
  simp only [Bool.false_or, Bool.or_eq_true, Bool.and_eq_true, decide_eq_true_eq]
  omega

set_option maxHeartbeats 1000000 in
theorem otherEnd_any (x : WlkD) (s : Nat) (w : World) (h : 0 ≤ x.a ∧ 0 ≤ x.b) :
    Calls Try.prog 119 #[wlkV x, .int .i64 s] w fun e w' => e = .returned (.tuple #[.int .i64 (((nextOf x s).getD 0 : Nat) : Int), .bool (nextOf x s).isSome]) ∧ Below w.heap.size w w' := by
  obtain ⟨xa, xb, xm⟩ := x
  simp only at h
  unfold wlkV nextOf
  simp only
  by_cases h1 : (s : Int) = xa
  · rw [if_pos h1]
    have hd : ((s : Int) == xa) = true := by simp [h1]
    have hx : ((xb.toNat : Nat) : Int) = xb := by omega
    simp only [Option.getD_some, Option.isSome_some, hx]
    clear h1 h hx
    go_enter Try.func119, Try.ntmps119
    go_wp2_with fail
    go_ret2
    exact ⟨rfl, (Below.refl _ _).alloc (Nat.le_refl _) _⟩
  · rw [if_neg h1]
    have hd : ((s : Int) == xa) = false := by simp [h1]
    by_cases h2 : (s : Int) = xb
    · rw [if_pos h2]
      have hd2 : ((s : Int) == xb) = true := by simp [h2]
      have hx : ((xa.toNat : Nat) : Int) = xa := by omega
      simp only [Option.getD_some, Option.isSome_some, hx]
      clear h1 h2 h hx
      go_enter Try.func119, Try.ntmps119
      go_wp2_with fail
      go_ret2
      exact ⟨rfl, (Below.refl _ _).alloc (Nat.le_refl _) _⟩
    · rw [if_neg h2]
      have hd2 : ((s : Int) == xb) = false := by simp [h2]
      simp only [Option.getD_none, Option.isSome_none]
      clear h1 h2 h
      go_enter Try.func119, Try.ntmps119
      go_wp2_with fail
      go_ret2
      exact ⟨rfl, (Below.refl _ _).alloc (Nat.le_refl _) _⟩

set_option maxRecDepth 100000 in
set_option maxHeartbeats 2000000 in
theorem isAhead_any (fb : Nat) (vp vo : Value) (p o : Chn) (w : World) (hp : NodeAt w fb p vp) (ho : NodeAt w fb o vo) (hne : p ≠ []) :
    Calls Try.prog 118 #[vp, vo] w fun e w' => e = .returned (.bool (aheadB p o)) ∧ Below w.heap.size w w' := by
  match p, hp, hne with
  | (s, m) :: q, hp, _ =>
    obtain ⟨pb, v', rfl, hl, -, -, -, c2, c0, -⟩ := hp
    match o, ho with
    | [], hv =>
      have hv : vo = .pointer none := hv
      subst hv
      rw [show aheadB ((s, m) :: q) [] = true from rfl]
      clear c2 c0
      go_enter Try.func118, Try.ntmps118
      go_wp2_with fail
      go_ret
      exact ⟨rfl, Below.refl _ _⟩
    | (s', m') :: q', ho =>
      obtain ⟨ob, v2, rfl, hl', -, -, -, c3, c1, -⟩ := ho
      rw [show aheadB ((s, m) :: q) ((s', m') :: q') = decide (orI (cmpI (m : Int) (m' : Int)) (cmpI ((q.length + 1 : Nat) : Int) ((q'.length + 1 : Nat) : Int)) < 0) from ahead_cmp (by simp)]
      generalize (m : Int) = M at *
      generalize (m' : Int) = M' at *
      generalize ((q.length + 1 : Nat) : Int) = L at *
      generalize ((q'.length + 1 : Nat) : Int) = L' at *
      have H1 := Lib.hid (fun W => cmpInt_any M M' W)
      have H2 := Lib.hid (fun W => cmpInt_any L L' W)
      have H3 := Lib.hid (fun b W h0 h1 => cmpOr_any (cmpI M M') (cmpI L L') b W h0 h1)
      generalize cmpI M M' = r1 at *
      generalize cmpI L L' = r2 at *
      generalize orI r1 r2 = r3 at *
      go_enter Try.func118, Try.ntmps118
      go_wp2_with fail
      refine wp_region_held_drew (S := (fun w' => w'.cell? ⟨pb, 3, none⟩ = some (.int .i64 M) ∧ w'.cell? ⟨ob, 3, none⟩ = some (.int .i64 M') ∧ w'.cell? ⟨pb, 2, none⟩ = some (.int .i64 L) ∧ w'.cell? ⟨ob, 2, none⟩ = some (.int .i64 L'))) (by kernel_rfl) ?_ (fun hHeld => ?_)
      · exact ⟨c0, c1, c2, c3⟩
      refine wpAnyH_take (i := 0) (v := ?_) (by simp only [List.getElem?_toArray, List.getElem?_cons_zero]; rfl) (by kernel_rfl) (by kernel_rfl) (by kernel_rfl) (by exact fun _ _ _ h => h) (Or.inl ⟨by rfl, ?_⟩) (by assumption) ?_
      rotate_left
      · intro w' hSw; obtain ⟨e1, e2, e3, e4⟩ := hSw
        go_simp; try with_reducible rfl
      try simp only [Act.put, List.setIfInBounds_toArray, List.set_cons_zero, List.set_cons_succ]
      refine wpAnyH_take (i := 1) (v := ?_) (by simp only [List.getElem?_toArray, List.getElem?_cons_succ, List.getElem?_cons_zero]; rfl) (by kernel_rfl) (by kernel_rfl) (by kernel_rfl) (by exact fun _ _ _ h => h) (Or.inl ⟨by rfl, ?_⟩) (by assumption) ?_
      rotate_left
      · intro w' hSw; obtain ⟨e1, e2, e3, e4⟩ := hSw
        go_simp; try with_reducible rfl
      try simp only [Act.put, List.setIfInBounds_toArray, List.set_cons_zero, List.set_cons_succ]
      refine wpAnyH_take (i := 2) (v := ?_) (by simp only [List.getElem?_toArray, List.getElem?_cons_succ, List.getElem?_cons_zero]; rfl) (by kernel_rfl) (by kernel_rfl) (by kernel_rfl) (by exact fun _ _ _ h => h) (Or.inl ⟨by rfl, ?_⟩) (by assumption) ?_
      rotate_left
      · intro w' hSw; obtain ⟨e1, e2, e3, e4⟩ := hSw
        go_simp; try with_reducible rfl
      try simp only [Act.put, List.setIfInBounds_toArray, List.set_cons_zero, List.set_cons_succ]
      refine wpAnyH_take (i := 3) (v := ?_) (by simp only [List.getElem?_toArray, List.getElem?_cons_succ, List.getElem?_cons_zero]; rfl) (by kernel_rfl) (by kernel_rfl) (by kernel_rfl) (by exact fun _ _ _ h => h) (Or.inl ⟨by rfl, ?_⟩) (by assumption) ?_
      rotate_left
      · intro w' hSw; obtain ⟨e1, e2, e3, e4⟩ := hSw
        go_simp; try with_reducible rfl
      try simp only [Act.put, List.setIfInBounds_toArray, List.set_cons_zero, List.set_cons_succ]
      refine wpAnyH_take (i := 4) (v := ?_) (by simp only [List.getElem?_toArray, List.getElem?_cons_succ, List.getElem?_cons_zero]; rfl) (by kernel_rfl) (by kernel_rfl) (by kernel_rfl) (by exact fun _ _ _ h => h) (Or.inl ⟨by rfl, ?_⟩) (by assumption) ?_
      rotate_left
      · intro w' hSw; obtain ⟨e1, e2, e3, e4⟩ := hSw
        go_simp; try with_reducible rfl
      try simp only [Act.put, List.setIfInBounds_toArray, List.set_cons_zero, List.set_cons_succ]
      refine wpAnyH_take (i := 5) (v := ?_) (by simp only [List.getElem?_toArray, List.getElem?_cons_succ, List.getElem?_cons_zero]; rfl) (by kernel_rfl) (by kernel_rfl) (by kernel_rfl) (by exact fun _ _ _ h => h) (Or.inl ⟨by rfl, ?_⟩) (by assumption) ?_
      rotate_left
      · intro w' hSw; obtain ⟨e1, e2, e3, e4⟩ := hSw
        go_simp; try with_reducible rfl
      try simp only [Act.put, List.setIfInBounds_toArray, List.set_cons_zero, List.set_cons_succ]
      refine wpAnyH_take (i := 6) (v := ?_) (by simp only [List.getElem?_toArray, List.getElem?_cons_succ, List.getElem?_cons_zero]; rfl) (by kernel_rfl) (by kernel_rfl) (by kernel_rfl) (by exact fun _ _ _ h => h) (Or.inl ⟨by rfl, ?_⟩) (by assumption) ?_
      rotate_left
      · intro w' hSw; obtain ⟨e1, e2, e3, e4⟩ := hSw
        go_simp; try with_reducible rfl
      try simp only [Act.put, List.setIfInBounds_toArray, List.set_cons_zero, List.set_cons_succ]
      refine wpAnyH_take (i := 7) (v := ?_) (by simp only [List.getElem?_toArray, List.getElem?_cons_succ, List.getElem?_cons_zero]; rfl) (by kernel_rfl) (by kernel_rfl) (by kernel_rfl) (by exact fun _ _ _ h => h) (Or.inl ⟨by rfl, ?_⟩) (by assumption) ?_
      rotate_left
      · intro w' hSw; obtain ⟨e1, e2, e3, e4⟩ := hSw
        go_simp; try with_reducible rfl
      try simp only [Act.put, List.setIfInBounds_toArray, List.set_cons_zero, List.set_cons_succ]
      refine wpAnyH_take (i := 9) (v := ?_) (by simp only [List.getElem?_toArray, List.getElem?_cons_succ, List.getElem?_cons_zero]; rfl) (by kernel_rfl) (by kernel_rfl) (by kernel_rfl) (by exact fun _ _ _ h => h) (Or.inl ⟨by rfl, ?_⟩) (by assumption) ?_
      rotate_left
      · intro w' hSw; obtain ⟨e1, e2, e3, e4⟩ := hSw
        go_simp; try with_reducible rfl
      try simp only [Act.put, List.setIfInBounds_toArray, List.set_cons_zero, List.set_cons_succ]
      refine wpAnyH_take (i := 10) (v := ?_) (by simp only [List.getElem?_toArray, List.getElem?_cons_succ, List.getElem?_cons_zero]; rfl) (by kernel_rfl) (by kernel_rfl) (by kernel_rfl) (by exact fun _ _ _ h => h) (Or.inl ⟨by rfl, ?_⟩) (by assumption) ?_
      rotate_left
      · intro w' hSw; obtain ⟨e1, e2, e3, e4⟩ := hSw
        go_simp; try with_reducible rfl
      try simp only [Act.put, List.setIfInBounds_toArray, List.set_cons_zero, List.set_cons_succ]
      refine wpAnyH_take (i := 11) (v := ?_) (by simp only [List.getElem?_toArray, List.getElem?_cons_succ, List.getElem?_cons_zero]; rfl) (by kernel_rfl) (by kernel_rfl) (by kernel_rfl) (by exact fun _ _ _ h => h) (Or.inl ⟨by rfl, ?_⟩) (by assumption) ?_
      rotate_left
      · intro w' hSw; obtain ⟨e1, e2, e3, e4⟩ := hSw
        go_simp; try with_reducible rfl
      try simp only [Act.put, List.setIfInBounds_toArray, List.set_cons_zero, List.set_cons_succ]
      refine wpAnyH_take (i := 12) (v := ?_) (by simp only [List.getElem?_toArray, List.getElem?_cons_succ, List.getElem?_cons_zero]; rfl) (by kernel_rfl) (by kernel_rfl) (by kernel_rfl) (by exact fun _ _ _ h => h) (Or.inl ⟨by rfl, ?_⟩) (by assumption) ?_
      rotate_left
      · intro w' hSw; obtain ⟨e1, e2, e3, e4⟩ := hSw
        go_simp; try with_reducible rfl
      try simp only [Act.put, List.setIfInBounds_toArray, List.set_cons_zero, List.set_cons_succ]
      refine wpAnyH_take (i := 13) (v := ?_) (by simp only [List.getElem?_toArray, List.getElem?_cons_succ, List.getElem?_cons_zero]; rfl) (by kernel_rfl) (by kernel_rfl) (by kernel_rfl) (by exact fun _ _ _ h => h) (Or.inl ⟨by rfl, ?_⟩) (by assumption) ?_
      rotate_left
      · intro w' hSw; obtain ⟨e1, e2, e3, e4⟩ := hSw
        go_simp; try with_reducible rfl
      try simp only [Act.put, List.setIfInBounds_toArray, List.set_cons_zero, List.set_cons_succ]
      refine wpAnyH_take (i := 14) (v := ?_) (by simp only [List.getElem?_toArray, List.getElem?_cons_succ, List.getElem?_cons_zero]; rfl) (by kernel_rfl) (by kernel_rfl) (by kernel_rfl) (by exact fun _ _ _ h => h) (Or.inl ⟨by rfl, ?_⟩) (by assumption) ?_
      rotate_left
      · intro w' hSw; obtain ⟨e1, e2, e3, e4⟩ := hSw
        go_simp; try with_reducible rfl
      try simp only [Act.put, List.setIfInBounds_toArray, List.set_cons_zero, List.set_cons_succ]
      refine wpAnyH_take (i := 15) (v := ?_) (by simp only [List.getElem?_toArray, List.getElem?_cons_succ, List.getElem?_cons_zero]; rfl) (by kernel_rfl) (by kernel_rfl) (by kernel_rfl) (by exact fun _ _ _ h => h) (Or.inl ⟨by rfl, ?_⟩) (by assumption) ?_
      rotate_left
      · intro w' hSw; obtain ⟨e1, e2, e3, e4⟩ := hSw
        go_simp; try with_reducible rfl
      try simp only [Act.put, List.setIfInBounds_toArray, List.set_cons_zero, List.set_cons_succ]
      refine wpAnyH_take (i := 16) (v := ?_) (by simp only [List.getElem?_toArray, List.getElem?_cons_succ, List.getElem?_cons_zero]; rfl) (by kernel_rfl) (by kernel_rfl) (by kernel_rfl) (by exact fun _ _ _ h => h) (Or.inl ⟨by rfl, ?_⟩) (by assumption) ?_
      rotate_left
      · intro w' hSw; obtain ⟨e1, e2, e3, e4⟩ := hSw
        go_simp; try with_reducible rfl
      try simp only [Act.put, List.setIfInBounds_toArray, List.set_cons_zero, List.set_cons_succ]
      refine wpAnyH_ready (rs := [8]) (by kernel_rfl) (by simp) ?_
      refine AllReadyH.cons (by simp only [List.getElem?_toArray, List.getElem?_cons_succ, List.getElem?_cons_zero]; rfl) (fun K hK => ?_) AllReadyH.nil
      go_simp
      go_at_call 113
      refine (H1.out _).mono ?_
      rintro e w' ⟨rfl, rfl⟩
      go_wp2_with fail
      refine hK.out _ _ ?_ (fun hH8 => ?_)
      · exact hHeld
      clear hK K
      try simp only [Act.put, List.setIfInBounds_toArray, List.set_cons_zero, List.set_cons_succ]
      refine wpAnyH_ready (rs := [17]) (by kernel_rfl) (by simp) ?_
      refine AllReadyH.cons (by simp only [List.getElem?_toArray, List.getElem?_cons_succ, List.getElem?_cons_zero]; rfl) (fun K hK => ?_) AllReadyH.nil
      go_simp
      go_at_call 113
      refine (H2.out _).mono ?_
      rintro e w' ⟨rfl, rfl⟩
      go_wp2_with fail
      refine hK.out _ _ ?_ (fun hH17 => ?_)
      · exact hHeld
      clear hK K
      try simp only [Act.put, List.setIfInBounds_toArray, List.set_cons_zero, List.set_cons_succ]
      refine wpAnyH_ready (rs := [18]) (by kernel_rfl) (by simp) ?_
      refine AllReadyH.cons (by simp only [List.getElem?_toArray, List.getElem?_cons_succ, List.getElem?_cons_zero]; rfl) (fun K hK => ?_) AllReadyH.nil
      go_simp
      refine hK.out _ _ ?_ (fun hH18 => ?_)
      · exact ⟨acell c0 _, acell c1 _, acell c2 _, acell c3 _⟩
      clear hK K
      try simp only [Act.put, List.setIfInBounds_toArray, List.set_cons_zero, List.set_cons_succ]
      refine wpAnyH_ready (rs := [19]) (by kernel_rfl) (by simp) ?_
      refine AllReadyH.cons (by simp only [List.getElem?_toArray, List.getElem?_cons_succ, List.getElem?_cons_zero]; rfl) (fun K hK => ?_) AllReadyH.nil
      go_simp
      go_at_call 112
      refine (H3.out _ _ (by go_simp) (by go_simp)).mono ?_
      rintro e w' ⟨rfl, rfl⟩
      go_wp2_with fail
      refine hK.out _ _ ?_ (fun hH19 => ?_)
      · exact hH18
      clear hK K
      try simp only [Act.put, List.setIfInBounds_toArray, List.set_cons_zero, List.set_cons_succ]
      refine wpAnyH_take (i := 20) (v := ?_) (by simp only [List.getElem?_toArray, List.getElem?_cons_succ, List.getElem?_cons_zero]; rfl) (by kernel_rfl) (by kernel_rfl) (by kernel_rfl) (by exact fun _ _ _ h => h) (Or.inl ⟨by rfl, ?_⟩) (by assumption) ?_
      rotate_left
      · intro w' hSw; go_simp; try with_reducible rfl
      try simp only [Act.put, List.setIfInBounds_toArray, List.set_cons_zero, List.set_cons_succ]
      refine wpAnyH_take (i := 21) (v := ?_) (by simp only [List.getElem?_toArray, List.getElem?_cons_succ, List.getElem?_cons_zero]; rfl) (by kernel_rfl) (by kernel_rfl) (by kernel_rfl) (by exact fun _ _ _ h => h) (Or.inl ⟨by rfl, ?_⟩) (by assumption) ?_
      rotate_left
      · intro w' hSw; go_simp; try with_reducible rfl
      try simp only [Act.put, List.setIfInBounds_toArray, List.set_cons_zero, List.set_cons_succ]
      refine wpAnyH_done (by kernel_rfl) ?_ _
      go_wp2_with fail
      go_ret
      exact ⟨rfl, by first | exact ((Below.refl _ _).alloc (by simp) _).drew | exact ((Below.refl _ _).drew.alloc (by simp) _).drew⟩

end Go.Proofs.Ytemejcbilhcebaa
