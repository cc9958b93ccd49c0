import Derived.Test.YtemejcbilhcebaaWayBest
import Derived.Test.YtemejcbilhcebaaWalkingTimes
import Derived.Test.YtemejcbilhcebaaMk05
import Derived.Maps.AppendAt
import Derived.OrdersHeld
import Derived.Deep.RegionHeld
namespace Go.Proofs.Ytemejcbilhcebaa
open Go.RowKit
set_option linter.unusedVariables false
set_option linter.unusedSimpArgs false

def fwI (p : Chn) : List Int := (fw p).map (fun (x : Nat) => (x : Int))
theorem fwI_cons (x : Nat × Nat) (p : Chn) : fwI (x :: p) = fwI p ++ [(x.1 : Int)] := by unfold fwI; rw [fw_cons, List.map_append]; rfl
theorem fwI_len (p : Chn) : (fwI p).length = p.length := by unfold fwI; rw [List.length_map, fw_len]
theorem run_append_int1 (w : World) (B n : Nat) (v : Value) (xs : List Int) (hown : w.ownsRow B 3 1 v n (ints xs)) (b c : Nat) (x : Int) (hb : w.cell? ⟨b, 0, none⟩ = some (.int .i64 x)) (hn : n + 1 ≤ 1048576) (hB : B ≤ w.heap.size) :
    ∃ v' w', (Builtin.append_ #[34, 34] 34 #[v, .slice (some ⟨b, 0, none⟩) 1 c]).run Try.prog w = .ok v' w' ∧ w'.ownsRow B 3 1 v' (n + 1) (ints (xs ++ [x])) ∧ w.grownBy w' v.ownBlock := by
  obtain ⟨i, hi, hz0, hz1, hz2⟩ := info_parts infoInt
  obtain ⟨v', w', h1, h2, h3, -, -⟩ := run_append_own_at (P := Try.prog) (w := w) B 34 34 3 i (.int .i64 0) 1 8 Try.underlying34 hi hz0 hz1 hz2 rfl (by decide) v n (ints xs) hown ⟨b, 0, none⟩ 1 c [.int .i64 x] rfl
    (fun j u hu => by
      match j, hu with
      | 0, hu => simp at hu; subst hu; rw [addr_add]; exact hb)
    (fun u hu => by simp at hu; subst hu; rfl) (by unfold maxLen; omega) (by omega) hB
  exact ⟨v', w', h1, by unfold ints at *; rw [List.map_append]; exact h2, h3⟩

set_option maxRecDepth 100000 in
set_option maxHeartbeats 2000000 in
theorem wayList_any (fb : Nat) : ∀ (p : Chn) (v : Value) (w : World), NodeAt w fb p v → fb < w.heap.size → p.length ≤ 1000 →
    Calls Try.prog 85 #[v] w fun e w' => ∃ u, e = .returned u ∧ w'.ownsRow w.heap.size 3 1 u p.length (ints (fwI p)) ∧ Below w.heap.size w w' := by
  intro p
  induction p with
  | nil =>
    intro v w hv _ _
    have hv : v = .pointer none := hv
    subst hv
    go_enter Try.func85, Try.ntmps85
    go_wp2_with fail
    go_ret
    refine ⟨.slice none 0 0, rfl, ?_, Below.refl _ _⟩
    exact World.ownsRow_nil _ _ _ _
  | cons x q ih =>
    intro v w hv hfb hlen
    obtain ⟨s, m⟩ := x
    obtain ⟨b, v2, rfl, hl, -, c0, c1, -, -, hq⟩ := hv
    have HIH : Hid (∀ v w, NodeAt w fb q v → fb < w.heap.size → q.length ≤ 1000 → Calls Try.prog 85 #[v] w fun e w' => ∃ u, e = .returned u ∧ w'.ownsRow w.heap.size 3 1 u q.length (ints (fwI q)) ∧ Below w.heap.size w w') := ih
    simp only [List.length_cons] at hlen ⊢
    clear ih
    go_enter Try.func85, Try.ntmps85
    go_wp2_with fail
    refine wp_region_held_drew (S := (fun w' => w'.cell? ⟨b, 0, none⟩ = some v2 ∧ w'.cell? ⟨b, 1, none⟩ = some (.int .i64 (s : Int)))) (by kernel_rfl) ?_ (fun hHeld => ?_)
    · exact ⟨c0, c1⟩
    refine wpAnyH_take (i := 0) (v := ?_) (by simp only [List.getElem?_toArray, List.getElem?_cons_zero]; rfl) (by kernel_rfl) (by kernel_rfl) (by kernel_rfl) (by exact fun _ _ _ h => h) (Or.inl ⟨by rfl, ?_⟩) (by assumption) ?_
    rotate_left
    · intro w' hSw; obtain ⟨e1, e2⟩ := hSw
      go_simp; try with_reducible rfl
    try simp only [Act.put, List.setIfInBounds_toArray, List.set_cons_zero, List.set_cons_succ]
    refine wpAnyH_take (i := 1) (v := ?_) (by simp only [List.getElem?_toArray, List.getElem?_cons_succ, List.getElem?_cons_zero]; rfl) (by kernel_rfl) (by kernel_rfl) (by kernel_rfl) (by exact fun _ _ _ h => h) (Or.inl ⟨by rfl, ?_⟩) (by assumption) ?_
    rotate_left
    · intro w' hSw; obtain ⟨e1, e2⟩ := hSw
      go_simp; try with_reducible rfl
    try simp only [Act.put, List.setIfInBounds_toArray, List.set_cons_zero, List.set_cons_succ]
    refine wpAnyH_take (i := 2) (v := ?_) (by simp only [List.getElem?_toArray, List.getElem?_cons_succ, List.getElem?_cons_zero]; rfl) (by kernel_rfl) (by kernel_rfl) (by kernel_rfl) (by exact fun _ _ _ h => h) (Or.inl ⟨by rfl, ?_⟩) (by assumption) ?_
    rotate_left
    · intro w' hSw; obtain ⟨e1, e2⟩ := hSw
      go_simp; try with_reducible rfl
    try simp only [Act.put, List.setIfInBounds_toArray, List.set_cons_zero, List.set_cons_succ]
    refine wpAnyH_take (i := 3) (v := ?_) (by simp only [List.getElem?_toArray, List.getElem?_cons_succ, List.getElem?_cons_zero]; rfl) (by kernel_rfl) (by kernel_rfl) (by kernel_rfl) (by exact fun _ _ _ h => h) (Or.inl ⟨by rfl, ?_⟩) (by assumption) ?_
    rotate_left
    · intro w' hSw; obtain ⟨e1, e2⟩ := hSw
      go_simp; try with_reducible rfl
    try simp only [Act.put, List.setIfInBounds_toArray, List.set_cons_zero, List.set_cons_succ]
    refine wpAnyH_take (i := 5) (v := ?_) (by simp only [List.getElem?_toArray, List.getElem?_cons_succ, List.getElem?_cons_zero]; rfl) (by kernel_rfl) (by kernel_rfl) (by kernel_rfl) (by exact fun _ _ _ h => h) (Or.inl ⟨by rfl, ?_⟩) (by assumption) ?_
    rotate_left
    · intro w' hSw; obtain ⟨e1, e2⟩ := hSw
      go_simp; try with_reducible rfl
    try simp only [Act.put, List.setIfInBounds_toArray, List.set_cons_zero, List.set_cons_succ]
    refine wpAnyH_take (i := 6) (v := ?_) (by simp only [List.getElem?_toArray, List.getElem?_cons_succ, List.getElem?_cons_zero]; rfl) (by kernel_rfl) (by kernel_rfl) (by kernel_rfl) (by exact fun _ _ _ h => h) (Or.inl ⟨by rfl, ?_⟩) (by assumption) ?_
    rotate_left
    · intro w' hSw; obtain ⟨e1, e2⟩ := hSw
      go_simp; try with_reducible rfl
    try simp only [Act.put, List.setIfInBounds_toArray, List.set_cons_zero, List.set_cons_succ]
    refine wpAnyH_take (i := 7) (v := ?_) (by simp only [List.getElem?_toArray, List.getElem?_cons_succ, List.getElem?_cons_zero]; rfl) (by kernel_rfl) (by kernel_rfl) (by kernel_rfl) (by exact fun _ _ _ h => h) (Or.inl ⟨by rfl, ?_⟩) (by assumption) ?_
    rotate_left
    · intro w' hSw; obtain ⟨e1, e2⟩ := hSw
      go_simp; try with_reducible rfl
    try simp only [Act.put, List.setIfInBounds_toArray, List.set_cons_zero, List.set_cons_succ]
    refine wpAnyH_take (i := 8) (v := ?_) (by simp only [List.getElem?_toArray, List.getElem?_cons_succ, List.getElem?_cons_zero]; rfl) (by kernel_rfl) (by kernel_rfl) (by kernel_rfl) (by exact fun _ _ _ h => h) (Or.inl ⟨by rfl, ?_⟩) (by assumption) ?_
    rotate_left
    · intro w' hSw; obtain ⟨e1, e2⟩ := hSw
      go_simp; try with_reducible rfl
    try simp only [Act.put, List.setIfInBounds_toArray, List.set_cons_zero, List.set_cons_succ]
    refine wpAnyH_ready (rs := [4, 9]) (by kernel_rfl) (by simp) ?_
    refine AllReadyH.cons (by simp only [List.getElem?_toArray, List.getElem?_cons_succ, List.getElem?_cons_zero]; rfl) (fun K hK => ?_) (AllReadyH.cons (by simp only [List.getElem?_toArray, List.getElem?_cons_succ, List.getElem?_cons_zero]; rfl) (fun K hK => ?_) AllReadyH.nil)
    · go_simp
      go_at_call 85
      refine (HIH.out _ _ (hq.out (Out.of_below ((Below.refl w.heap.size w).drew) (by have := hfb; omega))) (by have := hfb; first | omega | (simp; omega)) (by omega)).mono ?_
      rintro e w2 ⟨u, rfl, ho2, hb2⟩
      have hbw : Below w.heap.size w w2 := (Below.refl _ _).drew.trans hb2
      have hS2 : w2.cell? ⟨b, 0, none⟩ = some v2 ∧ w2.cell? ⟨b, 1, none⟩ = some (.int .i64 (s : Int)) := ⟨bkeep hbw c0, bkeep hbw c1⟩
      have ho2 : w2.ownsRow w.heap.size 3 1 u q.length (ints (fwI q)) := by simpa using ho2
      go_wp2_with fail
      refine hK.out _ _ hS2 (fun hH4 => ?_)
      clear hK K hb2
      try simp only [Act.put, List.setIfInBounds_toArray, List.set_cons_zero, List.set_cons_succ]
      refine wpAnyH_ready (rs := [9]) (by kernel_rfl) (by simp) ?_
      refine AllReadyH.cons (by simp only [List.getElem?_toArray, List.getElem?_cons_succ, List.getElem?_cons_zero]; rfl) (fun K hK => ?_) AllReadyH.nil
      go_simp
      refine hK.out _ _ ⟨acell hS2.1 (.cells #[.int .i64 (s : Int)] 3), acell hS2.2 (.cells #[.int .i64 (s : Int)] 3)⟩ (fun hH9 => ?_)
      clear hK K
      try simp only [Act.put, List.setIfInBounds_toArray, List.set_cons_zero, List.set_cons_succ]
      refine wpAnyH_ready (rs := [10]) (by kernel_rfl) (by simp) ?_
      refine AllReadyH.cons (by simp only [List.getElem?_toArray, List.getElem?_cons_succ, List.getElem?_cons_zero]; rfl) (fun K hK => ?_) AllReadyH.nil
      have hown9 : (w2.alloc (.cells #[.int .i64 (s : Int)] 3)).ownsRow w.heap.size 3 1 u q.length (ints (fwI q)) := ho2.alloc _
      have hz9 : w.heap.size ≤ (w2.alloc (.cells #[.int .i64 (s : Int)] 3)).heap.size := by have := hbw.size; simp; omega
      have HB9 : Hid (Below w.heap.size w (w2.alloc (.cells #[.int .i64 (s : Int)] 3))) := hbw.alloc hbw.size _
      obtain ⟨v3, w3, hrun3, hown3, hgr3⟩ := run_append_int1 (w2.alloc (.cells #[.int .i64 (s : Int)] 3)) w.heap.size q.length u (fwI q) hown9 w2.heap.size 1 (s : Int) (by go_simp) (by omega) (by have := hz9; omega)
      have hne3 : u.ownBlock ≠ some b := fun e => by have := (hown9.lt b e).1; omega
      have hS3 : w3.cell? ⟨b, 0, none⟩ = some v2 ∧ w3.cell? ⟨b, 1, none⟩ = some (.int .i64 (s : Int)) := ⟨hgr3.cell hH9.1 (fun e => hne3 e.symm), hgr3.cell hH9.2 (fun e => hne3 e.symm)⟩
      have HB3 : Hid (Below w.heap.size w w3) := HB9.out.grown hgr3 hz9 (fun g hg => (hown9.lt g hg).1)
      have HO3 := Lib.hid hown3
      refine step_append_run rfl (.tmp 9) (.tmp 14) 34 rfl rfl rfl hrun3 ?_
      refine hK.out _ _ hS3 (fun hH10 => ?_)
      clear hK K hrun3 hown3 hgr3
      try simp only [Act.put, List.setIfInBounds_toArray, List.set_cons_zero, List.set_cons_succ]
      refine wpAnyH_take (i := 11) (v := ?_) (by simp only [List.getElem?_toArray, List.getElem?_cons_succ, List.getElem?_cons_zero]; rfl) (by kernel_rfl) (by kernel_rfl) (by kernel_rfl) (by exact fun _ _ _ h => h) (Or.inl ⟨by rfl, ?_⟩) (by assumption) ?_
      rotate_left
      · intro w' hSw; go_simp; try with_reducible rfl
      try simp only [Act.put, List.setIfInBounds_toArray, List.set_cons_zero, List.set_cons_succ]
      refine wpAnyH_done (by kernel_rfl) ?_ _
      go_wp2_with fail
      go_ret
      exact ⟨_, rfl, by rw [fwI_cons]; exact HO3.out, HB3.out⟩
    · go_simp
      refine hK.out _ _ ⟨acell c0 (.cells #[.int .i64 (s : Int)] 3), acell c1 (.cells #[.int .i64 (s : Int)] 3)⟩ (fun hH9 => ?_)
      clear hK K
      try simp only [Act.put, List.setIfInBounds_toArray, List.set_cons_zero, List.set_cons_succ]
      refine wpAnyH_ready (rs := [4]) (by kernel_rfl) (by simp) ?_
      refine AllReadyH.cons (by simp only [List.getElem?_toArray, List.getElem?_cons_succ, List.getElem?_cons_zero]; rfl) (fun K hK => ?_) AllReadyH.nil
      go_simp
      go_at_call 85
      refine (HIH.out _ _ (hq.out (Out.of_below (((Below.refl w.heap.size w).alloc (Nat.le_refl _) (.cells #[.int .i64 (s : Int)] 3)).drew) (by have := hfb; omega))) (by have := hfb; first | omega | (simp; omega)) (by omega)).mono ?_
      rintro e w2 ⟨u, rfl, ho2, hb2⟩
      have hbl : Below w.heap.size w ((w.alloc (.cells #[.int .i64 (s : Int)] 3)).drew) := ((Below.refl w.heap.size w).alloc (Nat.le_refl _) (.cells #[.int .i64 (s : Int)] 3)).drew
      have hbw : Below w.heap.size w w2 := hbl.trans (hb2.mono hbl.size)
      have hcl : w2.cell? ⟨w.heap.size, 0, none⟩ = some (.int .i64 (s : Int)) := bkeep hb2 (by go_simp)
      have hS2 : w2.cell? ⟨b, 0, none⟩ = some v2 ∧ w2.cell? ⟨b, 1, none⟩ = some (.int .i64 (s : Int)) := ⟨bkeep hbw c0, bkeep hbw c1⟩
      have hown9 : w2.ownsRow w.heap.size 3 1 u q.length (ints (fwI q)) := own_base ho2 hbl.size
      go_wp2_with fail
      refine hK.out _ _ hS2 (fun hH4 => ?_)
      clear hK K hb2
      try simp only [Act.put, List.setIfInBounds_toArray, List.set_cons_zero, List.set_cons_succ]
      refine wpAnyH_ready (rs := [10]) (by kernel_rfl) (by simp) ?_
      refine AllReadyH.cons (by simp only [List.getElem?_toArray, List.getElem?_cons_succ, List.getElem?_cons_zero]; rfl) (fun K hK => ?_) AllReadyH.nil
      have hz9 : w.heap.size ≤ w2.heap.size := hbw.size
      have HB9 : Hid (Below w.heap.size w w2) := hbw
      obtain ⟨v3, w3, hrun3, hown3, hgr3⟩ := run_append_int1 w2 w.heap.size q.length u (fwI q) hown9 w.heap.size 1 (s : Int) hcl (by omega) (by have := hz9; omega)
      have hne3 : u.ownBlock ≠ some b := fun e => by have := (hown9.lt b e).1; omega
      have hS3 : w3.cell? ⟨b, 0, none⟩ = some v2 ∧ w3.cell? ⟨b, 1, none⟩ = some (.int .i64 (s : Int)) := ⟨hgr3.cell hH4.1 (fun e => hne3 e.symm), hgr3.cell hH4.2 (fun e => hne3 e.symm)⟩
      have HB3 : Hid (Below w.heap.size w w3) := HB9.out.grown hgr3 hz9 (fun g hg => (hown9.lt g hg).1)
      have HO3 := Lib.hid hown3
      refine step_append_run rfl (.tmp 9) (.tmp 14) 34 rfl rfl rfl hrun3 ?_
      refine hK.out _ _ hS3 (fun hH10 => ?_)
      clear hK K hrun3 hown3 hgr3
      try simp only [Act.put, List.setIfInBounds_toArray, List.set_cons_zero, List.set_cons_succ]
      refine wpAnyH_take (i := 11) (v := ?_) (by simp only [List.getElem?_toArray, List.getElem?_cons_succ, List.getElem?_cons_zero]; rfl) (by kernel_rfl) (by kernel_rfl) (by kernel_rfl) (by exact fun _ _ _ h => h) (Or.inl ⟨by rfl, ?_⟩) (by assumption) ?_
      rotate_left
      · intro w' hSw; go_simp; try with_reducible rfl
      try simp only [Act.put, List.setIfInBounds_toArray, List.set_cons_zero, List.set_cons_succ]
      refine wpAnyH_done (by kernel_rfl) ?_ _
      go_wp2_with fail
      go_ret
      exact ⟨_, rfl, by rw [fwI_cons]; exact HO3.out, HB3.out⟩

end Go.Proofs.Ytemejcbilhcebaa
