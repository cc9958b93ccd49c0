/-
  slices.Delete at trips, one trip taken out of a row of the call's own: the run equations of its two builtins.
-/
import Derived.Test.YtocbgeneabmnmaaTripAppG
import Derived.Lib.SliceRun
namespace Go.Proofs.Ytocbgeneabmnmaa
open Go.RowKit Go.Lib
set_option linter.unusedVariables false

set_option maxRecDepth 100000 in
theorem run_clear_trip (w : World) (ty : TypeId) (b o c : Nat) (hc : ∀ j, j < 3 → (w.cell? ⟨b, o + j, none⟩).isSome = true) (hf : ∀ j, j < 3 → w.frozen? ⟨b, o + j, none⟩ = false) :
    (Builtin.clear_ #[28] ty #[.slice (some ⟨b, o, none⟩) 1 c]).run Try.prog w = .ok (.tuple #[]) (w.setCells b o [.int .i64 0, .int .i64 0, .int .i64 0]) := by
  have hv := Try.zeroValue32
  have hst := run_storeCells_cells (P := Try.prog) b o [.int .i64 0, .int .i64 0, .int .i64 0] 0 w (by simpa using hc) (by simpa using hf) (by intro v hv'; simp at hv'; subst hv'; rfl)
  simp only [Nat.add_zero] at hst
  have hz : (Builtin.zeroCells (Value.agg #[.int .i64 0, .int .i64 0, .int .i64 0]).cells 1).toList = [.int .i64 0, .int .i64 0, .int .i64 0] := by kernel_rfl
  simp [Builtin.clear_, run_underlying Try.underlying28, hv, hz, hst]
/-- the tail of a row moved one trip to the left, in the row itself -/
theorem run_append_left (w : World) (g n c p : Nat) (cur : Array Value) (hg : w.heap[g]? = some (.cells cur 32 (0, 0))) (hp : p < n) (hnc : n ≤ c) (hcur : cur.size = c * 3)
    (h1 : ∀ u ∈ (cur.toList.drop ((p + 1) * 3)).take ((n - (p + 1)) * 3), u.oneCell' = true) (c2 : Nat) :
    (Builtin.append_ #[28, 28] 28 #[.slice (some ⟨g, 0, none⟩) p c, .slice (some ⟨g, (p + 1) * 3, none⟩) (n - (p + 1)) c2]).run Try.prog w =
      .ok (.slice (some ⟨g, 0, none⟩) (n - 1) c) (w.setRow g (cur.toList.take (p * 3) ++ (cur.toList.drop ((p + 1) * 3)).take ((n - (p + 1)) * 3) ++ cur.toList.drop ((n - 1) * 3)).toArray) := by
  obtain ⟨i, hi, hz0, hz1, hz2⟩ := info_parts infoTrip
  have hl : ((cur.toList.drop ((p + 1) * 3)).take ((n - (p + 1)) * 3)).length = (n - (p + 1)) * 3 := by simp; omega
  have := run_append_room (P := Try.prog) w 28 28 32 i Try.underlying28 hi g p c cur hg ⟨g, (p + 1) * 3, none⟩ (n - (p + 1)) c2 _ (by rw [hz1]; exact hl) (fun j u hu => by
    rw [addr_add, cell_of_row w g _ cur _ (0, 0) hg]
    rw [List.getElem?_take] at hu
    split at hu
    · rw [List.getElem?_drop] at hu; simpa using hu
    · simp at hu) h1 (by omega) (by rw [hl, hz1]; omega)
  rw [this, hz1, hl, show p + (n - (p + 1)) = n - 1 by omega, show p * 3 + (n - (p + 1)) * 3 = (n - 1) * 3 by omega]
-- DEL
theorem run_append_left2 (w : World) (g n c p : Nat) (cur : Array Value) (hg : w.heap[g]? = some (.cells cur 32 (0, 0))) (hp : p < n) (hnc : n ≤ c) (hcur : cur.size = c * 3)
    (h1 : ∀ u ∈ (cur.toList.drop ((p + 1) * 3)).take ((n - (p + 1)) * 3), u.oneCell' = true) (c2 : Nat) (p1 : Nat) (hp1 : p1 = p + 1) :
    ∃ w', (Builtin.append_ #[28, 28] 28 #[.slice (some ⟨g, 0, none⟩) p c, .slice (if c = p1 then some ⟨g, 0, none⟩ else some ⟨g, p1 * 3, none⟩) (n - p1) c2]).run Try.prog w = .ok (.slice (some ⟨g, 0, none⟩) (n - 1) c) w' ∧
      w' = w.setRow g (cur.toList.take (p * 3) ++ (cur.toList.drop ((p + 1) * 3)).take ((n - (p + 1)) * 3) ++ cur.toList.drop ((n - 1) * 3)).toArray := by
  subst hp1
  by_cases e : c = p + 1
  · have hn : n = p + 1 := by omega
    subst hn
    rw [if_pos e]
    obtain ⟨i, hi, hz0, hz1, hz2⟩ := info_parts infoTrip
    have := run_append_room (P := Try.prog) w 28 28 32 i Try.underlying28 hi g p c cur hg ⟨g, 0, none⟩ 0 c2 [] (by simp) (fun j u hu => by simp at hu) (fun u hu => by simp at hu) (by omega) (by rw [hz1]; simp; omega)
    refine ⟨_, by rw [Nat.sub_self]; exact this, ?_⟩
    rw [hz1]; simp
  · rw [if_neg e]
    exact ⟨_, run_append_left w g n c p cur hg hp hnc hcur h1 c2, rfl⟩

theorem grown_set5 (w : World) (b i : Nat) (v : Value) : w.grownBy (w.setCell ⟨b, i, none⟩ v) (some b) :=
  ⟨rfl, rfl, rfl, by simp [World.setCell], fun k _ hk => Below.heap_setCell _ _ _ _ (fun e => hk (by rw [e]))⟩
theorem own_less {w : World} {B g n c sz : Nat} {e : TypeId} {xs : List Value} (h : w.ownsRow B e sz (.slice (some ⟨g, 0, none⟩) n c) n xs) (m : Nat) (hm : m ≤ n) : w.ownsRow B e sz (.slice (some ⟨g, 0, none⟩) m c) m (xs.take (m * sz)) := by
  obtain ⟨h1, h2⟩ := h
  have hmn : m * sz ≤ n * sz := Nat.mul_le_mul_right _ hm
  refine ⟨by rw [List.length_take, h1]; omega, .inr ?_⟩
  rcases h2 with ⟨hv, _⟩ | ⟨g', c', cur, hv, hB, hh, q1, q2, q3, q4⟩
  · simp at hv
  · simp at hv
    obtain ⟨rfl, rfl⟩ := hv
    exact ⟨g, c, cur, rfl, hB, hh, by omega, q2, q3, by rw [← q4, List.take_take, Nat.min_eq_left hmn]⟩

set_option maxRecDepth 100000 in
set_option maxHeartbeats 4000000 in
theorem delTrip_any (w : World) (g n c p : Nat) (cur : Array Value) (hg : w.heap[g]? = some (.cells cur 32 (0, 0))) (hp : p < n) (hnc : n ≤ c) (hc63 : c ≤ maxLen) (hcur : cur.size = c * 3) (h1 : ∀ u ∈ (cur.toList.drop ((p + 1) * 3)).take ((n - (p + 1)) * 3), u.oneCell' = true) :
    Calls Try.prog 65 #[.slice (some ⟨g, 0, none⟩) n c, .int .i64 (p : Int), .int .i64 ((p + 1 : Nat) : Int)] w fun e w' => e = .returned (.slice (some ⟨g, 0, none⟩) (n - 1) c) ∧ w.grownBy w' (some g) ∧
      w'.ownsRow g 32 3 (.slice (some ⟨g, 0, none⟩) (n - 1) c) (n - 1) (cur.toList.take (p * 3) ++ (cur.toList.drop ((p + 1) * 3)).take ((n - (p + 1)) * 3)) := by
  have hm : c ≤ 9223372036854775807 := by unfold maxLen at hc63; omega
  obtain ⟨p1, hpp⟩ : ∃ p1, p1 = p + 1 := ⟨_, rfl⟩
  have hgd : w.drew.heap[g]? = some (.cells cur 32 (0, 0)) := hg
  obtain ⟨w1, hrun, hw1⟩ := run_append_left2 w.drew g n c p cur hgd hp hnc hcur h1 (c - p1) p1 hpp
  rw [← hpp]
  have hp0 : (0 : Int) ≤ (p : Int) := by omega
  have hp1 : (p : Int) ≤ (p1 : Int) := by omega
  have hp2 : (p1 : Int) ≤ (n : Int) := by omega
  have hp3 : (n : Int) ≤ (c : Int) := by omega
  have hp4 : ¬ (p : Int) = (p1 : Int) := by omega
  have hp5 : (p : Int) ≤ (c : Int) := by omega
  have hp6 : (p1 : Int) ≤ (c : Int) := by omega
  have hp7 : (0 : Int) ≤ (p1 : Int) := by omega
  have HPp := Lib.hid hpp
  have hL1 : (cur.toList.take (p * 3) ++ (cur.toList.drop ((p + 1) * 3)).take ((n - (p + 1)) * 3)).length = (n - 1) * 3 := by simp; omega
  have hsz1 : ((cur.toList.take (p * 3) ++ (cur.toList.drop ((p + 1) * 3)).take ((n - (p + 1)) * 3) ++ cur.toList.drop ((n - 1) * 3)).toArray).size = c * 3 := by
    rw [List.size_toArray, List.length_append, hL1]; simp; omega
  have hO1 : w1.ownsRow g 32 3 (.slice (some ⟨g, 0, none⟩) n c) n ((cur.toList.take (p * 3) ++ (cur.toList.drop ((p + 1) * 3)).take ((n - (p + 1)) * 3) ++ cur.toList.drop ((n - 1) * 3)).take (n * 3)) :=
    ⟨by rw [List.length_take, List.length_append, hL1]; simp; omega, .inr ⟨g, c, _, rfl, Nat.le_refl _, by rw [hw1]; exact setRow_heap w.drew g cur _ _ _ hgd, hnc, hc63, hsz1, rfl⟩⟩
  have hcell : ∀ j, j < 3 → (w1.cell? ⟨g, (n - 1) * 3 + j, none⟩).isSome = true := fun j hj => by
    rw [hO1.cellAt _ (by omega), List.getElem?_eq_getElem (by rw [hO1.1]; omega)]; rfl
  have hclr : ∀ c2, (Builtin.clear_ #[28] 0 #[.slice (some ⟨g, (n - 1) * 3, none⟩) (n - (n - 1)) c2]).run Try.prog w1 = .ok (.tuple #[]) (w1.setCells g ((n - 1) * 3) [.int .i64 0, .int .i64 0, .int .i64 0]) := fun c2 => by
    rw [show n - (n - 1) = 1 by omega]
    exact run_clear_trip w1 0 g ((n - 1) * 3) c2 hcell (fun j _ => hO1.frozenAt _)
  have hO2 := (((hO1.stored ((n - 1) * 3) (.int .i64 0)).1.stored ((n - 1) * 3 + 1) (.int .i64 0)).1.stored ((n - 1) * 3 + 2) (.int .i64 0)).1
  have HFin : Hid (w.grownBy (w1.setCells g ((n - 1) * 3) [.int .i64 0, .int .i64 0, .int .i64 0]) (some g) ∧ (w1.setCells g ((n - 1) * 3) [.int .i64 0, .int .i64 0, .int .i64 0]).ownsRow g 32 3 (.slice (some ⟨g, 0, none⟩) (n - 1) c) (n - 1) (cur.toList.take (p * 3) ++ (cur.toList.drop ((p + 1) * 3)).take ((n - (p + 1)) * 3))) := by
    have hg1 : w.grownBy w1 (some g) := by
      rw [hw1]
      exact ⟨rfl, rfl, rfl, by simp, fun k _ hk => setRow_other w.drew g k _ (fun e => hk (by rw [e]))⟩
    refine ⟨((hg1.trans (grown_set5 _ _ _ _)).trans (grown_set5 _ _ _ _)).trans (grown_set5 _ _ _ _), ?_⟩
    have h9 := own_less hO2 (n - 1) (by omega)
    have e9 : ((((((cur.toList.take (p * 3) ++ (cur.toList.drop ((p + 1) * 3)).take ((n - (p + 1)) * 3) ++ cur.toList.drop ((n - 1) * 3)).take (n * 3)).set ((n - 1) * 3) (.int .i64 0)).set ((n - 1) * 3 + 1) (.int .i64 0)).set ((n - 1) * 3 + 2) (.int .i64 0)).take ((n - 1) * 3)) = cur.toList.take (p * 3) ++ (cur.toList.drop ((p + 1) * 3)).take ((n - (p + 1)) * 3) := by
      rw [List.take_set_of_le (by omega), List.take_set_of_le (by omega), List.take_set_of_le (by omega), List.take_take, Nat.min_eq_left (by omega), ← hL1]
      exact List.take_left
    rw [e9] at h9
    exact h9
  clear hpp hw1 h1 hO1 hO2 hcell hsz1 hL1 hg hgd hcur
  go_enter Try.func65, Try.ntmps65
  go_wp2_with fail
  refine wp_region_held_drew (S := (fun w' => True)) (by kernel_rfl) ?_ (fun hHeld => ?_)
  · exact trivial
  refine wpAnyH_take (i := 0) (v := ?_) (by simp only [List.getElem?_toArray, List.getElem?_cons_zero]; rfl) (by kernel_rfl) (by kernel_rfl) (by kernel_rfl) (by exact fun _ _ _ h => h) (Or.inl ⟨by rfl, ?_⟩) (by assumption) ?_
  rotate_left
  · intro w' hSw; go_simp; try with_reducible rfl
  try simp only [Act.put, List.setIfInBounds_toArray, List.set_cons_zero, List.set_cons_succ]
  refine wpAnyH_take (i := 1) (v := ?_) (by simp only [List.getElem?_toArray, List.getElem?_cons_succ, List.getElem?_cons_zero]; rfl) (by kernel_rfl) (by kernel_rfl) (by kernel_rfl) (by exact fun _ _ _ h => h) (Or.inl ⟨by rfl, ?_⟩) (by assumption) ?_
  rotate_left
  · intro w' hSw; go_simp; try with_reducible rfl
  try simp only [Act.put, List.setIfInBounds_toArray, List.set_cons_zero, List.set_cons_succ]
  refine wpAnyH_take (i := 2) (v := ?_) (by simp only [List.getElem?_toArray, List.getElem?_cons_succ, List.getElem?_cons_zero]; rfl) (by kernel_rfl) (by kernel_rfl) (by kernel_rfl) (by exact fun _ _ _ h => h) (Or.inl ⟨by rfl, ?_⟩) (by assumption) ?_
  rotate_left
  · intro w' hSw; go_simp; try with_reducible rfl
  try simp only [Act.put, List.setIfInBounds_toArray, List.set_cons_zero, List.set_cons_succ]
  refine wpAnyH_take (i := 3) (v := ?_) (by simp only [List.getElem?_toArray, List.getElem?_cons_succ, List.getElem?_cons_zero]; rfl) (by kernel_rfl) (by kernel_rfl) (by kernel_rfl) (by exact fun _ _ _ h => h) (Or.inl ⟨by rfl, ?_⟩) (by assumption) ?_
  rotate_left
  · intro w' hSw; go_simp; try with_reducible rfl
  try simp only [Act.put, List.setIfInBounds_toArray, List.set_cons_zero, List.set_cons_succ]
  refine wpAnyH_take (i := 4) (v := ?_) (by simp only [List.getElem?_toArray, List.getElem?_cons_succ, List.getElem?_cons_zero]; rfl) (by kernel_rfl) (by kernel_rfl) (by kernel_rfl) (by exact fun _ _ _ h => h) (Or.inl ⟨by rfl, ?_⟩) (by assumption) ?_
  rotate_left
  · intro w' hSw; go_simp; try with_reducible rfl
  try simp only [Act.put, List.setIfInBounds_toArray, List.set_cons_zero, List.set_cons_succ]
  refine wpAnyH_take (i := 5) (v := ?_) (by simp only [List.getElem?_toArray, List.getElem?_cons_succ, List.getElem?_cons_zero]; rfl) (by kernel_rfl) (by kernel_rfl) (by kernel_rfl) (by exact fun _ _ _ h => h) (Or.inl ⟨by rfl, ?_⟩) (by assumption) ?_
  rotate_left
  · intro w' hSw; go_simp; try with_reducible rfl
  try simp only [Act.put, List.setIfInBounds_toArray, List.set_cons_zero, List.set_cons_succ]
  refine wpAnyH_ready (rs := [6]) (by kernel_rfl) (by simp) ?_
  refine AllReadyH.cons (by simp only [List.getElem?_toArray, List.getElem?_cons_succ, List.getElem?_cons_zero]; rfl) (fun K hK => ?_) AllReadyH.nil
  refine step_append_run rfl (.tmp 22) (.tmp 25) 28 rfl rfl rfl hrun ?_
  refine hK.out _ _ trivial (fun _ => ?_)
  clear hK K
  try simp only [Act.put, List.setIfInBounds_toArray, List.set_cons_zero, List.set_cons_succ]
  refine wpAnyH_take (i := 7) (v := ?_) (by simp only [List.getElem?_toArray, List.getElem?_cons_succ, List.getElem?_cons_zero]; rfl) (by kernel_rfl) (by kernel_rfl) (by kernel_rfl) (by exact fun _ _ _ h => h) (Or.inl ⟨by rfl, ?_⟩) (by assumption) ?_
  rotate_left
  · intro w' hSw; go_simp; try with_reducible rfl
  try simp only [Act.put, List.setIfInBounds_toArray, List.set_cons_zero, List.set_cons_succ]
  refine wpAnyH_done (by kernel_rfl) ?_ _
  go_wp2_with fail
  all_goals
    go_ret
    have h := HFin.out
    rw [← HPp.out] at h
    first
      | exact ⟨rfl, h⟩
      | (have hcp : c = p1 := by assumption
         rw [hcp] at h
         exact ⟨rfl, h⟩)
end Go.Proofs.Ytocbgeneabmnmaa
