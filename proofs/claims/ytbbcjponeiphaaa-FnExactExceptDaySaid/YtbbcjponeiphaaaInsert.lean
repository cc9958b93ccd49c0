/-
  slices.Insert OF ONE ELEMENT, at a row of the call's own.
-/
import Derived.Test.YtbbcjponeiphaaaRowSet
import Derived.Test.YtbbcjponeiphaaaInsLay
namespace Go.Proofs.Ytbbcjponeiphaaa
open Go.RowKit
set_option linter.unusedVariables false

theorem ins_shift {cur cs vs : List Value} {i n : Nat} (hn : cs.length = n) (hi : i ≤ n) (hr : n + vs.length ≤ cur.length) (ht : cur.take n = cs) :
    (splice (splice cur (i + vs.length) (cs.drop i)) i vs).length = cur.length ∧ (splice (splice cur (i + vs.length) (cs.drop i)) i vs).take (n + vs.length) = cs.take i ++ (vs ++ cs.drop i) := by
  have e1 := splice_eq (cs.drop i) cur (i + vs.length) (by simp; omega)
  rw [e1]
  rw [splice_eq vs _ i (by simp; omega)]
  have t1 : (cur.take (i + vs.length) ++ (cs.drop i ++ cur.drop (i + vs.length + (cs.drop i).length))).take i = cs.take i := by
    rw [List.take_append_of_le_length (by simp; omega), List.take_take, ← ht, List.take_take]
    congr 1; omega
  have t2 : (cur.take (i + vs.length) ++ (cs.drop i ++ cur.drop (i + vs.length + (cs.drop i).length))).drop (i + vs.length) = cs.drop i ++ cur.drop (i + vs.length + (cs.drop i).length) :=
    List.drop_left' (by simp; omega)
  rw [t1, t2]
  refine ⟨by simp; omega, ?_⟩
  rw [← List.append_assoc, ← List.append_assoc, List.append_assoc]
  rw [show cs.take i ++ vs ++ (cs.drop i ++ cur.drop (i + vs.length + (cs.drop i).length)) = (cs.take i ++ (vs ++ cs.drop i)) ++ cur.drop (i + vs.length + (cs.drop i).length) by simp]
  exact List.take_left' (by simp; omega)
theorem ins_grow {cur cs vs : List Value} {i n : Nat} (hn : cs.length = n) (hi : i ≤ n) (hr : n + vs.length ≤ cur.length) (ht : cur.take i = cs.take i) :
    (splice (splice cur i vs) (i + vs.length) (cs.drop i)).length = cur.length ∧ (splice (splice cur i vs) (i + vs.length) (cs.drop i)).take (n + vs.length) = cs.take i ++ (vs ++ cs.drop i) := by
  have e1 := splice_eq vs cur i (by omega)
  rw [e1, ht]
  rw [splice_eq (cs.drop i) _ (i + vs.length) (by simp; omega)]
  have t1 : (cs.take i ++ (vs ++ cur.drop (i + vs.length))).take (i + vs.length) = cs.take i ++ vs := by
    rw [← List.append_assoc]; exact List.take_left' (by simp; omega)
  rw [t1]
  refine ⟨by simp; omega, ?_⟩
  rw [← List.append_assoc, List.append_assoc (cs.take i)]
  exact List.take_left' (by simp; omega)

theorem fullRow_alloc (w : World) (arr : Array Value) : FullRow (w.drew.alloc (.cells arr 3)) w.heap.size arr.toList := by
  show (w.drew.alloc (.cells arr 3)).heap[w.drew.heap.size]? = _
  rw [heap_alloc_new]
theorem fullRow_alloc0 (w : World) (arr : Array Value) : FullRow (w.alloc (.cells arr 3)) w.heap.size arr.toList := by
  show (w.alloc (.cells arr 3)).heap[w.heap.size]? = _
  rw [heap_alloc_new]
theorem FullRow.drew {w : World} {g : Nat} {cur : List Value} (h : FullRow w g cur) : FullRow w.drew g cur := h
theorem ints_get {xs : List Int} {j : Nat} {v : Value} (h : (ints xs)[j]? = some v) : ∃ hj : j < xs.length, v = .int .i64 xs[j] := by
  rw [ints, List.getElem?_map] at h
  by_cases hj : j < xs.length
  · rw [List.getElem?_eq_getElem hj] at h; exact ⟨hj, by simpa using h.symm⟩
  · rw [List.getElem?_eq_none (by omega)] at h; simp at h
theorem ints_ins (xs : List Int) (x : Int) (i : Nat) : (ints xs).take i ++ ([Value.int .i64 x] ++ (ints xs).drop i) = ints (xs.take i ++ x :: xs.drop i) := by simp [ints]
theorem fullRow_shape {w : World} {g : Nat} {cur : List Value} (h : FullRow w g cur) : w.shape? g = some (3, cur.length) ∧ ∀ o, w.frozen? ⟨g, o, none⟩ = false := by
  unfold FullRow at h
  exact ⟨by simp [World.shape?, h], fun o => by simp [World.frozen?, h]⟩
theorem int_one {xs : List Int} : ∀ v ∈ ints xs, v.oneCell' = true := by
  intro u hu; obtain ⟨q, _, rfl⟩ := List.mem_map.1 hu; rfl

theorem Insert_own (v : Value) (xs : List Int) (x : Int) (i B vb : Nat) (w : World) (hr : w.ownsRow B 3 1 v xs.length (ints xs)) (hi : i ≤ xs.length) (hv : FullRow w vb [.int .i64 x]) (hne : v.ownBlock ≠ some vb) (hB : B ≤ w.heap.size) (hn : xs.length ≤ 1048576) :
    Calls Try.prog 152 #[v, .int .i64 (i : Int), .slice (some ⟨vb, 0, none⟩) 1 1] w fun e w' => ∃ v', e = .returned v' ∧ w'.ownsRow B 3 1 v' (xs.length + 1) (ints (xs.take i ++ x :: xs.drop i)) ∧ (v'.ownBlock = v.ownBlock ∨ v'.ownBlock = some w.heap.size) ∧ Below B w w' := by
  have hvs : ∀ j u, [Value.int .i64 x][j]? = some u → w.cell? ⟨vb, 0 + j, none⟩ = some u := fun j u hu => by
    cases j with
    | zero => rw [(fullRow_cell hv 0 (by simp)).1]; simpa using hu
    | succ j => simp at hu
  have h1v : ∀ u ∈ [Value.int .i64 x], u.oneCell' = true := fun u hu => by simp at hu; subst hu; rfl
  have hcl : (ints xs).length = xs.length := by simp [ints]
  rcases hr.2 with ⟨h', h0⟩ | ⟨g, cap, cur0, h', _⟩
  · subst h'
    obtain rfl : i = 0 := by omega
    obtain rfl : xs = [] := List.length_eq_zero_iff.1 h0
    have := Any2.slices_Insert_int_end_grow Try.laysIns none 0 0 vb 0 1 1 [] [.int .i64 x] w (by omega) (Nat.le_refl _) (by omega) (by omega) rfl rfl (fun _ => rfl) (fun a h => by simp at h) hvs h1v
    refine this.mono fun e w' ⟨he, hw⟩ => ⟨_, he, ?_, .inr rfl, by rw [hw]; exact ((Below.refl _ _).drew).alloc hB _⟩
    have hF := fullRow_alloc w (([] ++ [Value.int .i64 x] : List Value).toArray ++ Builtin.zeroCells (Value.int .i64 0).cells (grownCap w 1 0 3 - 1))
    have hge := grownCap_ge w 1 0 3
    have hO := fullRow_own (B := B) (n := 1) (cap := grownCap w 1 0 3) hF (by simp [size_zeroCells, Value.cells]; omega) hge (grownCap_le_maxLen w _ _ _ (by unfold maxLen; omega)) hB
    rw [hw]
    simpa [ints, show Try.laysIns_ren.t 3 = 3 from rfl] using hO
  obtain ⟨a', c, hsl⟩ := own_shape hr
  rw [hsl] at h'
  simp only [Value.slice.injEq, true_and] at h'
  obtain ⟨rfl, rfl⟩ := h'
  subst hsl
  obtain ⟨cur, hf, hl, hnc, hm, hBg, ht⟩ := fullRow_of hr
  have hcs : ∀ j u, (ints xs)[j]? = some u → w.cell? ⟨g, 0 + j, none⟩ = some u := fun j u hu => by
    obtain ⟨hj, rfl⟩ := ints_get hu
    rw [Nat.zero_add, (fullRow_cell hf j (by omega)).1]
    have h1 : (cur.take xs.length)[j]'(by simp; omega) = (ints xs)[j]'(by simp [ints]; omega) := by simp only [ht]
    simpa [ints] using h1
  have hm' : c ≤ 9223372036854775807 := by unfold maxLen at hm; omega
  have hge := grownCap_ge w (xs.length + 1) c 3
  have hle := grownCap_le_maxLen w (xs.length + 1) c 3 (by unfold maxLen; omega)
  by_cases hroom : xs.length + 1 ≤ c
  · have hcell := fun j (hj : j < c) => fullRow_cell hf j (by omega)
    by_cases hin : i < xs.length
    · obtain ⟨s1, f1⟩ := fullRow_shape hv
      obtain ⟨s2, f2⟩ := fullRow_shape hf
      have := Any2.slices_Insert_int_shift Try.laysIns g 0 xs.length c i vb 0 1 1 (ints xs) [.int .i64 x] w hin (by omega) hroom hm' (fun e => hne (by rw [e]; rfl)) hcl rfl hcs
        (fun j hj => by rw [Nat.zero_add, (hcell j (by omega)).1]; rfl) (fun j hj => f2 _) hvs int_one h1v _ _ _ _ s1 s2 (by omega) (f1 _) (f1 _)
      refine this.mono fun e w' ⟨he, hw⟩ => ?_
      simp only [Nat.zero_add] at hw
      have hF := FullRow.sets [Value.int .i64 x] i (FullRow.sets ((ints xs).drop i) (i + 1) (w := w.drew) hf)
      rw [← hw] at hF
      obtain ⟨l1, l2⟩ := ins_shift (cur := cur) (cs := ints xs) (vs := [.int .i64 x]) (i := i) (n := xs.length) hcl hi (by simp; omega) ht
      simp only [List.length_cons, List.length_nil, Nat.zero_add] at l1 l2
      have hO := fullRow_own (B := B) (n := xs.length + 1) (cap := c) hF (by rw [l1]; exact hl) hroom hm hBg
      rw [l2, ints_ins] at hO
      exact ⟨_, he, hO, .inl rfl, by rw [hw]; exact below_sets hBg _ _ (below_sets hBg _ _ (Below.refl _ _).drew)⟩
    · obtain rfl : i = xs.length := by omega
      have := Any2.slices_Insert_int_end_room Try.laysIns g 0 xs.length c vb 0 1 1 [.int .i64 x] w (by omega) hroom hm' rfl
        (fun j hj => by rw [Nat.zero_add, (hcell _ (by omega)).1]; rfl) (fun j hj => (fullRow_shape hf).2 _) hvs h1v
      refine this.mono fun e w' ⟨he, hw⟩ => ?_
      simp only [Nat.zero_add] at hw
      have hF := FullRow.sets [Value.int .i64 x] xs.length hf
      rw [← hw] at hF
      rw [splice_eq _ _ _ (by simp; omega)] at hF
      have hO := fullRow_own (B := B) (n := xs.length + 1) (cap := c) hF (by simp; omega) hroom hm hBg
      rw [ht, ← List.append_assoc, List.take_left' (by simp [ints])] at hO
      refine ⟨_, he, ?_, .inl rfl, by rw [hw]; exact below_sets hBg _ _ (Below.refl _ _)⟩
      simpa [ints] using hO
  · by_cases hin : i < xs.length
    · have := Any2.slices_Insert_int_grow Try.laysIns g 0 xs.length c i vb 0 1 1 (ints xs) [.int .i64 x] w hin (by omega) hnc (by omega) (by omega) hcl rfl hcs hvs int_one h1v
      refine this.mono fun e w' ⟨he, hw⟩ => ?_
      have hF0 := fullRow_alloc0 w (((ints xs).take i).toArray ++ Builtin.zeroCells (Value.int .i64 0).cells (xs.length + 1 - i) ++ Builtin.zeroCells (Value.int .i64 0).cells (grownCap w (xs.length + 1) c 3 - (xs.length + 1)))
      have hcap : (((ints xs).take i).toArray ++ Builtin.zeroCells (Value.int .i64 0).cells (xs.length + 1 - i) ++ Builtin.zeroCells (Value.int .i64 0).cells (grownCap w (xs.length + 1) c 3 - (xs.length + 1))).toList.length = grownCap w (xs.length + 1) c 3 := by
        simp [size_zeroCells, Value.cells, ints]; omega
      have htk : (((ints xs).take i).toArray ++ Builtin.zeroCells (Value.int .i64 0).cells (xs.length + 1 - i) ++ Builtin.zeroCells (Value.int .i64 0).cells (grownCap w (xs.length + 1) c 3 - (xs.length + 1))).toList.take i = (ints xs).take i := by
        rw [Array.toList_append, Array.toList_append, List.append_assoc]
        exact List.take_left' (by simp [ints]; omega)
      have hF := FullRow.sets ((ints xs).drop i) (i + 1) (FullRow.sets [.int .i64 x] i hF0.drew).drew
      obtain ⟨l1, l2⟩ := ins_grow (cs := ints xs) (vs := [.int .i64 x]) (i := i) (n := xs.length) hcl hi (by rw [hcap]; exact hge) htk
      simp only [List.length_cons, List.length_nil, Nat.zero_add] at l1 l2
      have hO := fullRow_own (B := B) (n := xs.length + 1) (cap := grownCap w (xs.length + 1) c 3) hF (by rw [l1]; exact hcap) hge hle hB
      rw [l2, ints_ins] at hO
      refine ⟨_, he, ?_, .inr rfl, by rw [hw]; exact below_sets hB _ _ (below_sets hB _ _ (((Below.refl _ _).alloc hB _).drew)).drew⟩
      rw [hw]; exact hO
    · obtain rfl : i = xs.length := by omega
      have := Any2.slices_Insert_int_end_grow Try.laysIns (some ⟨g, 0, none⟩) xs.length c vb 0 1 1 (ints xs) [.int .i64 x] w (by omega) hnc (by omega) (by omega) hcl rfl (fun h => by simp at h)
        (fun a h j u hu => by simp at h; subst h; rw [addr_add]; exact hcs j u hu) hvs h1v
      refine this.mono fun e w' ⟨he, hw⟩ => ⟨_, he, ?_, .inr rfl, by rw [hw]; exact ((Below.refl _ _).drew).alloc hB _⟩
      have hF := fullRow_alloc w ((ints xs ++ [Value.int .i64 x]).toArray ++ Builtin.zeroCells (Value.int .i64 0).cells (grownCap w (xs.length + 1) c 3 - (xs.length + 1)))
      have hO := fullRow_own (B := B) (n := xs.length + 1) (cap := grownCap w (xs.length + 1) c 3) hF (by simp [size_zeroCells, Value.cells, ints]; omega) hge hle hB
      rw [hw]
      rw [Array.toList_append, List.take_left' (by simp [ints])] at hO
      simpa [ints, show Try.laysIns_ren.t 3 = 3 from rfl] using hO
end Go.Proofs.Ytbbcjponeiphaaa
