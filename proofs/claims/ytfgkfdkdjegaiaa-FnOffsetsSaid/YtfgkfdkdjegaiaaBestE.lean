import Derived.Test.YtfgkfdkdjegaiaaBestV
import Derived.Laws.IdiomCopy
import Derived.Laws.EntriesVeiled
import Derived.Shelf.Spec.SlicesInsert
namespace Go.Proofs.Ytfgkfdkdjegaiaa
open Go.RowKit
set_option linter.unusedVariables false
set_option linter.unusedSimpArgs false

theorem run_copy_cells2 {P : Program} (w : World) (dT sT ty elem : TypeId) (b o dLen dCap : Nat) (a : Addr) (sLen sCap m : Nat) (cs : List Value)
    (hu : P.underlying dT = some (.slice elem)) (hs : (P.info? elem).map (·.size) = some 2) (hm : Nat.min sLen dLen = m) (hn : cs.length = m * 2)
    (hsrc : ∀ j v, cs[j]? = some v → w.cell? (a.add j) = some v) (hc : ∀ j, j < cs.length → (w.cell? ⟨b, o + j, none⟩).isSome = true) (hf : ∀ j, j < cs.length → w.frozen? ⟨b, o + j, none⟩ = false) (h1 : ∀ v ∈ cs, v.oneCell' = true) :
    (Builtin.copy_ #[dT, sT] ty #[.slice (some ⟨b, o, none⟩) dLen dCap, .slice (some a) sLen sCap]).run P w = .ok (goInt m) (w.setCells b o cs) := by
  have hl := run_loadCells_list (P := P) w a cs hsrc
  have hst := run_storeCells_cells (P := P) b o cs 0 w (by simpa using hc) (by simpa using hf) h1
  cases hq : P.info? elem with
  | none => simp [hq] at hs
  | some i =>
    have hi : i.size = 2 := by simpa [hq] using hs
    rw [hn] at hl
    simp [Builtin.copy_, run_underlying hu, Builtin.lenOf, Builtin.firstCells, sizeOf, typeInfo, hq, hi, hm, hl, hst]
theorem setCells_grown (g : Nat) : ∀ (cs : List Value) (o : Nat) (w : World), w.grownBy (w.setCells g o cs) (some g)
  | [], o, w => ⟨rfl, rfl, rfl, Nat.le_refl _, fun _ _ _ => rfl⟩
  | v :: r, o, w => by
    have h1 : w.grownBy (w.setCell ⟨g, o, none⟩ v) (some g) := ⟨rfl, rfl, rfl, by simp [World.setCell], fun q hq hne => Below.heap_setCell _ _ _ _ (fun e => hne (by rw [e]))⟩
    exact h1.trans (setCells_grown g r (o + 1) _)
theorem own_setCells {B : Nat} {e : TypeId} {sz g n c : Nat} : ∀ (cs : List Value) (o : Nat) (w : World) (ys : List Value), w.ownsRow B e sz (.slice (some ⟨g, 0, none⟩) n c) n ys → o + cs.length ≤ ys.length → (w.setCells g o cs).ownsRow B e sz (.slice (some ⟨g, 0, none⟩) n c) n (ys.take o ++ cs ++ ys.drop (o + cs.length))
  | [], o, w, ys, h, _ => by simpa [World.setCells] using h
  | v :: r, o, w, ys, h, hl => by
    have hl' : o + 1 + r.length ≤ (ys.set o v).length := by rw [List.length_set]; simp at hl; omega
    have ih := own_setCells r (o + 1) _ _ (h.stored o v).1 hl'
    have hol : o < ys.length := by simp at hl; omega
    have e1 : (ys.set o v).take (o + 1) = ys.take o ++ [v] := by
      rw [List.take_succ_eq_append_getElem (by rw [List.length_set]; exact hol), List.getElem_set_self, List.take_set_of_le (Nat.le_refl _)]
    have e2 : (ys.set o v).drop (o + 1 + r.length) = ys.drop (o + (v :: r).length) := by
      rw [List.drop_set_of_lt (by omega)]; congr 1; simp; omega
    rw [e1, e2] at ih
    simpa [World.setCells] using ih
theorem own_block_mkB {w : World} {B : Nat} {e : TypeId} {sz : Nat} {g n : Nat} {xs : List Value} (hB : B ≤ g) (hh : w.heap[g]? = some (.cells xs.toArray e (0, 0))) (hn : n ≤ maxLen) (hl : xs.length = n * sz) : w.ownsRow B e sz (.slice (some ⟨g, 0, none⟩) n n) n xs :=
  ⟨hl, .inr ⟨g, n, xs.toArray, rfl, hB, hh, Nat.le_refl _, hn, by simpa using hl, by rw [List.take_of_length_le (by simp; omega)]⟩⟩
def zP : PatternD := ⟨0, 0⟩
theorem moved_cells {xs : List PatternD} (h : 1 ≤ xs.length ∧ xs.length ≤ 3) : ∃ ms : List PatternD, ms.length = 3 ∧ patC ms = (patC [zP, zP, zP]).take 0 ++ patC xs ++ (patC [zP, zP, zP]).drop (0 + (patC xs).length) ∧ ∀ j (h1 : j < xs.length) (h2 : j < ms.length), ms[j] = xs[j] := by
  match xs, h with
  | [x], _ => exact ⟨[x, zP, zP], rfl, rfl, fun j h1 h2 => by simp at h1; subst h1; rfl⟩
  | [x, y], _ => exact ⟨[x, y, zP], rfl, rfl, fun j h1 h2 => by
      match j, h1 with
      | 0, _ => rfl
      | 1, _ => rfl⟩
  | [x, y, z], _ => exact ⟨[x, y, z], rfl, rfl, fun j h1 h2 => rfl⟩

set_option maxRecDepth 100000 in
set_option maxHeartbeats 8000000 in
theorem eachMove_any (n : NetD) (a a' : Option Addr) (c c' g go d q : Nat) (p stop : Int) (xs : List PatternD) (w W : World) (G : Nat) (bs : List PatternD) (sml : Int)
    (hn : NetAt w (.agg #[.slice a n.stops.length c, .slice a' n.lines.length c']) n) (hgood : PatsGood n p xs) (hxd : xs.length ≤ d) (h0 : 0 < (restS n p xs stop).length) (hq : p = q) (hcel : ∀ j u, (patC xs)[j]? = some u → w.cell? ((⟨g, go, none⟩ : Addr).add j) = some u)
    (hE : EB w (.slice a n.stops.length c) (.slice a' n.lines.length c') (.slice (some ⟨g, go, none⟩) xs.length d) p stop G bs sml W) (hW : W.heap.size = G + 2) (hA : AccB n p xs stop 0 bs sml) :
    Calls Try.prog 72 #[.int .i64 p, .slice (some ⟨g, go, none⟩) xs.length d, seeV w.heap.size G] W
      fun e w' => e = .returned (.tuple #[]) ∧ ∃ bs' sml', EB w (.slice a n.stops.length c) (.slice a' n.lines.length c') (.slice (some ⟨g, go, none⟩) xs.length d) p stop G bs' sml' w' ∧ AccB n p xs stop (q ^ (xs.length - 1)) bs' sml' := by
  have hL := hgood.2.2.1
  obtain ⟨ms, hml, hmc, hmx⟩ := moved_cells hL
  have HMt : Hid (Mt xs p 0 1 ms) := ⟨hml, fun j h1 h2 => by rw [hmx j h1 h2], fun j h1 h2 hj => by rw [hmx j h1 h2, if_pos (by omega)]⟩
  have HMv := Lib.hid (fun V hV => moveFrom_any n a a' c c' g go d q p stop xs w G hn hgood hxd h0 hq (xs.length - 1) 1 0 (by omega) (Nat.le_refl _) V bs ms sml hV HMt.out (by rw [Nat.zero_mul]; exact hA))
  have hmin : Nat.min xs.length 3 = xs.length := Nat.min_eq_left hL.2
  obtain ⟨W1, hW1⟩ : ∃ W1 : World, W1 = (((W.alloc (.cells #[.int .i64 p] 3)).alloc (.cells #[.slice (some ⟨g, go, none⟩) xs.length d] 28)).alloc (.cells #[seeV w.heap.size G] 91)).alloc (.cells #[.int .i64 0, .int .i64 0, .int .i64 0, .int .i64 0, .int .i64 0, .int .i64 0] 89) := ⟨_, rfl⟩
  have hb1 : Below W.heap.size W W1 := by rw [hW1]; exact ((((Below.refl _ _).alloc (Nat.le_refl _) _).alloc (by simp) _).alloc (by simp; omega) _).alloc (by simp; omega) _
  have hz1 : W1.heap.size = G + 6 := by rw [hW1]; simp; omega
  have e2 : W.heap.size = G + 2 := hW
  have p2 : W1.cell? ⟨G + 2, 0, none⟩ = some (.int .i64 p) := by rw [← e2, hW1]; go_simp
  have l2 : W1.cell? ⟨G + 3, 0, none⟩ = some (.slice (some ⟨g, go, none⟩) xs.length d) := by rw [show G + 3 = W.heap.size + 1 by omega, hW1]; go_simp
  have s2 : W1.cell? ⟨G + 4, 0, none⟩ = some (seeV w.heap.size G) := by rw [show G + 4 = W.heap.size + 1 + 1 by omega, hW1]; go_simp
  have hown : W1.ownsRow w.heap.size 89 2 (.slice (some ⟨G + 5, 0, none⟩) 3 3) 3 (patC [zP, zP, zP]) := by
    have hbl := hE.bel.size
    refine own_block_mkB (by omega) ?_ (by decide) rfl
    have hh : ∀ (V : World) (o : Obj), (V.alloc o).heap[V.heap.size]? = some o := fun V o => by show (V.heap.push o)[V.heap.size]? = some o; simp
    have hi : G + 5 = (((W.alloc (.cells #[.int .i64 p] 3)).alloc (.cells #[.slice (some ⟨g, go, none⟩) xs.length d] 28)).alloc (.cells #[seeV w.heap.size G] 91)).heap.size := by simp only [World.size_alloc]; omega
    rw [hi, hW1]
    exact hh _ _
  have HE1 := Lib.hid (hE.later hb1)
  have HSrc : Hid (∀ j u, (patC xs)[j]? = some u → W1.drew.cell? ((⟨g, go, none⟩ : Addr).add j) = some u) := fun j u hu => bkeep (hE.bel.trans (hb1.drew.mono hE.bel.size)) (hcel j u hu)
  have hpl := patC_len xs
  have HCc : Hid (∀ j, j < (patC xs).length → (W1.drew.cell? ⟨G + 5, 0 + j, none⟩).isSome = true) := fun j hj => by
    have h := hown.cellAt j (by omega)
    show (W1.cell? ⟨G + 5, 0 + j, none⟩).isSome = true
    rw [Nat.zero_add, h, List.getElem?_eq_getElem (by simp [patC, zP]; omega)]; rfl
  have HFr : Hid (∀ j, j < (patC xs).length → W1.drew.frozen? ⟨G + 5, 0 + j, none⟩ = false) := fun j hj => hown.frozenAt _
  have hg2 := setCells_grown (G + 5) (patC xs) 0 W1.drew
  have ho2 := own_setCells (patC xs) 0 W1.drew _ (own_later hown (Below.refl _ _).drew) (by simp [patC, zP]; omega)
  rw [← hmc] at ho2
  have hE2 := (HE1.out.later (Below.refl _ _).drew).other hg2 (by omega)
  have hz2 : (W1.drew.setCells (G + 5) 0 (patC xs)).heap.size = G + 6 := by
    have h1 := hg2.size
    have h2 : W1.drew.heap.size = W1.heap.size := rfl
    have : ∀ (cs : List Value) (o : Nat) (V : World), (V.setCells (G + 5) o cs).heap.size = V.heap.size := by
      intro cs
      induction cs with
      | nil => intro o V; rfl
      | cons v r ih => intro o V; rw [World.setCells, ih]; simp [World.setCell]
    rw [this]; exact hz1
  have hS2 : (W1.drew.setCells (G + 5) 0 (patC xs)).cell? ⟨G + 3, 0, none⟩ = some (.slice (some ⟨g, go, none⟩) xs.length d) := grB_cell hg2 l2 (by show G + 3 ≠ G + 5; omega)
  have hp2 : (W1.drew.setCells (G + 5) 0 (patC xs)).cell? ⟨G + 2, 0, none⟩ = some (.int .i64 p) := grB_cell hg2 p2 (by show G + 2 ≠ G + 5; omega)
  have hs2 : (W1.drew.setCells (G + 5) 0 (patC xs)).cell? ⟨G + 4, 0, none⟩ = some (seeV w.heap.size G) := grB_cell hg2 s2 (by show G + 4 ≠ G + 5; omega)
  obtain ⟨W2, hW2⟩ : ∃ W2 : World, W2 = W1.drew.setCells (G + 5) 0 (patC xs) := ⟨_, rfl⟩
  rw [← hW2] at hS2 hp2 hs2 ho2 hE2 hz2
  have HEV : Hid (∀ o, W2.heap.size = G + 6 → EV w (.slice a n.stops.length c) (.slice a' n.lines.length c') (.slice (some ⟨g, go, none⟩) xs.length d) p stop G bs sml ms (W2.alloc (.cells #[mvV G] o))) := fun o hz =>
    ⟨hE2.later ((Below.refl _ _).alloc (Nat.le_refl _) _), acell hp2 _, acell hS2 _, acell hs2 _, ho2.alloc _, by rw [← hz]; go_simp⟩
  have HZ := Lib.hid hz2
  have HS2 := Lib.hid hS2
  have HW2 := Lib.hid hW2
  rw [hW2] at hS2
  clear hcel hE hA hn hgood hmc hmx hml hown ho2 hg2 hE2 hp2 hs2 hb1 hq h0 hW2 p2 s2 hz1 hz2
  go_enter Try.func72, Try.ntmps72
  go_wp2_with fail
  simp only [show G + 2 + 1 = G + 3 from rfl, show G + 3 + 1 = G + 4 from rfl, show G + 4 + 1 = G + 5 from rfl, show G + 5 + 1 = G + 6 from rfl]
  rw [← hW1]
  clear hW1
  refine wp_region_held_drew (S := (fun w' => w'.cell? ⟨G + 3, 0, none⟩ = some (.slice (some ⟨g, go, none⟩) xs.length d))) (by kernel_rfl) ?_ (fun hHeld => ?_)
  · exact l2
  refine wpAnyH_take (i := 0) (v := ?_) (by simp only [List.getElem?_toArray, List.getElem?_cons_zero]; rfl) (by kernel_rfl) (by kernel_rfl) (by kernel_rfl) (by exact fun _ _ _ h => h) (Or.inl ⟨by rfl, ?_⟩) (by assumption) ?_
  rotate_left
  · intro w' hSw; (try dsimp only at hSw); have e0 := hSw
    go_simp; try with_reducible rfl
  try simp only [Act.put, List.setIfInBounds_toArray, List.set_cons_zero, List.set_cons_succ]
  refine wpAnyH_take (i := 1) (v := ?_) (by simp only [List.getElem?_toArray, List.getElem?_cons_succ, List.getElem?_cons_zero]; rfl) (by kernel_rfl) (by kernel_rfl) (by kernel_rfl) (by exact fun _ _ _ h => h) (Or.inl ⟨by rfl, ?_⟩) (by assumption) ?_
  rotate_left
  · intro w' hSw; (try dsimp only at hSw); have e0 := hSw
    go_simp; try with_reducible rfl
  try simp only [Act.put, List.setIfInBounds_toArray, List.set_cons_zero, List.set_cons_succ]
  refine wpAnyH_ready (rs := [2]) (by kernel_rfl) (by simp) ?_
  refine AllReadyH.cons (by simp only [List.getElem?_toArray, List.getElem?_cons_succ, List.getElem?_cons_zero]; rfl) (fun K hK => ?_) AllReadyH.nil
  rw [if_pos (by rfl)]
  refine wp_copy_runI _ _ _ _ _ rfl _ _ rfl rfl (run_copy_cells2 _ _ _ _ 45 (G + 5) 0 3 3 ⟨g, go, none⟩ xs.length d xs.length (patC xs) Try.underlying28 (by kernel_rfl) hmin (patC_len xs) HSrc.out HCc.out HFr.out (patC_cells xs)) ?_
  refine hK.out _ _ hS2 (fun hH2 => ?_)
  clear hK K
  try simp only [Act.put, List.setIfInBounds_toArray, List.set_cons_zero, List.set_cons_succ]
  refine wpAnyH_done (by kernel_rfl) ?_ _
  clear hHeld hH2
  rw [← HW2.out]
  go_wp2_with fail
  rw [HZ.out]
  go_at_call 103
  refine (HMv.out _ (HEV.out _ HZ.out)).mono ?_
  rintro e w4 ⟨rfl, bs', sml', ms', hE', -, hA'⟩
  have HE4 := Lib.hid hE'.eb
  have HA4 := Lib.hid hA'
  clear hE' hA'
  go_wp2_with fail
  go_end0
  exact ⟨rfl, bs', sml', HE4.out, by have h := HA4.out; rw [Nat.zero_add, Nat.one_mul] at h; exact h⟩
end Go.Proofs.Ytfgkfdkdjegaiaa
