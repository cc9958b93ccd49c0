/-
  A ROW OF THE CALL's OWN, told with its spare cells: cells are written into it; slices.Delete of one element, at a row of the call's own.
-/
import Derived.Test.YtbbcjponeiphaaaFitP
import Derived.Test.YtbbcjponeiphaaaShelf
namespace Go.Proofs.Ytbbcjponeiphaaa
open Go.RowKit
set_option linter.unusedVariables false

/-- block g holds these cells, nothing else, none frozen -/
def FullRow (w : World) (g : Nat) (cur : List Value) : Prop := w.heap[g]? = some (.cells cur.toArray 3 (0, 0))
theorem fullRow_of {w : World} {B g n cap : Nat} {xs : List Value} (h : w.ownsRow B 3 1 (.slice (some ⟨g, 0, none⟩) n cap) n xs) :
    ∃ cur : List Value, FullRow w g cur ∧ cur.length = cap ∧ n ≤ cap ∧ cap ≤ maxLen ∧ B ≤ g ∧ cur.take n = xs := by
  rcases h.2 with ⟨h', _⟩ | ⟨g', cap', cur, h', hb, hg, hnc, hcm, hcs, htake⟩
  · simp at h'
  · simp only [Value.slice.injEq, Option.some.injEq, Addr.mk.injEq, and_true, true_and] at h'
    obtain ⟨rfl, rfl⟩ := h'
    exact ⟨cur.toList, by unfold FullRow; rw [hg], by simpa using hcs, hnc, hcm, hb, by simpa using htake⟩
theorem fullRow_own {w : World} {B g n cap : Nat} {cur : List Value} (h : FullRow w g cur) (hl : cur.length = cap) (hn : n ≤ cap) (hc : cap ≤ maxLen) (hB : B ≤ g) :
    w.ownsRow B 3 1 (.slice (some ⟨g, 0, none⟩) n cap) n (cur.take n) :=
  ⟨by simp; omega, .inr ⟨g, cap, cur.toArray, rfl, hB, h, hn, hc, by simpa using hl, by simp⟩⟩
theorem FullRow.set {w : World} {g : Nat} {cur : List Value} (h : FullRow w g cur) (i : Nat) (u : Value) : FullRow (w.setCell ⟨g, i, none⟩ u) g (cur.set i u) := by
  have := heap_setCell_same w g i cur.toArray 3 u h
  unfold FullRow
  rw [this]
  simp
def splice (cur : List Value) : Nat → List Value → List Value
  | _, [] => cur
  | o, v :: r => splice (cur.set o v) (o + 1) r
theorem FullRow.sets {g : Nat} : ∀ (vs : List Value) {w : World} {cur : List Value} (o : Nat), FullRow w g cur → FullRow (w.setCells g o vs) g (splice cur o vs)
  | [], _, _, _, h => h
  | v :: r, w, cur, o, h => by
    rw [World.setCells]
    exact FullRow.sets r (o + 1) (h.set o v)
theorem splice_eq : ∀ (vs cur : List Value) (o : Nat), o + vs.length ≤ cur.length → splice cur o vs = cur.take o ++ (vs ++ cur.drop (o + vs.length))
  | [], cur, o, _ => by simp [splice]
  | v :: r, cur, o, h => by
    simp only [List.length_cons] at h
    rw [splice, splice_eq r (cur.set o v) (o + 1) (by simp; omega)]
    rw [List.take_succ_eq_append_getElem (by simp; omega), List.take_set_of_le (Nat.le_refl _), List.drop_set_of_lt (by omega)]
    simp
    rw [show o + (r.length + 1) = o + 1 + r.length by omega]
theorem below_sets {W : World} {B g : Nat} (hg : B ≤ g) : ∀ (vs : List Value) {w : World} (o : Nat), Below B W w → Below B W (w.setCells g o vs)
  | [], _, _, h => h
  | v :: r, w, o, h => by
    rw [World.setCells]
    exact below_sets hg r (o + 1) (h.setCell (p := ⟨g, o, none⟩) hg v)
theorem fullRow_drewN {w : World} {g : Nat} {cur : List Value} (h : FullRow w g cur) (q : Nat) : FullRow (w.drewN q) g cur := h
theorem fullRow_cell {w : World} {g : Nat} {cur : List Value} (h : FullRow w g cur) (j : Nat) (hj : j < cur.length) : w.cell? ⟨g, j, none⟩ = some cur[j] ∧ w.frozen? ⟨g, j, none⟩ = false := by
  unfold FullRow at h
  constructor
  · simp [World.cell?, h, hj]
  · simp [World.frozen?, h]

theorem Delete_own (v : Value) (xs : List Int) (i : Nat) (B : Nat) (w : World) (hr : w.ownsRow B 3 1 v xs.length (ints xs)) (hi : i < xs.length) :
    Calls Try.prog 153 #[v, .int .i64 (i : Int), .int .i64 ((i : Int) + 1)] w fun e w' => ∃ v', e = .returned v' ∧ w'.ownsRow B 3 1 v' (xs.length - 1) (ints (xs.take i ++ xs.drop (i + 1))) ∧ v'.ownBlock = v.ownBlock ∧ Below B w w' := by
  obtain ⟨a, c, rfl⟩ := own_shape hr
  rcases hr.2 with ⟨h', h0⟩ | ⟨g, cap, cur0, h', _⟩
  · omega
  simp only [Value.slice.injEq, true_and] at h'
  obtain ⟨rfl, rfl⟩ := h'
  obtain ⟨cur, hf, hl, hn, hm, hB, ht⟩ := fullRow_of hr
  have hcell := fun j (hj : j < xs.length) => fullRow_cell hf j (by omega)
  have hcx : ∀ j (hj : j < xs.length), cur[j]'(by omega) = .int .i64 (xs[j]) := fun j hj => by
    have h1 : (cur.take xs.length)[j]'(by simp; omega) = (ints xs)[j]'(by simp [ints]; omega) := by simp only [ht]
    simpa [ints] using h1
  have := Try.slices_Delete_int_cells g 0 xs.length c i (i + 1) xs w (Nat.le_refl _) hn (by unfold maxLen at hm; omega) (by omega) (by omega) (fun j hj => by
    rw [Nat.zero_add, (hcell j hj).1, hcx j hj]; simp [List.getD, List.getElem?_eq_getElem hj]) (fun j hj => by rw [Nat.zero_add]; exact (hcell j hj).2)
  rw [show ((i + 1 : Nat) : Int) = (i : Int) + 1 by omega] at this
  refine this.mono fun e w' ⟨he, q, hw⟩ => ?_
  have e1 : xs.length - (i + 1 - i) = xs.length - 1 := by omega
  rw [e1] at he
  have hF := FullRow.sets ((((xs.take xs.length).take i ++ (xs.take xs.length).drop (i + 1) ++ List.replicate (i + 1 - i) 0)).map (Value.int .i64)) 0 (fullRow_drewN hf q)
  rw [← hw, splice_eq _ _ _ (by simp; omega)] at hF
  have hO := fullRow_own (n := xs.length - 1) (cap := c) hF (by simp; omega) (by omega) hm hB
  have e2 : ∀ D : List Value, (cur.take 0 ++ ((((xs.take xs.length).take i ++ (xs.take xs.length).drop (i + 1) ++ List.replicate (i + 1 - i) 0)).map (Value.int .i64) ++ D)).take (xs.length - 1) = ints (xs.take i ++ xs.drop (i + 1)) := fun D => by
    rw [List.take_zero, List.nil_append, List.take_length, List.map_append, List.append_assoc]
    exact List.take_left' (by simp; omega)
  rw [e2] at hO
  exact ⟨_, he, hO, rfl, by rw [hw]; exact below_sets hB _ 0 (below_drewN (Below.refl _ _) q)⟩
end Go.Proofs.Ytbbcjponeiphaaa
