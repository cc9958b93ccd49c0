import Derived.Test.YtehpeifaknbcnaaFollB
import Derived.Test.YtehpeifaknbcnaaMk43
import Derived.OrdersHeld
import Derived.Deep.RegionHeld
namespace Go.Proofs.Ytehpeifaknbcnaa
open Go.RowKit
set_option linter.unusedVariables false
set_option linter.unusedSimpArgs false

theorem set2_cell {w : World} {p0 p1 a : Addr} {u0 u1 : Value} (h : p0.block ≠ a.block ∧ p1.block ≠ a.block) : ((w.setCell p0 u0).setCell p1 u1).cell? a = w.cell? a := by
  have key : ∀ (W : World) (p : Addr) (u : Value), p.block ≠ a.block → (W.setCell p u).cell? a = W.cell? a := fun W p u hp => World.cell?_of_block (Below.heap_setCell _ _ _ _ (fun e => hp (by rw [e])))
  rw [key _ _ _ h.2, key _ _ _ h.1]

set_option maxRecDepth 100000 in
set_option maxHeartbeats 2000000 in
theorem tripsSpan_any (nv : Value) (n : NetD) (x y : TripD) (w : World) (hr : NetAt w nv n) (hg : NetGood n) (hy : CanRun n y) :
    Calls Try.prog 75 #[nv, tripV x, tripV y] w fun e w' => e = .returned (.agg #[.int .i64 x.start, .int .i64 (arrF n y)]) ∧ Below w.heap.size w w' := by
  have HA := Lib.hid (fun W (h : Below w.heap.size w W) => arrF_any nv n y W (hr.below rfl h) hg hy)
  obtain ⟨a, c, a', c', rfl, -, -⟩ := net_open hr
  clear hr hg hy
  obtain ⟨xi, xl, xs⟩ := x
  obtain ⟨yi, yl, ys⟩ := y
  generalize arrF n ⟨yi, yl, ys⟩ = A at *
  unfold tripV at *
  simp only at *
  go_enter Try.func75, Try.ntmps75
  go_upto_region 1 with fail
  obtain ⟨w0, hw0⟩ : ∃ w0 : World, w0 = (((w.alloc (.cells #[.slice a n.stops.length c, .slice a' n.lines.length c'] 34)).alloc (.cells #[.int .i64 xi, .int .i64 xl, .int .i64 xs] 89)).alloc (.cells #[.int .i64 yi, .int .i64 yl, .int .i64 ys] 89)).alloc (.cells #[.int .i64 0, .int .i64 0] 104) := ⟨_, rfl⟩
  have z0 : w0.cell? ⟨w.heap.size, 0, none⟩ = some (.slice a n.stops.length c) := by rw [hw0]; go_simp
  have z1 : w0.cell? ⟨w.heap.size, 1, none⟩ = some (.slice a' n.lines.length c') := by rw [hw0]; go_simp
  have z2 : w0.cell? ⟨w.heap.size + 1, 2, none⟩ = some (.int .i64 xs) := by rw [hw0]; go_simp
  have z3 : w0.cell? ⟨w.heap.size + 1 + 1, 0, none⟩ = some (.int .i64 yi) := by rw [hw0]; go_simp
  have z4 : w0.cell? ⟨w.heap.size + 1 + 1, 1, none⟩ = some (.int .i64 yl) := by rw [hw0]; go_simp
  have z5 : w0.cell? ⟨w.heap.size + 1 + 1, 2, none⟩ = some (.int .i64 ys) := by rw [hw0]; go_simp
  have HZ : Hid (SpanBox w0 (w.heap.size + 1 + 1 + 1) (0, 0)) := ⟨by rw [hw0]; go_simp, by rw [hw0]; go_simp, fun o => by rw [hw0]; go_simp⟩
  have HB0 : Hid (Below w.heap.size w w0) := by rw [hw0]; exact ((((Below.refl _ _).alloc (Nat.le_refl _) _).alloc (by simp) _).alloc (by simp; omega) _).alloc (by simp; omega) _
  have hz0 : w0.heap.size = w.heap.size + 4 := by rw [hw0]; simp
  rw [← hw0]
  clear hw0
  refine wp_region_held_drew (S := (fun w' => w'.cell? ⟨w.heap.size, 0, none⟩ = some (.slice a n.stops.length c) ∧ w'.cell? ⟨w.heap.size, 1, none⟩ = some (.slice a' n.lines.length c') ∧ w'.cell? ⟨w.heap.size + 1, 2, none⟩ = some (.int .i64 xs) ∧ w'.cell? ⟨w.heap.size + 1 + 1, 0, none⟩ = some (.int .i64 yi) ∧ w'.cell? ⟨w.heap.size + 1 + 1, 1, none⟩ = some (.int .i64 yl) ∧ w'.cell? ⟨w.heap.size + 1 + 1, 2, none⟩ = some (.int .i64 ys))) (by kernel_rfl) ?_ (fun hHeld => ?_)
  · exact ⟨z0, z1, z2, z3, z4, z5⟩
  refine wpAnyH_take (i := 0) (v := ?_) (by simp only [List.getElem?_toArray, List.getElem?_cons_zero]; rfl) (by kernel_rfl) (by kernel_rfl) (by kernel_rfl) (by exact fun _ _ _ h => h) (Or.inl ⟨by rfl, ?_⟩) (by assumption) ?_
  rotate_left
  · intro w' hSw; obtain ⟨e0, e1, e2, e3, e4, e5⟩ := hSw
    go_simp; try with_reducible rfl
  try simp only [Act.put, List.setIfInBounds_toArray, List.set_cons_zero, List.set_cons_succ]
  refine wpAnyH_take (i := 1) (v := ?_) (by simp only [List.getElem?_toArray, List.getElem?_cons_succ, List.getElem?_cons_zero]; rfl) (by kernel_rfl) (by kernel_rfl) (by kernel_rfl) (by exact fun _ _ _ h => h) (Or.inl ⟨by rfl, ?_⟩) (by assumption) ?_
  rotate_left
  · intro w' hSw; obtain ⟨e0, e1, e2, e3, e4, e5⟩ := hSw
    go_simp; try with_reducible rfl
  try simp only [Act.put, List.setIfInBounds_toArray, List.set_cons_zero, List.set_cons_succ]
  refine wpAnyH_take (i := 2) (v := ?_) (by simp only [List.getElem?_toArray, List.getElem?_cons_succ, List.getElem?_cons_zero]; rfl) (by kernel_rfl) (by kernel_rfl) (by kernel_rfl) (by exact fun _ _ _ h => h) (Or.inl ⟨by rfl, ?_⟩) (by assumption) ?_
  rotate_left
  · intro w' hSw; obtain ⟨e0, e1, e2, e3, e4, e5⟩ := hSw
    go_simp; try with_reducible rfl
  try simp only [Act.put, List.setIfInBounds_toArray, List.set_cons_zero, List.set_cons_succ]
  refine wpAnyH_take (i := 3) (v := ?_) (by simp only [List.getElem?_toArray, List.getElem?_cons_succ, List.getElem?_cons_zero]; rfl) (by kernel_rfl) (by kernel_rfl) (by kernel_rfl) (by exact fun _ _ _ h => h) (Or.inl ⟨by rfl, ?_⟩) (by assumption) ?_
  rotate_left
  · intro w' hSw; obtain ⟨e0, e1, e2, e3, e4, e5⟩ := hSw
    go_simp; try with_reducible rfl
  try simp only [Act.put, List.setIfInBounds_toArray, List.set_cons_zero, List.set_cons_succ]
  refine wpAnyH_ready (rs := [4]) (by kernel_rfl) (by simp) ?_
  refine AllReadyH.cons (by simp only [List.getElem?_toArray, List.getElem?_cons_succ, List.getElem?_cons_zero]; rfl) (fun K hK => ?_) AllReadyH.nil
  go_simp
  go_at_call 99
  refine (HA.out _ HB0.out.drew).mono ?_
  rintro e w1 ⟨rfl, hb⟩
  have rb : Below w0.heap.size w0 w1 := (Below.refl _ _).drew.trans hb
  have hS1 : w1.cell? ⟨w.heap.size, 0, none⟩ = some (.slice a n.stops.length c) ∧ w1.cell? ⟨w.heap.size, 1, none⟩ = some (.slice a' n.lines.length c') ∧ w1.cell? ⟨w.heap.size + 1, 2, none⟩ = some (.int .i64 xs) ∧ w1.cell? ⟨w.heap.size + 1 + 1, 0, none⟩ = some (.int .i64 yi) ∧ w1.cell? ⟨w.heap.size + 1 + 1, 1, none⟩ = some (.int .i64 yl) ∧ w1.cell? ⟨w.heap.size + 1 + 1, 2, none⟩ = some (.int .i64 ys) := ⟨bkeep rb z0, bkeep rb z1, bkeep rb z2, bkeep rb z3, bkeep rb z4, bkeep rb z5⟩
  have HB1 : Hid (Below w.heap.size w w1) := HB0.out.trans (rb.mono HB0.out.size)
  have HZ1 := Lib.hid (HZ.out.keep rb)
  have hz1 : w.heap.size + 4 ≤ w1.heap.size := Nat.le_trans (Nat.le_of_eq hz0.symm) rb.size
  clear hb rb
  go_wp2_with fail
  refine hK.out _ _ hS1 (fun hH4 => ?_)
  obtain ⟨y0, y1, y2, y3, y4, y5⟩ := hS1
  clear hK K
  try simp only [Act.put, List.setIfInBounds_toArray, List.set_cons_zero, List.set_cons_succ]
  refine wpAnyH_take (i := 5) (v := ?_) (by simp only [List.getElem?_toArray, List.getElem?_cons_succ, List.getElem?_cons_zero]; rfl) (by kernel_rfl) (by kernel_rfl) (by kernel_rfl) (by exact fun _ _ _ h => h) (Or.inl ⟨by rfl, ?_⟩) (by assumption) ?_
  rotate_left
  · intro w' hSw; obtain ⟨e0, e1, e2, e3, e4, e5⟩ := hSw
    go_simp; try with_reducible rfl
  try simp only [Act.put, List.setIfInBounds_toArray, List.set_cons_zero, List.set_cons_succ]
  refine wpAnyH_ready (rs := [6]) (by kernel_rfl) (by simp) ?_
  refine AllReadyH.cons (by simp only [List.getElem?_toArray, List.getElem?_cons_succ, List.getElem?_cons_zero]; rfl) (fun K hK => ?_) AllReadyH.nil
  have q0 := HZ1.out.c0
  have q1 := HZ1.out.c1
  have qf := HZ1.out.fz
  go_simp
  refine hK.out _ _ ⟨(set2_cell (by dsimp only; omega)).trans y0, (set2_cell (by dsimp only; omega)).trans y1, (set2_cell (by dsimp only; omega)).trans y2, (set2_cell (by dsimp only; omega)).trans y3, (set2_cell (by dsimp only; omega)).trans y4, (set2_cell (by dsimp only; omega)).trans y5⟩ (fun hH6 => ?_)
  clear hK K
  try simp only [Act.put, List.setIfInBounds_toArray, List.set_cons_zero, List.set_cons_succ]
  refine wpAnyH_done (by kernel_rfl) ?_ _
  have hS2 := HZ1.out.set xs A
  have q0 := hS2.c0
  have q1 := hS2.c1
  go_wp2_with fail
  refine bodyPost_ret (v := .agg #[.int .i64 xs, .int .i64 A]) (by simp only [results, Try.results75]; go_simp) rfl ⟨rfl, ?_⟩
  exact (HB1.out.setCell (p := ⟨w.heap.size + 1 + 1 + 1, 0, none⟩) (by dsimp only; omega) _).setCell (p := ⟨w.heap.size + 1 + 1 + 1, 1, none⟩) (by dsimp only; omega) _
end Go.Proofs.Ytehpeifaknbcnaa
