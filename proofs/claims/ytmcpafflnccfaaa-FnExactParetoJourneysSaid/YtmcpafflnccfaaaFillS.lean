/-
  CONTRACTS of spec.l8Leg and spec.l8Fill: one leg.
-/
import Derived.Test.YtmcpafflnccfaaaMc
import Derived.Test.YtmcpafflnccfaaaLegX
import Derived.Test.YtmcpafflnccfaaaMb
import Derived.Test.YtmcpafflnccfaaaTripFind
import Derived.Test.YtmcpafflnccfaaaLegsBy
import Derived.Test.YtmcpafflnccfaaaTripNumber
import Derived.OrdersHeld
import Derived.Deep.RegionHeld
namespace Go.Proofs.Ytmcpafflnccfaaa
open Go.RowKit Jrn
set_option linter.unusedVariables false
set_option linter.unusedSimpArgs false

/-- a leg's box of zeros -/
def Z5 (w : World) (B : Nat) : Prop := w.cell? ⟨B, 0, none⟩ = some (.int .i64 0) ∧ w.cell? ⟨B, 1, none⟩ = some (.int .i64 0) ∧ w.cell? ⟨B, 2, none⟩ = some (.int .i64 0) ∧ w.cell? ⟨B, 3, none⟩ = some (.int .i64 0) ∧ w.cell? ⟨B, 4, none⟩ = some (.int .i64 0) ∧ B < w.heap.size ∧ ∀ o, w.frozen? ⟨B, o, none⟩ = false
theorem Z5.later {w w' : World} {B : Nat} (h : Z5 w B) (hb : Below w.heap.size w w') : Z5 w' B := by
  obtain ⟨h0, h1, h2, h3, h4, hl, hf⟩ := h
  exact ⟨bkeep hb h0, bkeep hb h1, bkeep hb h2, bkeep hb h3, bkeep hb h4, Nat.lt_of_lt_of_le hl hb.size, fun o => (World.frozen?_of_block (a := ⟨B, o, none⟩) (hb.block B hl)).trans (hf o)⟩
theorem Z5.new (w : World) : Z5 (w.alloc (.cells #[.int .i64 0, .int .i64 0, .int .i64 0, .int .i64 0, .int .i64 0] 62)) w.heap.size :=
  ⟨by go_simp, by go_simp, by go_simp, by go_simp, by go_simp, by simp, fun o => by unfold World.frozen?; rw [(MapKept.heap_alloc w _).1]; simp⟩
theorem set5_cell {w : World} {p0 p1 p2 p3 p4 a : Addr} {u0 u1 u2 u3 u4 : Value} (h : p0.block ≠ a.block ∧ p1.block ≠ a.block ∧ p2.block ≠ a.block ∧ p3.block ≠ a.block ∧ p4.block ≠ a.block) :
    (((((w.setCell p0 u0).setCell p1 u1).setCell p2 u2).setCell p3 u3).setCell p4 u4).cell? a = w.cell? a := by
  obtain ⟨h0, h1, h2, h3, h4⟩ := h
  have key : ∀ (W : World) (p : Addr) (u : Value), p.block ≠ a.block → (W.setCell p u).cell? a = W.cell? a := fun W p u hp => World.cell?_of_block (Below.heap_setCell _ _ _ _ (fun e => hp (by rw [e])))
  rw [key _ _ _ h4, key _ _ _ h3, key _ _ _ h2, key _ _ _ h1, key _ _ _ h0]
theorem set5_below {w W : World} {B : Nat} {u0 u1 u2 u3 u4 : Value} {o0 o1 o2 o3 o4 : Nat} (h : Below W.heap.size W w) (hB : W.heap.size ≤ B) :
    Below W.heap.size W (((((w.setCell ⟨B, o0, none⟩ u0).setCell ⟨B, o1, none⟩ u1).setCell ⟨B, o2, none⟩ u2).setCell ⟨B, o3, none⟩ u3).setCell ⟨B, o4, none⟩ u4) :=
  ((((h.setCell (p := ⟨B, _, none⟩) hB _).setCell (p := ⟨B, _, none⟩) hB _).setCell (p := ⟨B, _, none⟩) hB _).setCell (p := ⟨B, _, none⟩) hB _).setCell (p := ⟨B, _, none⟩) hB _

theorem tk_getD (s : Int) (rs : List Int) (k p : Nat) (h : p < k) : (tk s rs k).getD p 0 = s + (rs.take p).sum := by rw [List.getD_eq_getElem?_getD, tk_get s rs k p h]; rfl
theorem l5AtR (v : Value) (t : TTD) (i : Nat) (w : World) (hr : TTAt w v t) (hg : TTGood t) (hi : i < t.trips.length) (p : Nat) (hp : p < (rideOf t t.trips[i]).stops.length) :
    ∀ W : World, Below w.heap.size w W → Calls Try.prog 122 #[v, .int .i64 i, .int .i64 p] W fun e w' => e = .returned (.int .i64 ((rideOf t t.trips[i]).times.getD p 0)) ∧ Below W.heap.size W w' := by
  obtain ⟨k, hk, hf⟩ := ride_facts hg i hi
  rw [hf.ride] at hp ⊢
  simp only at hp ⊢
  have h6 := hf.len6
  have hr1 := hf.lenr
  have h := l5At_any v t i w hr hi k hf.line hk (by omega) hf.runs hf.s0 hf.s1 p (by omega)
  rw [tk_getD _ _ _ _ (by omega)]
  rw [runSum_zero] at h
  exact h
theorem l5StopsR (v : Value) (t : TTD) (i : Nat) (w : World) (hr : TTAt w v t) (hg : TTGood t) (hi : i < t.trips.length) :
    ∃ s0 s1, RowAt w (.slice s0 (rideOf t t.trips[i]).stops.length s1) (ints (rideOf t t.trips[i]).stops) ∧
      ∀ W : World, Below w.heap.size w W → Calls Try.prog 121 #[v, .int .i64 i] W fun e w' => e = .returned (.slice s0 (rideOf t t.trips[i]).stops.length s1) ∧ Below W.heap.size W w' := by
  obtain ⟨k, hk, hf⟩ := ride_facts hg i hi
  rw [hf.ride]
  exact l5Stops_any v t i w hr hi k hf.line hk
theorem ride_bounds {t : TTD} (hg : TTGood t) (i : Nat) (hi : i < t.trips.length) : 2 ≤ (rideOf t t.trips[i]).stops.length ∧ (rideOf t t.trips[i]).stops.length ≤ 6 := by
  obtain ⟨k, hk, hf⟩ := ride_facts hg i hi
  rw [hf.ride]; exact ⟨hf.len2, hf.len6⟩

set_option maxRecDepth 100000 in
set_option maxHeartbeats 4000000 in
theorem l8Leg_any (v : Value) (t : TTD) (i A B : Nat) (w : World) (hr : TTAt w v t) (hg : TTGood t) (hi : i < t.trips.length) (hA : A < (rideOf t t.trips[i]).stops.length) (hB : B < (rideOf t t.trips[i]).stops.length) :
    Calls Try.prog 137 #[v, .int .i64 i, .int .i64 A, .int .i64 B] w fun e w' => e = .returned (legV (legR (rideOf t t.trips[i]) A B)) ∧ Below w.heap.size w w' := by
  have HA1 := Lib.hid (l5AtR v t i w hr hg hi A hA)
  have HA2 := Lib.hid (l5AtR v t i w hr hg hi B hB)
  obtain ⟨s0, s1, hrs, hS⟩ := l5StopsR v t i w hr hg hi
  have HS := Lib.hid hS
  obtain ⟨sb, sq, rfl, hsb, hsc⟩ := rowI_at hrs (by omega)
  have hcA := hsc A hA
  have hcB := hsc B hB
  obtain ⟨a, c, a', c', b, d, rfl, hn, ht⟩ := tt_open hr
  obtain ⟨g, go, rfl, hgb, y0, -, -⟩ := trip_at ht i hi
  have hid : (t.trips[i]).id = (rideOf t t.trips[i]).id := rfl
  rw [hid] at y0
  have hi1 : (i : Int) < (t.trips.length : Int) := by omega
  have hb6 := (ride_bounds hg i hi).2
  clear hrs hS hsc hn ht hr hg hid
  generalize rideOf t t.trips[i] = R at *
  have hA1 : (A : Int) < (R.stops.length : Int) := by omega
  have hB1 : (B : Int) < (R.stops.length : Int) := by omega
  go_enter Try.func137, Try.ntmps137
  go_wp2_with fail
  obtain ⟨wa, hwa⟩ : ∃ wa : World, wa = (w.alloc (.cells #[.slice a t.net.stops.length c, .slice a' t.net.lines.length c', .slice (some ⟨g, go, none⟩) t.trips.length d] 38)).alloc (.cells #[.int .i64 0, .int .i64 0, .int .i64 0, .int .i64 0, .int .i64 0] 62) := ⟨_, rfl⟩
  have p0 : wa.cell? ⟨w.heap.size, 0, none⟩ = some (.slice a t.net.stops.length c) := by rw [hwa]; go_simp
  have p1 : wa.cell? ⟨w.heap.size, 1, none⟩ = some (.slice a' t.net.lines.length c') := by rw [hwa]; go_simp
  have p2 : wa.cell? ⟨w.heap.size, 2, none⟩ = some (.slice (some ⟨g, go, none⟩) t.trips.length d) := by rw [hwa]; go_simp
  have hba : Below w.heap.size w wa := by rw [hwa]; exact ((Below.refl _ _).alloc (Nat.le_refl _) _).alloc (by simp) _
  have HZa : Hid (Z5 wa (w.heap.size + 1)) := by
    have h := Z5.new (w.alloc (.cells #[.slice a t.net.stops.length c, .slice a' t.net.lines.length c', .slice (some ⟨g, go, none⟩) t.trips.length d] 38))
    simp only [World.size_alloc] at h
    rw [hwa]; exact h
  rw [← hwa]
  clear hwa
  go_at_call 121
  refine (HS.out _ hba).mono ?_
  rintro e w1 ⟨rfl, hb1⟩
  have HB1 : Hid (Below w.heap.size w w1) := hba.trans (hb1.mono hba.size)
  have HZ1 := Lib.hid (HZa.out.later hb1)
  have z0_1 := bkeep hb1 p0
  have z1_1 := bkeep hb1 p1
  have z2_1 := bkeep hb1 p2
  have z3_1 := bkeep HB1.out y0
  have z4_1 := bkeep HB1.out hcA
  have z5_1 := bkeep HB1.out hcB
  clear hb1 hba p0 p1 p2 y0 hcA hcB HZa HS
  go_wp2_with fail
  refine wp_region_held_drew (S := (fun w' => w'.cell? ⟨w.heap.size, 0, none⟩ = some (.slice a t.net.stops.length c) ∧ w'.cell? ⟨w.heap.size, 1, none⟩ = some (.slice a' t.net.lines.length c') ∧ w'.cell? ⟨w.heap.size, 2, none⟩ = some (.slice (some ⟨g, go, none⟩) t.trips.length d) ∧ w'.cell? ⟨g, go + i * 3, none⟩ = some (.int .i64 R.id) ∧ w'.cell? ⟨sb, sq + A, none⟩ = some (.int .i64 (R.stops.getD A 0)) ∧ w'.cell? ⟨sb, sq + B, none⟩ = some (.int .i64 (R.stops.getD B 0)))) (by kernel_rfl) ?_ (fun hHeld => ?_)
  · exact ⟨z0_1, z1_1, z2_1, z3_1, z4_1, z5_1⟩
  refine wpAnyH_take (i := 0) (v := ?_) (by simp only [List.getElem?_toArray, List.getElem?_cons_zero]; rfl) (by kernel_rfl) (by kernel_rfl) (by kernel_rfl) (by exact fun _ _ _ h => h) (Or.inl ⟨by rfl, ?_⟩) (by assumption) ?_
  rotate_left
  · intro w' hSw; obtain ⟨e0, e1, e2, e3, e4, e5⟩ := hSw
    go_simp; try with_reducible rfl
  try simp only [Act.put, List.setIfInBounds_toArray, List.set_cons_zero, List.set_cons_succ]
  refine wpAnyH_take (i := 1) (v := ?_) (by simp only [List.getElem?_toArray, List.getElem?_cons_succ, List.getElem?_cons_zero]; rfl) (by kernel_rfl) (by kernel_rfl) (by kernel_rfl) (by exact fun _ _ _ h => h) (Or.inl ⟨by rfl, ?_⟩) (by assumption) ?_
  rotate_left
  · intro w' hSw; obtain ⟨e0, e1, e2, e3, e4, e5⟩ := hSw
    go_simp; try with_reducible rfl
  try simp only [Act.put, List.setIfInBounds_toArray, List.set_cons_zero, List.set_cons_succ]
  refine wpAnyH_take (i := 2) (v := ?_) (by simp only [List.getElem?_toArray, List.getElem?_cons_succ, List.getElem?_cons_zero]; rfl) (by kernel_rfl) (by kernel_rfl) (by kernel_rfl) (by exact fun _ _ _ h => h) (Or.inl ⟨by rfl, ?_⟩) (by assumption) ?_
  rotate_left
  · intro w' hSw; obtain ⟨e0, e1, e2, e3, e4, e5⟩ := hSw
    go_simp; try with_reducible rfl
  try simp only [Act.put, List.setIfInBounds_toArray, List.set_cons_zero, List.set_cons_succ]
  refine wpAnyH_take (i := 3) (v := ?_) (by simp only [List.getElem?_toArray, List.getElem?_cons_succ, List.getElem?_cons_zero]; rfl) (by kernel_rfl) (by kernel_rfl) (by kernel_rfl) (by exact fun _ _ _ h => h) (Or.inl ⟨by rfl, ?_⟩) (by assumption) ?_
  rotate_left
  · intro w' hSw; obtain ⟨e0, e1, e2, e3, e4, e5⟩ := hSw
    go_simp; try with_reducible rfl
  try simp only [Act.put, List.setIfInBounds_toArray, List.set_cons_zero, List.set_cons_succ]
  refine wpAnyH_take (i := 4) (v := ?_) (by simp only [List.getElem?_toArray, List.getElem?_cons_succ, List.getElem?_cons_zero]; rfl) (by kernel_rfl) (by kernel_rfl) (by kernel_rfl) (by exact fun _ _ _ h => h) (Or.inl ⟨by rfl, ?_⟩) (by assumption) ?_
  rotate_left
  · intro w' hSw; obtain ⟨e0, e1, e2, e3, e4, e5⟩ := hSw
    go_simp; try with_reducible rfl
  try simp only [Act.put, List.setIfInBounds_toArray, List.set_cons_zero, List.set_cons_succ]
  refine wpAnyH_take (i := 5) (v := ?_) (by simp only [List.getElem?_toArray, List.getElem?_cons_succ, List.getElem?_cons_zero]; rfl) (by kernel_rfl) (by kernel_rfl) (by kernel_rfl) (by exact fun _ _ _ h => h) (Or.inl ⟨by rfl, ?_⟩) (by assumption) ?_
  rotate_left
  · intro w' hSw; obtain ⟨e0, e1, e2, e3, e4, e5⟩ := hSw
    go_simp; try with_reducible rfl
  try simp only [Act.put, List.setIfInBounds_toArray, List.set_cons_zero, List.set_cons_succ]
  refine wpAnyH_take (i := 6) (v := ?_) (by simp only [List.getElem?_toArray, List.getElem?_cons_succ, List.getElem?_cons_zero]; rfl) (by kernel_rfl) (by kernel_rfl) (by kernel_rfl) (by exact fun _ _ _ h => h) (Or.inl ⟨by rfl, ?_⟩) (by assumption) ?_
  rotate_left
  · intro w' hSw; obtain ⟨e0, e1, e2, e3, e4, e5⟩ := hSw
    go_simp; try with_reducible rfl
  try simp only [Act.put, List.setIfInBounds_toArray, List.set_cons_zero, List.set_cons_succ]
  refine wpAnyH_take (i := 7) (v := ?_) (by simp only [List.getElem?_toArray, List.getElem?_cons_succ, List.getElem?_cons_zero]; rfl) (by kernel_rfl) (by kernel_rfl) (by kernel_rfl) (by exact fun _ _ _ h => h) (Or.inl ⟨by rfl, ?_⟩) (by assumption) ?_
  rotate_left
  · intro w' hSw; obtain ⟨e0, e1, e2, e3, e4, e5⟩ := hSw
    go_simp; try with_reducible rfl
  try simp only [Act.put, List.setIfInBounds_toArray, List.set_cons_zero, List.set_cons_succ]
  refine wpAnyH_take (i := 8) (v := ?_) (by simp only [List.getElem?_toArray, List.getElem?_cons_succ, List.getElem?_cons_zero]; rfl) (by kernel_rfl) (by kernel_rfl) (by kernel_rfl) (by exact fun _ _ _ h => h) (Or.inl ⟨by rfl, ?_⟩) (by assumption) ?_
  rotate_left
  · intro w' hSw; obtain ⟨e0, e1, e2, e3, e4, e5⟩ := hSw
    go_simp; try with_reducible rfl
  try simp only [Act.put, List.setIfInBounds_toArray, List.set_cons_zero, List.set_cons_succ]
  refine wpAnyH_take (i := 9) (v := ?_) (by simp only [List.getElem?_toArray, List.getElem?_cons_succ, List.getElem?_cons_zero]; rfl) (by kernel_rfl) (by kernel_rfl) (by kernel_rfl) (by exact fun _ _ _ h => h) (Or.inl ⟨by rfl, ?_⟩) (by assumption) ?_
  rotate_left
  · intro w' hSw; obtain ⟨e0, e1, e2, e3, e4, e5⟩ := hSw
    go_simp; try with_reducible rfl
  try simp only [Act.put, List.setIfInBounds_toArray, List.set_cons_zero, List.set_cons_succ]
  refine wpAnyH_take (i := 10) (v := ?_) (by simp only [List.getElem?_toArray, List.getElem?_cons_succ, List.getElem?_cons_zero]; rfl) (by kernel_rfl) (by kernel_rfl) (by kernel_rfl) (by exact fun _ _ _ h => h) (Or.inl ⟨by rfl, ?_⟩) (by assumption) ?_
  rotate_left
  · intro w' hSw; obtain ⟨e0, e1, e2, e3, e4, e5⟩ := hSw
    go_simp; try with_reducible rfl
  try simp only [Act.put, List.setIfInBounds_toArray, List.set_cons_zero, List.set_cons_succ]
  refine wpAnyH_take (i := 11) (v := ?_) (by simp only [List.getElem?_toArray, List.getElem?_cons_succ, List.getElem?_cons_zero]; rfl) (by kernel_rfl) (by kernel_rfl) (by kernel_rfl) (by exact fun _ _ _ h => h) (Or.inl ⟨by rfl, ?_⟩) (by assumption) ?_
  rotate_left
  · intro w' hSw; obtain ⟨e0, e1, e2, e3, e4, e5⟩ := hSw
    go_simp; try with_reducible rfl
  try simp only [Act.put, List.setIfInBounds_toArray, List.set_cons_zero, List.set_cons_succ]
  refine wpAnyH_take (i := 12) (v := ?_) (by simp only [List.getElem?_toArray, List.getElem?_cons_succ, List.getElem?_cons_zero]; rfl) (by kernel_rfl) (by kernel_rfl) (by kernel_rfl) (by exact fun _ _ _ h => h) (Or.inl ⟨by rfl, ?_⟩) (by assumption) ?_
  rotate_left
  · intro w' hSw; obtain ⟨e0, e1, e2, e3, e4, e5⟩ := hSw
    go_simp; try with_reducible rfl
  try simp only [Act.put, List.setIfInBounds_toArray, List.set_cons_zero, List.set_cons_succ]
  refine wpAnyH_take (i := 13) (v := ?_) (by simp only [List.getElem?_toArray, List.getElem?_cons_succ, List.getElem?_cons_zero]; rfl) (by kernel_rfl) (by kernel_rfl) (by kernel_rfl) (by exact fun _ _ _ h => h) (Or.inl ⟨by rfl, ?_⟩) (by assumption) ?_
  rotate_left
  · intro w' hSw; obtain ⟨e0, e1, e2, e3, e4, e5⟩ := hSw
    go_simp; try with_reducible rfl
  try simp only [Act.put, List.setIfInBounds_toArray, List.set_cons_zero, List.set_cons_succ]
  refine wpAnyH_take (i := 14) (v := ?_) (by simp only [List.getElem?_toArray, List.getElem?_cons_succ, List.getElem?_cons_zero]; rfl) (by kernel_rfl) (by kernel_rfl) (by kernel_rfl) (by exact fun _ _ _ h => h) (Or.inl ⟨by rfl, ?_⟩) (by assumption) ?_
  rotate_left
  · intro w' hSw; obtain ⟨e0, e1, e2, e3, e4, e5⟩ := hSw
    go_simp; try with_reducible rfl
  try simp only [Act.put, List.setIfInBounds_toArray, List.set_cons_zero, List.set_cons_succ]
  refine wpAnyH_take (i := 15) (v := ?_) (by simp only [List.getElem?_toArray, List.getElem?_cons_succ, List.getElem?_cons_zero]; rfl) (by kernel_rfl) (by kernel_rfl) (by kernel_rfl) (by exact fun _ _ _ h => h) (Or.inl ⟨by rfl, ?_⟩) (by assumption) ?_
  rotate_left
  · intro w' hSw; obtain ⟨e0, e1, e2, e3, e4, e5⟩ := hSw
    go_simp; try with_reducible rfl
  try simp only [Act.put, List.setIfInBounds_toArray, List.set_cons_zero, List.set_cons_succ]
  refine wpAnyH_take (i := 16) (v := ?_) (by simp only [List.getElem?_toArray, List.getElem?_cons_succ, List.getElem?_cons_zero]; rfl) (by kernel_rfl) (by kernel_rfl) (by kernel_rfl) (by exact fun _ _ _ h => h) (Or.inl ⟨by rfl, ?_⟩) (by assumption) ?_
  rotate_left
  · intro w' hSw; obtain ⟨e0, e1, e2, e3, e4, e5⟩ := hSw
    go_simp; try with_reducible rfl
  try simp only [Act.put, List.setIfInBounds_toArray, List.set_cons_zero, List.set_cons_succ]
  refine wpAnyH_take (i := 18) (v := ?_) (by simp only [List.getElem?_toArray, List.getElem?_cons_succ, List.getElem?_cons_zero]; rfl) (by kernel_rfl) (by kernel_rfl) (by kernel_rfl) (by exact fun _ _ _ h => h) (Or.inl ⟨by rfl, ?_⟩) (by assumption) ?_
  rotate_left
  · intro w' hSw; obtain ⟨e0, e1, e2, e3, e4, e5⟩ := hSw
    go_simp; try with_reducible rfl
  try simp only [Act.put, List.setIfInBounds_toArray, List.set_cons_zero, List.set_cons_succ]
  refine wpAnyH_take (i := 19) (v := ?_) (by simp only [List.getElem?_toArray, List.getElem?_cons_succ, List.getElem?_cons_zero]; rfl) (by kernel_rfl) (by kernel_rfl) (by kernel_rfl) (by exact fun _ _ _ h => h) (Or.inl ⟨by rfl, ?_⟩) (by assumption) ?_
  rotate_left
  · intro w' hSw; obtain ⟨e0, e1, e2, e3, e4, e5⟩ := hSw
    go_simp; try with_reducible rfl
  try simp only [Act.put, List.setIfInBounds_toArray, List.set_cons_zero, List.set_cons_succ]
  refine wpAnyH_take (i := 20) (v := ?_) (by simp only [List.getElem?_toArray, List.getElem?_cons_succ, List.getElem?_cons_zero]; rfl) (by kernel_rfl) (by kernel_rfl) (by kernel_rfl) (by exact fun _ _ _ h => h) (Or.inl ⟨by rfl, ?_⟩) (by assumption) ?_
  rotate_left
  · intro w' hSw; obtain ⟨e0, e1, e2, e3, e4, e5⟩ := hSw
    go_simp; try with_reducible rfl
  try simp only [Act.put, List.setIfInBounds_toArray, List.set_cons_zero, List.set_cons_succ]
  refine wpAnyH_ready (rs := [17]) (by kernel_rfl) (by simp) ?_
  refine AllReadyH.cons (by simp only [List.getElem?_toArray, List.getElem?_cons_succ, List.getElem?_cons_zero]; rfl) (fun K hK => ?_) AllReadyH.nil
  go_simp
  go_at_call 122
  refine (HA1.out _ (HB1.out.drew)).mono ?_
  rintro e w2 ⟨rfl, hb⟩
  have rb2 : Below w1.heap.size w1 w2 := (Below.refl _ _).drew.trans hb
  have hS2 : w2.cell? ⟨w.heap.size, 0, none⟩ = some (.slice a t.net.stops.length c) ∧ w2.cell? ⟨w.heap.size, 1, none⟩ = some (.slice a' t.net.lines.length c') ∧ w2.cell? ⟨w.heap.size, 2, none⟩ = some (.slice (some ⟨g, go, none⟩) t.trips.length d) ∧ w2.cell? ⟨g, go + i * 3, none⟩ = some (.int .i64 R.id) ∧ w2.cell? ⟨sb, sq + A, none⟩ = some (.int .i64 (R.stops.getD A 0)) ∧ w2.cell? ⟨sb, sq + B, none⟩ = some (.int .i64 (R.stops.getD B 0)) := ⟨bkeep rb2 z0_1, bkeep rb2 z1_1, bkeep rb2 z2_1, bkeep rb2 z3_1, bkeep rb2 z4_1, bkeep rb2 z5_1⟩
  have HB2 : Hid (Below w.heap.size w w2) := HB1.out.trans (rb2.mono HB1.out.size)
  have HZ2 := Lib.hid (HZ1.out.later rb2)
  clear hb
  go_wp2_with fail
  refine hK.out _ _ hS2 (fun hH17 => ?_)
  obtain ⟨z0_2, z1_2, z2_2, z3_2, z4_2, z5_2⟩ := hS2
  clear rb2
  clear hK K
  try simp only [Act.put, List.setIfInBounds_toArray, List.set_cons_zero, List.set_cons_succ]
  refine wpAnyH_ready (rs := [21]) (by kernel_rfl) (by simp) ?_
  refine AllReadyH.cons (by simp only [List.getElem?_toArray, List.getElem?_cons_succ, List.getElem?_cons_zero]; rfl) (fun K hK => ?_) AllReadyH.nil
  go_simp
  go_at_call 122
  refine (HA2.out _ (HB2.out)).mono ?_
  rintro e w3 ⟨rfl, hb⟩
  have rb3 : Below w2.heap.size w2 w3 := hb
  have hS3 : w3.cell? ⟨w.heap.size, 0, none⟩ = some (.slice a t.net.stops.length c) ∧ w3.cell? ⟨w.heap.size, 1, none⟩ = some (.slice a' t.net.lines.length c') ∧ w3.cell? ⟨w.heap.size, 2, none⟩ = some (.slice (some ⟨g, go, none⟩) t.trips.length d) ∧ w3.cell? ⟨g, go + i * 3, none⟩ = some (.int .i64 R.id) ∧ w3.cell? ⟨sb, sq + A, none⟩ = some (.int .i64 (R.stops.getD A 0)) ∧ w3.cell? ⟨sb, sq + B, none⟩ = some (.int .i64 (R.stops.getD B 0)) := ⟨bkeep rb3 z0_2, bkeep rb3 z1_2, bkeep rb3 z2_2, bkeep rb3 z3_2, bkeep rb3 z4_2, bkeep rb3 z5_2⟩
  have HB3 : Hid (Below w.heap.size w w3) := HB2.out.trans (rb3.mono HB2.out.size)
  have HZ3 := Lib.hid (HZ2.out.later rb3)
  clear hb
  go_wp2_with fail
  refine hK.out _ _ hS3 (fun hH21 => ?_)
  obtain ⟨z0_3, z1_3, z2_3, z3_3, z4_3, z5_3⟩ := hS3
  clear rb3
  clear hK K
  try simp only [Act.put, List.setIfInBounds_toArray, List.set_cons_zero, List.set_cons_succ]
  refine wpAnyH_take (i := 22) (v := ?_) (by simp only [List.getElem?_toArray, List.getElem?_cons_succ, List.getElem?_cons_zero]; rfl) (by kernel_rfl) (by kernel_rfl) (by kernel_rfl) (by exact fun _ _ _ h => h) (Or.inl ⟨by rfl, ?_⟩) (by assumption) ?_
  rotate_left
  · intro w' hSw; obtain ⟨e0, e1, e2, e3, e4, e5⟩ := hSw
    go_simp; try with_reducible rfl
  try simp only [Act.put, List.setIfInBounds_toArray, List.set_cons_zero, List.set_cons_succ]
  refine wpAnyH_ready (rs := [23]) (by kernel_rfl) (by simp) ?_
  refine AllReadyH.cons (by simp only [List.getElem?_toArray, List.getElem?_cons_succ, List.getElem?_cons_zero]; rfl) (fun K hK => ?_) AllReadyH.nil
  obtain ⟨zz0, zz1, zz2, zz3, zz4, zl, zf⟩ := HZ3.out
  have hs0 := HB3.out.size
  go_simp
  refine hK.out _ _ ⟨(set5_cell (by dsimp only; omega)).trans z0_3, (set5_cell (by dsimp only; omega)).trans z1_3, (set5_cell (by dsimp only; omega)).trans z2_3, (set5_cell (by dsimp only; omega)).trans z3_3, (set5_cell (by dsimp only; omega)).trans z4_3, (set5_cell (by dsimp only; omega)).trans z5_3⟩ (fun hH23 => ?_)
  clear hK K
  try simp only [Act.put, List.setIfInBounds_toArray, List.set_cons_zero, List.set_cons_succ]
  refine wpAnyH_done (by kernel_rfl) ?_ _
  go_wp2_with fail
  refine bodyPost_ret (v := legV (legR R A B)) (by simp only [results, Try.results137]; unfold legV legR; go_simp) rfl ⟨rfl, ?_⟩
  exact set5_below HB3.out (by simp)

def legO : Option LegD → LegD
  | none => ⟨0, 0, 0, 0, 0⟩
  | some l => l
theorem mem_rides {t : TTD} {i : Nat} (hi : i < t.trips.length) : rideOf t t.trips[i] ∈ rides t := List.mem_map.2 ⟨_, List.getElem_mem hi, rfl⟩
theorem fill_nofind {t : TTD} (hg : TTGood t) {trip frm dst : Int} (h : foundB trip t.trips = false) : fillF (allLegs (rides t)) trip frm dst = none := by
  cases hf : fillF (allLegs (rides t)) trip frm dst with
  | none => rfl
  | some l =>
    obtain ⟨h1, h2, h3, h4⟩ := fillF_some hf
    obtain ⟨r, hr, i, j, hij, hj, rfl⟩ := mem_allLegs.1 h1
    obtain ⟨x, hx, rfl⟩ := List.mem_map.1 hr
    exfalso
    have hn := (fstIdx_neg trip (t.trips.map (fun x => x.id))).1 (by have := findI_none hg.Asc h; unfold findI at this; omega)
    exact hn (List.mem_map.2 ⟨x, hx, h2⟩)
theorem fill_noplace {t : TTD} (hg : TTGood t) {trip frm dst : Int} {i : Nat} (hi : i < t.trips.length) (hid : (t.trips[i]).id = trip) (h : fstIdx frm (rideOf t t.trips[i]).stops < 0 ∨ fstIdx dst (rideOf t t.trips[i]).stops ≤ fstIdx frm (rideOf t t.trips[i]).stops) : fillF (allLegs (rides t)) trip frm dst = none := by
  cases hf : fillF (allLegs (rides t)) trip frm dst with
  | none => rfl
  | some l =>
    exfalso
    obtain ⟨h1, h2, h3, h4⟩ := fillF_some hf
    obtain ⟨r, hr, p, q, hpq, hq, rfl⟩ := mem_allLegs.1 h1
    have hrr : r = rideOf t t.trips[i] := (rides_ok hg).id_eq hr (mem_rides hi) (by have e1 : r.id = trip := h2; have e2 : (rideOf t t.trips[i]).id = trip := hid; omega)
    subst hrr
    have hnd := ((rides_ok hg).each _ hr).nodup
    have ep : fstIdx frm (rideOf t t.trips[i]).stops = p := by
      have hp : p < (rideOf t t.trips[i]).stops.length := by omega
      have := (nodup_first _).1 hnd p hp
      have e : (rideOf t t.trips[i]).stops[p] = frm := by rw [← h3]; show _ = List.getD _ _ _; rw [List.getD_eq_getElem?_getD, List.getElem?_eq_getElem hp]; rfl
      rw [e] at this; exact this
    have eq : fstIdx dst (rideOf t t.trips[i]).stops = q := by
      have := (nodup_first _).1 hnd q hq
      have e : (rideOf t t.trips[i]).stops[q] = dst := by rw [← h4]; show _ = List.getD _ _ _; rw [List.getD_eq_getElem?_getD, List.getElem?_eq_getElem hq]; rfl
      rw [e] at this; exact this
    omega
theorem fill_place {t : TTD} (hg : TTGood t) {trip frm dst : Int} {i : Nat} (hi : i < t.trips.length) (hid : (t.trips[i]).id = trip) (h : ¬ (fstIdx frm (rideOf t t.trips[i]).stops < 0 ∨ fstIdx dst (rideOf t t.trips[i]).stops ≤ fstIdx frm (rideOf t t.trips[i]).stops)) :
    ∃ A B : Nat, fstIdx frm (rideOf t t.trips[i]).stops = A ∧ fstIdx dst (rideOf t t.trips[i]).stops = B ∧ A < B ∧ B < (rideOf t t.trips[i]).stops.length ∧ fillF (allLegs (rides t)) trip frm dst = some (legR (rideOf t t.trips[i]) A B) := by
  have m1 : frm ∈ (rideOf t t.trips[i]).stops := by
    by_cases hm : frm ∈ (rideOf t t.trips[i]).stops
    · exact hm
    · exact absurd (.inl ((fstIdx_neg _ _).2 hm)) h
  have m2 : dst ∈ (rideOf t t.trips[i]).stops := by
    by_cases hm : dst ∈ (rideOf t t.trips[i]).stops
    · exact hm
    · exfalso
      have h1 := (fstIdx_neg _ _).2 hm
      have h2 := fstIdx_lt frm (rideOf t t.trips[i]).stops
      have h3 := fstIdx_lt dst (rideOf t t.trips[i]).stops
      omega
  obtain ⟨A, hA, hAl, hAe, -⟩ := fstIdx_get frm _ m1
  obtain ⟨B, hB, hBl, hBe, -⟩ := fstIdx_get dst _ m2
  refine ⟨A, B, hA, hB, by omega, hBl, ?_⟩
  have hl : legR (rideOf t t.trips[i]) A B ∈ allLegs (rides t) := mem_allLegs.2 ⟨_, mem_rides hi, A, B, by omega, hBl, rfl⟩
  have := fillF_of (rides_ok hg) hl
  have e2 : (legR (rideOf t t.trips[i]) A B).frm = frm := by show List.getD _ _ _ = _; rw [List.getD_eq_getElem?_getD, List.getElem?_eq_getElem hAl]; exact hAe
  have e3 : (legR (rideOf t t.trips[i]) A B).dst = dst := by show List.getD _ _ _ = _; rw [List.getD_eq_getElem?_getD, List.getElem?_eq_getElem hBl]; exact hBe
  rw [e2, e3] at this
  have e1 : (legR (rideOf t t.trips[i]) A B).trip = trip := hid
  rw [e1] at this
  exact this

set_option maxRecDepth 100000 in
set_option maxHeartbeats 4000000 in
theorem l8Fill_any (v : Value) (t : TTD) (trip frm dst : Int) (w : World) (hr : TTAt w v t) (hg : TTGood t) (hs : TTSmall t) :
    Calls Try.prog 109 #[v, .int .i64 trip, .int .i64 frm, .int .i64 dst] w fun e w' => e = .returned (.tuple #[legV (legO (fillF (allLegs (rides t)) trip frm dst)), .bool (fillF (allLegs (rides t)) trip frm dst).isSome]) ∧ Below w.heap.size w w' := by
  have HTT := Lib.hid hr
  have HGd := Lib.hid hg
  have HF := Lib.hid (fun W (hW : Below w.heap.size w W) => l5Find_any v t trip W (hr.below rfl hW) hs)
  obtain ⟨a, c, a', c', b, d, rfl, -, -⟩ := tt_open hr
  clear hr hs
  obtain ⟨wa, hwa⟩ : ∃ wa : World, wa = (w.alloc (.cells #[.slice a t.net.stops.length c, .slice a' t.net.lines.length c', .slice b t.trips.length d] 38)).alloc (.cells #[.int .i64 0, .int .i64 0, .int .i64 0, .int .i64 0, .int .i64 0] 62) := ⟨_, rfl⟩
  have p0 : wa.cell? ⟨w.heap.size, 0, none⟩ = some (.slice a t.net.stops.length c) := by rw [hwa]; go_simp
  have p1 : wa.cell? ⟨w.heap.size, 1, none⟩ = some (.slice a' t.net.lines.length c') := by rw [hwa]; go_simp
  have p2 : wa.cell? ⟨w.heap.size, 2, none⟩ = some (.slice b t.trips.length d) := by rw [hwa]; go_simp
  have hba : Below w.heap.size w wa := by rw [hwa]; exact ((Below.refl _ _).alloc (Nat.le_refl _) _).alloc (by simp) _
  have HZa : Hid (Z5 wa (w.heap.size + 1)) := by
    have h := Z5.new (w.alloc (.cells #[.slice a t.net.stops.length c, .slice a' t.net.lines.length c', .slice b t.trips.length d] 38))
    simp only [World.size_alloc] at h
    rw [hwa]; exact h
  have HWA := Lib.hid hwa
  clear hwa
  cases hfd : foundB trip t.trips with
  | false =>
    have hfi := findI_none hg.Asc hfd
    have HN := Lib.hid (fill_nofind hg (frm := frm) (dst := dst) hfd)
    rw [hfi] at HF
    clear hfd hfi hg
    go_enter Try.func109, Try.ntmps109
    go_wp2_with fail
    rw [← HWA.out]
    clear HWA
    go_at_call 65
    refine (HF.out _ hba).mono ?_
    rintro e w2 ⟨rfl, hb⟩
    have HB2 : Hid (Below w.heap.size w w2) := hba.trans (hb.mono hba.size)
    have HZ2 := Lib.hid (HZa.out.later hb)
    clear hb hba p0 p1 p2 HZa
    obtain ⟨zz0, zz1, zz2, zz3, zz4, zl, zf⟩ := HZ2.out
    go_wp2_with fail
    refine bodyPost_ret (v := .tuple #[.agg #[.int .i64 0, .int .i64 0, .int .i64 0, .int .i64 0, .int .i64 0], .bool false]) (by simp only [results, Try.results109]; go_simp) rfl ⟨by rw [HN.out]; rfl, ?_⟩
    exact set5_below HB2.out (by simp)

  | true =>
    obtain ⟨hfi, hpl⟩ := findI_found hg.Asc hfd
    have hid : (t.trips[placeOf trip t.trips]'hpl).id = trip := by
      have := foundB_at (id := trip) hpl
      rw [hfd] at this
      exact of_decide_eq_true this.symm
    rw [hfi] at HF
    clear hfd hfi
    generalize placeOf trip t.trips = i at *
    obtain ⟨k, hk, hfa⟩ := ride_facts hg i hpl
    have hrd := hfa.ride
    obtain ⟨s0, s1, r0, r1, ⟨hrs, hrr⟩, hL⟩ := l5Line_any _ t i w HTT.out hpl k hfa.line hk
    have HL := Lib.hid hL
    have hst : t.net.lines[k].stops = (rideOf t t.trips[i]).stops := by rw [hrd]
    have HP1 := Lib.hid (fun W (hW : Below w.heap.size w W) => l2Place_any _ t.net.lines[k] frm W (show LineV W (.agg #[.string t.net.lines[k].name, .slice s0 t.net.lines[k].stops.length s1, .slice r0 t.net.lines[k].runs.length r1]) t.net.lines[k] from ⟨_, _, rfl, hrs.below rfl hW, hrr.below rfl hW⟩))
    have HP2 := Lib.hid (fun W (hW : Below w.heap.size w W) => l2Place_any _ t.net.lines[k] dst W (show LineV W (.agg #[.string t.net.lines[k].name, .slice s0 t.net.lines[k].stops.length s1, .slice r0 t.net.lines[k].runs.length r1]) t.net.lines[k] from ⟨_, _, rfl, hrs.below rfl hW, hrr.below rfl hW⟩))
    have hi0 : ¬ (i : Int) < 0 := by omega
    have hlt1 := fstIdx_lt frm (rideOf t t.trips[i]).stops
    have hlt2 := fstIdx_lt dst (rideOf t t.trips[i]).stops
    by_cases hno : fstIdx frm (rideOf t t.trips[i]).stops < 0 ∨ fstIdx dst (rideOf t t.trips[i]).stops ≤ fstIdx frm (rideOf t t.trips[i]).stops
    · have HN := Lib.hid (fill_noplace hg hpl hid hno)
      rw [← hst] at hno
      generalize fstIdx frm t.net.lines[k].stops = A at *
      generalize fstIdx dst t.net.lines[k].stops = B at *
      clear hrs hrr hL hfa hrd hst hlt1 hlt2 hid hg
      generalize t.net.lines[k] = l at *
      have hcond : (decide (A < 0) || decide (B ≤ A)) = true := by simp; exact hno
      go_enter Try.func109, Try.ntmps109
      go_wp2_with fail
      rw [← HWA.out]
      clear HWA
      go_at_call 65
      refine (HF.out _ hba).mono ?_
      rintro e w2 ⟨rfl, hb⟩
      have HB2 : Hid (Below w.heap.size w w2) := hba.trans (hb.mono hba.size)
      have HZ2 := Lib.hid (HZa.out.later hb)
      have z0_2 := bkeep hb p0
      have z1_2 := bkeep hb p1
      have z2_2 := bkeep hb p2
      clear hb hba p0 p1 p2 HZa
      go_wp2_with fail
      refine wp_region_held_drew (S := (fun w' => w'.cell? ⟨w.heap.size, 0, none⟩ = some (.slice a t.net.stops.length c) ∧ w'.cell? ⟨w.heap.size, 1, none⟩ = some (.slice a' t.net.lines.length c') ∧ w'.cell? ⟨w.heap.size, 2, none⟩ = some (.slice b t.trips.length d))) (by kernel_rfl) ?_ (fun hHeld => ?_)
      · exact ⟨z0_2, z1_2, z2_2⟩
      refine wpAnyH_take (i := 0) (v := ?_) (by simp only [List.getElem?_toArray, List.getElem?_cons_zero]; rfl) (by kernel_rfl) (by kernel_rfl) (by kernel_rfl) (by exact fun _ _ _ h => h) (Or.inl ⟨by rfl, ?_⟩) (by assumption) ?_
      rotate_left
      · intro w' hSw; obtain ⟨e0, e1, e2⟩ := hSw
        go_simp; try with_reducible rfl
      try simp only [Act.put, List.setIfInBounds_toArray, List.set_cons_zero, List.set_cons_succ]
      refine wpAnyH_take (i := 1) (v := ?_) (by simp only [List.getElem?_toArray, List.getElem?_cons_succ, List.getElem?_cons_zero]; rfl) (by kernel_rfl) (by kernel_rfl) (by kernel_rfl) (by exact fun _ _ _ h => h) (Or.inl ⟨by rfl, ?_⟩) (by assumption) ?_
      rotate_left
      · intro w' hSw; obtain ⟨e0, e1, e2⟩ := hSw
        go_simp; try with_reducible rfl
      try simp only [Act.put, List.setIfInBounds_toArray, List.set_cons_zero, List.set_cons_succ]
      refine wpAnyH_take (i := 3) (v := ?_) (by simp only [List.getElem?_toArray, List.getElem?_cons_succ, List.getElem?_cons_zero]; rfl) (by kernel_rfl) (by kernel_rfl) (by kernel_rfl) (by exact fun _ _ _ h => h) (Or.inl ⟨by rfl, ?_⟩) (by assumption) ?_
      rotate_left
      · intro w' hSw; obtain ⟨e0, e1, e2⟩ := hSw
        go_simp; try with_reducible rfl
      try simp only [Act.put, List.setIfInBounds_toArray, List.set_cons_zero, List.set_cons_succ]
      refine wpAnyH_take (i := 5) (v := ?_) (by simp only [List.getElem?_toArray, List.getElem?_cons_succ, List.getElem?_cons_zero]; rfl) (by kernel_rfl) (by kernel_rfl) (by kernel_rfl) (by exact fun _ _ _ h => h) (Or.inl ⟨by rfl, ?_⟩) (by assumption) ?_
      rotate_left
      · intro w' hSw; obtain ⟨e0, e1, e2⟩ := hSw
        go_simp; try with_reducible rfl
      try simp only [Act.put, List.setIfInBounds_toArray, List.set_cons_zero, List.set_cons_succ]
      refine wpAnyH_take (i := 6) (v := ?_) (by simp only [List.getElem?_toArray, List.getElem?_cons_succ, List.getElem?_cons_zero]; rfl) (by kernel_rfl) (by kernel_rfl) (by kernel_rfl) (by exact fun _ _ _ h => h) (Or.inl ⟨by rfl, ?_⟩) (by assumption) ?_
      rotate_left
      · intro w' hSw; obtain ⟨e0, e1, e2⟩ := hSw
        go_simp; try with_reducible rfl
      try simp only [Act.put, List.setIfInBounds_toArray, List.set_cons_zero, List.set_cons_succ]
      refine wpAnyH_take (i := 8) (v := ?_) (by simp only [List.getElem?_toArray, List.getElem?_cons_succ, List.getElem?_cons_zero]; rfl) (by kernel_rfl) (by kernel_rfl) (by kernel_rfl) (by exact fun _ _ _ h => h) (Or.inl ⟨by rfl, ?_⟩) (by assumption) ?_
      rotate_left
      · intro w' hSw; obtain ⟨e0, e1, e2⟩ := hSw
        go_simp; try with_reducible rfl
      try simp only [Act.put, List.setIfInBounds_toArray, List.set_cons_zero, List.set_cons_succ]
      refine wpAnyH_ready (rs := [2]) (by kernel_rfl) (by simp) ?_
      refine AllReadyH.cons (by simp only [List.getElem?_toArray, List.getElem?_cons_succ, List.getElem?_cons_zero]; rfl) (fun K hK => ?_) AllReadyH.nil
      go_simp
      go_at_call 136
      refine (HL.out _ (HB2.out.drew)).mono ?_
      rintro e w3 ⟨rfl, hb⟩
      have rb3 : Below w2.heap.size w2 w3 := (Below.refl _ _).drew.trans hb
      have hS3 : w3.cell? ⟨w.heap.size, 0, none⟩ = some (.slice a t.net.stops.length c) ∧ w3.cell? ⟨w.heap.size, 1, none⟩ = some (.slice a' t.net.lines.length c') ∧ w3.cell? ⟨w.heap.size, 2, none⟩ = some (.slice b t.trips.length d) := ⟨bkeep rb3 z0_2, bkeep rb3 z1_2, bkeep rb3 z2_2⟩
      have HB3 : Hid (Below w.heap.size w w3) := HB2.out.trans (rb3.mono HB2.out.size)
      have HZ3 := Lib.hid (HZ2.out.later rb3)
      clear hb
      go_wp2_with fail
      refine hK.out _ _ hS3 (fun hH2 => ?_)
      obtain ⟨z0_3, z1_3, z2_3⟩ := hS3
      clear rb3 z0_2 z1_2 z2_2 HB2 HZ2
      clear hK K
      try simp only [Act.put, List.setIfInBounds_toArray, List.set_cons_zero, List.set_cons_succ]
      refine wpAnyH_ready (rs := [4]) (by kernel_rfl) (by simp) ?_
      refine AllReadyH.cons (by simp only [List.getElem?_toArray, List.getElem?_cons_succ, List.getElem?_cons_zero]; rfl) (fun K hK => ?_) AllReadyH.nil
      go_simp
      go_at_call 135
      refine (HP1.out _ (HB3.out)).mono ?_
      rintro e w4 ⟨rfl, hb⟩
      have rb4 : Below w3.heap.size w3 w4 := hb
      have hS4 : w4.cell? ⟨w.heap.size, 0, none⟩ = some (.slice a t.net.stops.length c) ∧ w4.cell? ⟨w.heap.size, 1, none⟩ = some (.slice a' t.net.lines.length c') ∧ w4.cell? ⟨w.heap.size, 2, none⟩ = some (.slice b t.trips.length d) := ⟨bkeep rb4 z0_3, bkeep rb4 z1_3, bkeep rb4 z2_3⟩
      have HB4 : Hid (Below w.heap.size w w4) := HB3.out.trans (rb4.mono HB3.out.size)
      have HZ4 := Lib.hid (HZ3.out.later rb4)
      clear hb
      go_wp2_with fail
      refine hK.out _ _ hS4 (fun hH4 => ?_)
      obtain ⟨z0_4, z1_4, z2_4⟩ := hS4
      clear rb4 z0_3 z1_3 z2_3 HB3 HZ3
      clear hK K
      try simp only [Act.put, List.setIfInBounds_toArray, List.set_cons_zero, List.set_cons_succ]
      refine wpAnyH_ready (rs := [7]) (by kernel_rfl) (by simp) ?_
      refine AllReadyH.cons (by simp only [List.getElem?_toArray, List.getElem?_cons_succ, List.getElem?_cons_zero]; rfl) (fun K hK => ?_) AllReadyH.nil
      go_simp
      go_at_call 136
      refine (HL.out _ (HB4.out)).mono ?_
      rintro e w5 ⟨rfl, hb⟩
      have rb5 : Below w4.heap.size w4 w5 := hb
      have hS5 : w5.cell? ⟨w.heap.size, 0, none⟩ = some (.slice a t.net.stops.length c) ∧ w5.cell? ⟨w.heap.size, 1, none⟩ = some (.slice a' t.net.lines.length c') ∧ w5.cell? ⟨w.heap.size, 2, none⟩ = some (.slice b t.trips.length d) := ⟨bkeep rb5 z0_4, bkeep rb5 z1_4, bkeep rb5 z2_4⟩
      have HB5 : Hid (Below w.heap.size w w5) := HB4.out.trans (rb5.mono HB4.out.size)
      have HZ5 := Lib.hid (HZ4.out.later rb5)
      clear hb
      go_wp2_with fail
      refine hK.out _ _ hS5 (fun hH7 => ?_)
      obtain ⟨z0_5, z1_5, z2_5⟩ := hS5
      clear rb5 z0_4 z1_4 z2_4 HB4 HZ4
      clear hK K
      try simp only [Act.put, List.setIfInBounds_toArray, List.set_cons_zero, List.set_cons_succ]
      refine wpAnyH_ready (rs := [9]) (by kernel_rfl) (by simp) ?_
      refine AllReadyH.cons (by simp only [List.getElem?_toArray, List.getElem?_cons_succ, List.getElem?_cons_zero]; rfl) (fun K hK => ?_) AllReadyH.nil
      go_simp
      go_at_call 135
      refine (HP2.out _ (HB5.out)).mono ?_
      rintro e w6 ⟨rfl, hb⟩
      have rb6 : Below w5.heap.size w5 w6 := hb
      have hS6 : w6.cell? ⟨w.heap.size, 0, none⟩ = some (.slice a t.net.stops.length c) ∧ w6.cell? ⟨w.heap.size, 1, none⟩ = some (.slice a' t.net.lines.length c') ∧ w6.cell? ⟨w.heap.size, 2, none⟩ = some (.slice b t.trips.length d) := ⟨bkeep rb6 z0_5, bkeep rb6 z1_5, bkeep rb6 z2_5⟩
      have HB6 : Hid (Below w.heap.size w w6) := HB5.out.trans (rb6.mono HB5.out.size)
      have HZ6 := Lib.hid (HZ5.out.later rb6)
      clear hb
      go_wp2_with fail
      refine hK.out _ _ hS6 (fun hH9 => ?_)
      obtain ⟨z0_6, z1_6, z2_6⟩ := hS6
      clear rb6 z0_5 z1_5 z2_5 HB5 HZ5
      clear hK K
      try simp only [Act.put, List.setIfInBounds_toArray, List.set_cons_zero, List.set_cons_succ]
      refine wpAnyH_take (i := 10) (v := ?_) (by simp only [List.getElem?_toArray, List.getElem?_cons_succ, List.getElem?_cons_zero]; rfl) (by kernel_rfl) (by kernel_rfl) (by kernel_rfl) (by exact fun _ _ _ h => h) (Or.inl ⟨by rfl, ?_⟩) (by assumption) ?_
      rotate_left
      · intro w' hSw; obtain ⟨e0, e1, e2⟩ := hSw
        go_simp; try with_reducible rfl
      try simp only [Act.put, List.setIfInBounds_toArray, List.set_cons_zero, List.set_cons_succ]
      refine wpAnyH_take (i := 11) (v := ?_) (by simp only [List.getElem?_toArray, List.getElem?_cons_succ, List.getElem?_cons_zero]; rfl) (by kernel_rfl) (by kernel_rfl) (by kernel_rfl) (by exact fun _ _ _ h => h) (Or.inl ⟨by rfl, ?_⟩) (by assumption) ?_
      rotate_left
      · intro w' hSw; obtain ⟨e0, e1, e2⟩ := hSw
        go_simp; try with_reducible rfl
      try simp only [Act.put, List.setIfInBounds_toArray, List.set_cons_zero, List.set_cons_succ]
      refine wpAnyH_done (by kernel_rfl) ?_ _

      obtain ⟨zz0, zz1, zz2, zz3, zz4, zl, zf⟩ := HZ6.out
      by_cases hA0 : A < 0
      · clear hcond hno
        go_wp2_with fail
        refine bodyPost_ret (v := .tuple #[.agg #[.int .i64 0, .int .i64 0, .int .i64 0, .int .i64 0, .int .i64 0], .bool false]) (by simp only [results, Try.results109]; go_simp) rfl ⟨by rw [HN.out]; rfl, ?_⟩
        exact set5_below HB6.out (by simp)
      · have hBA : B ≤ A := by omega
        clear hcond hno
        go_wp2_with fail
        refine bodyPost_ret (v := .tuple #[.agg #[.int .i64 0, .int .i64 0, .int .i64 0, .int .i64 0, .int .i64 0], .bool false]) (by simp only [results, Try.results109]; go_simp) rfl ⟨by rw [HN.out]; rfl, ?_⟩
        exact set5_below HB6.out (by simp)
    · obtain ⟨A, B, hA, hB, hAB, hBl, hfl⟩ := fill_place hg hpl hid hno
      have HN := Lib.hid hfl
      have HLeg := Lib.hid (fun W (hW : Below w.heap.size w W) => l8Leg_any _ t i A B W (HTT.out.below rfl hW) hg hpl (by omega) hBl)
      rw [hst, hA] at HP1
      rw [hst, hB] at HP2
      rw [hst] at HL
      have hA0 : ¬ (A : Int) < 0 := by omega
      have hBA : ¬ (B : Int) ≤ (A : Int) := by omega
      clear hrs hrr hL hfa hrd hlt1 hlt2 hid hg hfl hno hA hB hst
      generalize rideOf t t.trips[i] = R at *
      generalize t.net.lines[k] = l at *
      go_enter Try.func109, Try.ntmps109
      go_wp2_with fail
      rw [← HWA.out]
      clear HWA
      go_at_call 65
      refine (HF.out _ hba).mono ?_
      rintro e w2 ⟨rfl, hb⟩
      have HB2 : Hid (Below w.heap.size w w2) := hba.trans (hb.mono hba.size)
      have HZ2 := Lib.hid (HZa.out.later hb)
      have z0_2 := bkeep hb p0
      have z1_2 := bkeep hb p1
      have z2_2 := bkeep hb p2
      clear hb hba p0 p1 p2 HZa
      go_wp2_with fail
      refine wp_region_held_drew (S := (fun w' => w'.cell? ⟨w.heap.size, 0, none⟩ = some (.slice a t.net.stops.length c) ∧ w'.cell? ⟨w.heap.size, 1, none⟩ = some (.slice a' t.net.lines.length c') ∧ w'.cell? ⟨w.heap.size, 2, none⟩ = some (.slice b t.trips.length d))) (by kernel_rfl) ?_ (fun hHeld => ?_)
      · exact ⟨z0_2, z1_2, z2_2⟩
      refine wpAnyH_take (i := 0) (v := ?_) (by simp only [List.getElem?_toArray, List.getElem?_cons_zero]; rfl) (by kernel_rfl) (by kernel_rfl) (by kernel_rfl) (by exact fun _ _ _ h => h) (Or.inl ⟨by rfl, ?_⟩) (by assumption) ?_
      rotate_left
      · intro w' hSw; obtain ⟨e0, e1, e2⟩ := hSw
        go_simp; try with_reducible rfl
      try simp only [Act.put, List.setIfInBounds_toArray, List.set_cons_zero, List.set_cons_succ]
      refine wpAnyH_take (i := 1) (v := ?_) (by simp only [List.getElem?_toArray, List.getElem?_cons_succ, List.getElem?_cons_zero]; rfl) (by kernel_rfl) (by kernel_rfl) (by kernel_rfl) (by exact fun _ _ _ h => h) (Or.inl ⟨by rfl, ?_⟩) (by assumption) ?_
      rotate_left
      · intro w' hSw; obtain ⟨e0, e1, e2⟩ := hSw
        go_simp; try with_reducible rfl
      try simp only [Act.put, List.setIfInBounds_toArray, List.set_cons_zero, List.set_cons_succ]
      refine wpAnyH_take (i := 3) (v := ?_) (by simp only [List.getElem?_toArray, List.getElem?_cons_succ, List.getElem?_cons_zero]; rfl) (by kernel_rfl) (by kernel_rfl) (by kernel_rfl) (by exact fun _ _ _ h => h) (Or.inl ⟨by rfl, ?_⟩) (by assumption) ?_
      rotate_left
      · intro w' hSw; obtain ⟨e0, e1, e2⟩ := hSw
        go_simp; try with_reducible rfl
      try simp only [Act.put, List.setIfInBounds_toArray, List.set_cons_zero, List.set_cons_succ]
      refine wpAnyH_take (i := 5) (v := ?_) (by simp only [List.getElem?_toArray, List.getElem?_cons_succ, List.getElem?_cons_zero]; rfl) (by kernel_rfl) (by kernel_rfl) (by kernel_rfl) (by exact fun _ _ _ h => h) (Or.inl ⟨by rfl, ?_⟩) (by assumption) ?_
      rotate_left
      · intro w' hSw; obtain ⟨e0, e1, e2⟩ := hSw
        go_simp; try with_reducible rfl
      try simp only [Act.put, List.setIfInBounds_toArray, List.set_cons_zero, List.set_cons_succ]
      refine wpAnyH_take (i := 6) (v := ?_) (by simp only [List.getElem?_toArray, List.getElem?_cons_succ, List.getElem?_cons_zero]; rfl) (by kernel_rfl) (by kernel_rfl) (by kernel_rfl) (by exact fun _ _ _ h => h) (Or.inl ⟨by rfl, ?_⟩) (by assumption) ?_
      rotate_left
      · intro w' hSw; obtain ⟨e0, e1, e2⟩ := hSw
        go_simp; try with_reducible rfl
      try simp only [Act.put, List.setIfInBounds_toArray, List.set_cons_zero, List.set_cons_succ]
      refine wpAnyH_take (i := 8) (v := ?_) (by simp only [List.getElem?_toArray, List.getElem?_cons_succ, List.getElem?_cons_zero]; rfl) (by kernel_rfl) (by kernel_rfl) (by kernel_rfl) (by exact fun _ _ _ h => h) (Or.inl ⟨by rfl, ?_⟩) (by assumption) ?_
      rotate_left
      · intro w' hSw; obtain ⟨e0, e1, e2⟩ := hSw
        go_simp; try with_reducible rfl
      try simp only [Act.put, List.setIfInBounds_toArray, List.set_cons_zero, List.set_cons_succ]
      refine wpAnyH_ready (rs := [2]) (by kernel_rfl) (by simp) ?_
      refine AllReadyH.cons (by simp only [List.getElem?_toArray, List.getElem?_cons_succ, List.getElem?_cons_zero]; rfl) (fun K hK => ?_) AllReadyH.nil
      go_simp
      go_at_call 136
      refine (HL.out _ (HB2.out.drew)).mono ?_
      rintro e w3 ⟨rfl, hb⟩
      have rb3 : Below w2.heap.size w2 w3 := (Below.refl _ _).drew.trans hb
      have hS3 : w3.cell? ⟨w.heap.size, 0, none⟩ = some (.slice a t.net.stops.length c) ∧ w3.cell? ⟨w.heap.size, 1, none⟩ = some (.slice a' t.net.lines.length c') ∧ w3.cell? ⟨w.heap.size, 2, none⟩ = some (.slice b t.trips.length d) := ⟨bkeep rb3 z0_2, bkeep rb3 z1_2, bkeep rb3 z2_2⟩
      have HB3 : Hid (Below w.heap.size w w3) := HB2.out.trans (rb3.mono HB2.out.size)
      have HZ3 := Lib.hid (HZ2.out.later rb3)
      clear hb
      go_wp2_with fail
      refine hK.out _ _ hS3 (fun hH2 => ?_)
      obtain ⟨z0_3, z1_3, z2_3⟩ := hS3
      clear rb3 z0_2 z1_2 z2_2 HB2 HZ2
      clear hK K
      try simp only [Act.put, List.setIfInBounds_toArray, List.set_cons_zero, List.set_cons_succ]
      refine wpAnyH_ready (rs := [4]) (by kernel_rfl) (by simp) ?_
      refine AllReadyH.cons (by simp only [List.getElem?_toArray, List.getElem?_cons_succ, List.getElem?_cons_zero]; rfl) (fun K hK => ?_) AllReadyH.nil
      go_simp
      go_at_call 135
      refine (HP1.out _ (HB3.out)).mono ?_
      rintro e w4 ⟨rfl, hb⟩
      have rb4 : Below w3.heap.size w3 w4 := hb
      have hS4 : w4.cell? ⟨w.heap.size, 0, none⟩ = some (.slice a t.net.stops.length c) ∧ w4.cell? ⟨w.heap.size, 1, none⟩ = some (.slice a' t.net.lines.length c') ∧ w4.cell? ⟨w.heap.size, 2, none⟩ = some (.slice b t.trips.length d) := ⟨bkeep rb4 z0_3, bkeep rb4 z1_3, bkeep rb4 z2_3⟩
      have HB4 : Hid (Below w.heap.size w w4) := HB3.out.trans (rb4.mono HB3.out.size)
      have HZ4 := Lib.hid (HZ3.out.later rb4)
      clear hb
      go_wp2_with fail
      refine hK.out _ _ hS4 (fun hH4 => ?_)
      obtain ⟨z0_4, z1_4, z2_4⟩ := hS4
      clear rb4 z0_3 z1_3 z2_3 HB3 HZ3
      clear hK K
      try simp only [Act.put, List.setIfInBounds_toArray, List.set_cons_zero, List.set_cons_succ]
      refine wpAnyH_ready (rs := [7]) (by kernel_rfl) (by simp) ?_
      refine AllReadyH.cons (by simp only [List.getElem?_toArray, List.getElem?_cons_succ, List.getElem?_cons_zero]; rfl) (fun K hK => ?_) AllReadyH.nil
      go_simp
      go_at_call 136
      refine (HL.out _ (HB4.out)).mono ?_
      rintro e w5 ⟨rfl, hb⟩
      have rb5 : Below w4.heap.size w4 w5 := hb
      have hS5 : w5.cell? ⟨w.heap.size, 0, none⟩ = some (.slice a t.net.stops.length c) ∧ w5.cell? ⟨w.heap.size, 1, none⟩ = some (.slice a' t.net.lines.length c') ∧ w5.cell? ⟨w.heap.size, 2, none⟩ = some (.slice b t.trips.length d) := ⟨bkeep rb5 z0_4, bkeep rb5 z1_4, bkeep rb5 z2_4⟩
      have HB5 : Hid (Below w.heap.size w w5) := HB4.out.trans (rb5.mono HB4.out.size)
      have HZ5 := Lib.hid (HZ4.out.later rb5)
      clear hb
      go_wp2_with fail
      refine hK.out _ _ hS5 (fun hH7 => ?_)
      obtain ⟨z0_5, z1_5, z2_5⟩ := hS5
      clear rb5 z0_4 z1_4 z2_4 HB4 HZ4
      clear hK K
      try simp only [Act.put, List.setIfInBounds_toArray, List.set_cons_zero, List.set_cons_succ]
      refine wpAnyH_ready (rs := [9]) (by kernel_rfl) (by simp) ?_
      refine AllReadyH.cons (by simp only [List.getElem?_toArray, List.getElem?_cons_succ, List.getElem?_cons_zero]; rfl) (fun K hK => ?_) AllReadyH.nil
      go_simp
      go_at_call 135
      refine (HP2.out _ (HB5.out)).mono ?_
      rintro e w6 ⟨rfl, hb⟩
      have rb6 : Below w5.heap.size w5 w6 := hb
      have hS6 : w6.cell? ⟨w.heap.size, 0, none⟩ = some (.slice a t.net.stops.length c) ∧ w6.cell? ⟨w.heap.size, 1, none⟩ = some (.slice a' t.net.lines.length c') ∧ w6.cell? ⟨w.heap.size, 2, none⟩ = some (.slice b t.trips.length d) := ⟨bkeep rb6 z0_5, bkeep rb6 z1_5, bkeep rb6 z2_5⟩
      have HB6 : Hid (Below w.heap.size w w6) := HB5.out.trans (rb6.mono HB5.out.size)
      have HZ6 := Lib.hid (HZ5.out.later rb6)
      clear hb
      go_wp2_with fail
      refine hK.out _ _ hS6 (fun hH9 => ?_)
      obtain ⟨z0_6, z1_6, z2_6⟩ := hS6
      clear rb6 z0_5 z1_5 z2_5 HB5 HZ5
      clear hK K
      try simp only [Act.put, List.setIfInBounds_toArray, List.set_cons_zero, List.set_cons_succ]
      refine wpAnyH_take (i := 10) (v := ?_) (by simp only [List.getElem?_toArray, List.getElem?_cons_succ, List.getElem?_cons_zero]; rfl) (by kernel_rfl) (by kernel_rfl) (by kernel_rfl) (by exact fun _ _ _ h => h) (Or.inl ⟨by rfl, ?_⟩) (by assumption) ?_
      rotate_left
      · intro w' hSw; obtain ⟨e0, e1, e2⟩ := hSw
        go_simp; try with_reducible rfl
      try simp only [Act.put, List.setIfInBounds_toArray, List.set_cons_zero, List.set_cons_succ]
      refine wpAnyH_take (i := 11) (v := ?_) (by simp only [List.getElem?_toArray, List.getElem?_cons_succ, List.getElem?_cons_zero]; rfl) (by kernel_rfl) (by kernel_rfl) (by kernel_rfl) (by exact fun _ _ _ h => h) (Or.inl ⟨by rfl, ?_⟩) (by assumption) ?_
      rotate_left
      · intro w' hSw; obtain ⟨e0, e1, e2⟩ := hSw
        go_simp; try with_reducible rfl
      try simp only [Act.put, List.setIfInBounds_toArray, List.set_cons_zero, List.set_cons_succ]
      refine wpAnyH_done (by kernel_rfl) ?_ _

      go_wp2_with fail
      go_at_call 137
      refine (HLeg.out _ HB6.out).mono ?_
      rintro e w7 ⟨rfl, hb⟩
      have HB7 : Hid (Below w.heap.size w w7) := HB6.out.trans (hb.mono HB6.out.size)
      have HZ7 := Lib.hid (HZ6.out.later hb)
      obtain ⟨zz0, zz1, zz2, zz3, zz4, zl, zf⟩ := HZ7.out
      unfold legV legR
      clear hb
      go_wp2_with fail
      refine bodyPost_ret (v := .tuple #[legV (legR R A B), .bool true]) (by simp only [results, Try.results109]; unfold legV legR; go_simp) rfl ⟨by rw [HN.out]; rfl, ?_⟩
      exact set5_below HB7.out (by simp)
end Go.Proofs.Ytmcpafflnccfaaa
