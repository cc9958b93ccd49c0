/-
  CONTRACTS: cmp.Or of three numbers, impl.compareRides, slices.CompareFunc over legs, impl.compareJourneys: the order of journeys.
-/
import Derived.Test.YtmcpafflnccfaaaCmp
import Derived.Test.YtmcpafflnccfaaaJrnP
import Derived.Test.YtmcpafflnccfaaaLegX
import Derived.Test.YtmcpafflnccfaaaJourneyTimes
import Derived.OrdersHeld
import Derived.Deep.RegionHeld
namespace Go.Proofs.Ytmcpafflnccfaaa
open Go.RowKit Jrn
set_option linter.unusedVariables false
set_option linter.unusedSimpArgs false

def or3 (x y z : Int) : Int := orI x (orI y z)
theorem cmpOr3_any (x y z : Int) (b : Nat) (w : World) (h0 : w.cell? ⟨b, 0, none⟩ = some (.int .i64 x)) (h1 : w.cell? ⟨b, 1, none⟩ = some (.int .i64 y)) (h2 : w.cell? ⟨b, 2, none⟩ = some (.int .i64 z)) :
    Calls Try.prog 128 #[.slice (some ⟨b, 0, none⟩) 3 3] w fun e w' => e = .returned (.int .i64 (or3 x y z)) ∧ w = w' := by
  by_cases ex : x = 0
  · by_cases ey : y = 0
    · by_cases ez : z = 0
      · subst ex ey ez
        rw [show or3 0 0 0 = 0 from rfl]
        go_enter Try.func128, Try.ntmps128
        go_wp2_with fail
        go_loop [8] (fun i => ∃ k : Nat, k ≤ 3 ∧ i = .int .i64 k) (fun i => 3 - (RowKit.intOf i).toNat)
        case atStart => exact ⟨0, by omega, rfl⟩
        case round =>
          obtain ⟨k, hk, rfl⟩ := hrel
          by_cases hlt : k < 3
          · have hk1 : (k : Int) < 3 := by omega
            have hc : w.cell? ⟨b, k, none⟩ = some (.int .i64 0) := by
              obtain rfl | rfl | rfl : k = 0 ∨ k = 1 ∨ k = 2 := by omega
              · exact h0
              · exact h1
              · exact h2
            clear h0 h1 h2
            go_wp2_with fail
            go_round
            case rel => exact ⟨k + 1, by omega, by go_num⟩
            case measure => simp [RowKit.intOf]; omega
          · obtain rfl : k = 3 := by omega
            clear h0 h1 h2
            go_wp2_with fail
            go_ret
            exact ⟨rfl, rfl⟩
      · subst ex ey
        have hr : or3 0 0 z = z := rfl
        rw [hr]
        have hd : (z != 0) = true := by simpa using ez
        clear hr
        go_enter Try.func128, Try.ntmps128
        go_wp2_with fail
        go_loop [8] (fun i => ∃ k : Nat, k ≤ 2 ∧ i = .int .i64 k) (fun i => 3 - (RowKit.intOf i).toNat)
        case atStart => exact ⟨0, by omega, rfl⟩
        case round =>
          obtain ⟨k, hk, rfl⟩ := hrel
          obtain rfl | rfl | rfl : k = 0 ∨ k = 1 ∨ k = 2 := by omega
          · go_wp2_with fail
            go_round
            case rel => exact ⟨1, by omega, by go_num⟩
            case measure => simp [RowKit.intOf]
          · go_wp2_with fail
            go_round
            case rel => exact ⟨2, by omega, by go_num⟩
            case measure => simp [RowKit.intOf]
          · go_wp2_with fail
            go_ret
            exact ⟨rfl, rfl⟩
    · subst ex
      have hr : or3 0 y z = y := by unfold or3 orI; simp [ey]
      rw [hr]
      have hd : (y != 0) = true := by simpa using ey
      clear hr
      go_enter Try.func128, Try.ntmps128
      go_wp2_with fail
      go_loop [8] (fun i => ∃ k : Nat, k ≤ 1 ∧ i = .int .i64 k) (fun i => 3 - (RowKit.intOf i).toNat)
      case atStart => exact ⟨0, by omega, rfl⟩
      case round =>
        obtain ⟨k, hk, rfl⟩ := hrel
        obtain rfl | rfl : k = 0 ∨ k = 1 := by omega
        · go_wp2_with fail
          go_round
          case rel => exact ⟨1, by omega, by go_num⟩
          case measure => simp [RowKit.intOf]
        · go_wp2_with fail
          go_ret
          exact ⟨rfl, rfl⟩
  · have hr : or3 x y z = x := if_neg ex
    rw [hr]
    clear hr
    have hd : (x != 0) = true := by simpa using ex
    go_enter Try.func128, Try.ntmps128
    go_wp2_with fail
    go_loop [8] (fun i => i = .int .i64 0) (fun i => 3 - (RowKit.intOf i).toNat)
    case atStart => exact rfl
    case round =>
      obtain rfl := hrel
      go_wp2_with fail
      go_ret
      exact ⟨rfl, rfl⟩

/-! plain words: the order as a number -/
def cmpR (x y : LegD) : Int := or3 (cmpI x.trip y.trip) (cmpI x.frm y.frm) (cmpI x.dst y.dst)
theorem cmpI_neg (a b : Int) : cmpI a b < 0 ↔ a < b := by
  unfold cmpI
  by_cases h1 : a < b
  · simp [h1]
  · by_cases h2 : b < a
    · simp [h1, h2]
    · simp [h1, h2]
theorem orI_neg (x y : Int) : orI x y < 0 ↔ x < 0 ∨ (x = 0 ∧ y < 0) := by
  unfold orI
  split
  · omega
  · omega
theorem orI_zero (x y : Int) : orI x y = 0 ↔ x = 0 ∧ y = 0 := by
  unfold orI
  split
  · omega
  · omega
theorem cmpR_neg (x y : LegD) : cmpR x y < 0 ↔ rideLt x y := by
  unfold cmpR or3 rideLt
  rw [orI_neg, orI_neg, cmpI_neg, cmpI_neg, cmpI_neg, cmpI_zero, cmpI_zero]
theorem cmpR_zero (x y : LegD) : cmpR x y = 0 ↔ rideEq x y := by
  unfold cmpR or3 rideEq
  rw [orI_zero, orI_zero, cmpI_zero, cmpI_zero, cmpI_zero]
def lexC : List LegD → List LegD → Int
  | [], [] => 0
  | [], _ :: _ => -1
  | _ :: _, [] => 1
  | x :: a, y :: b => if cmpR x y = 0 then lexC a b else cmpR x y
theorem lexC_neg : ∀ a b : List LegD, lexC a b < 0 ↔ lexLt a b
  | [], [] => by simp [lexC, lexLt]
  | [], _ :: _ => by simp [lexC, lexLt]
  | _ :: _, [] => by simp [lexC, lexLt]
  | x :: a, y :: b => by
    have ih := lexC_neg a b
    show (if cmpR x y = 0 then lexC a b else cmpR x y) < 0 ↔ rideLt x y ∨ (rideEq x y ∧ lexLt a b)
    rw [← cmpR_neg, ← cmpR_zero, ← ih]
    split <;> omega
def cmpJ (a b : List LegD) : Int := or3 (cmpI (lastL a).arr (lastL b).arr) (cmpI a.length b.length) (lexC a b)
theorem lastL_end {a : List LegD} (h : a ≠ []) : (lastL a).arr = endT 0 a := by
  have key : ∀ (a : List LegD) (t : Int), a ≠ [] → (a.getD (a.length - 1) ⟨0, 0, 0, 0, 0⟩).arr = endT t a := by
    intro a
    induction a with
    | nil => intro t h; exact absurd rfl h
    | cons x a ih =>
      intro t _
      cases a with
      | nil => rfl
      | cons y a =>
        have := ih x.arr (by simp)
        simpa [endT] using this
  exact key a 0 h
theorem cmpJ_neg {a b : List LegD} (ha : a ≠ []) (hb : b ≠ []) : cmpJ a b < 0 ↔ JLt a b := by
  unfold cmpJ or3 JLt
  rw [orI_neg, orI_neg, cmpI_neg, cmpI_neg, lexC_neg, cmpI_zero, cmpI_zero, lastL_end ha, lastL_end hb]
  simp only [Int.ofNat_lt, Int.ofNat_inj]

set_option maxHeartbeats 2000000 in
theorem compareRides_any (x y : LegD) (w : World) : Calls Try.prog 130 #[legV x, legV y] w fun e w' => e = .returned (.int .i64 (cmpR x y)) ∧ Below w.heap.size w w' := by
  unfold legV
  go_enter Try.func130, Try.ntmps130
  go_wp2_with fail
  obtain ⟨wa, hwa⟩ : ∃ wa : World, wa = (w.alloc (.cells #[.int .i64 x.trip, .int .i64 x.frm, .int .i64 x.dst, .int .i64 x.dep, .int .i64 x.arr] 62)).alloc (.cells #[.int .i64 y.trip, .int .i64 y.frm, .int .i64 y.dst, .int .i64 y.dep, .int .i64 y.arr] 62) := ⟨_, rfl⟩
  have p0 : wa.cell? ⟨w.heap.size, 0, none⟩ = some (.int .i64 x.trip) := by rw [hwa]; go_simp
  have p1 : wa.cell? ⟨w.heap.size, 1, none⟩ = some (.int .i64 x.frm) := by rw [hwa]; go_simp
  have p2 : wa.cell? ⟨w.heap.size, 2, none⟩ = some (.int .i64 x.dst) := by rw [hwa]; go_simp
  have p3 : wa.cell? ⟨w.heap.size, 3, none⟩ = some (.int .i64 x.dep) := by rw [hwa]; go_simp
  have p4 : wa.cell? ⟨w.heap.size, 4, none⟩ = some (.int .i64 x.arr) := by rw [hwa]; go_simp
  have p5 : wa.cell? ⟨w.heap.size + 1, 0, none⟩ = some (.int .i64 y.trip) := by rw [hwa]; go_simp
  have p6 : wa.cell? ⟨w.heap.size + 1, 1, none⟩ = some (.int .i64 y.frm) := by rw [hwa]; go_simp
  have p7 : wa.cell? ⟨w.heap.size + 1, 2, none⟩ = some (.int .i64 y.dst) := by rw [hwa]; go_simp
  have p8 : wa.cell? ⟨w.heap.size + 1, 3, none⟩ = some (.int .i64 y.dep) := by rw [hwa]; go_simp
  have p9 : wa.cell? ⟨w.heap.size + 1, 4, none⟩ = some (.int .i64 y.arr) := by rw [hwa]; go_simp
  have HBa : Hid (Below w.heap.size w wa) := by show Below _ _ _; rw [hwa]; exact ((Below.refl _ _).alloc (Nat.le_refl _) _).alloc (by simp) _
  rw [← hwa]
  clear hwa
  refine wp_region_held_drew (S := (fun w' => w'.cell? ⟨w.heap.size, 0, none⟩ = some (.int .i64 x.trip) ∧ w'.cell? ⟨w.heap.size, 1, none⟩ = some (.int .i64 x.frm) ∧ w'.cell? ⟨w.heap.size, 2, none⟩ = some (.int .i64 x.dst) ∧ w'.cell? ⟨w.heap.size, 3, none⟩ = some (.int .i64 x.dep) ∧ w'.cell? ⟨w.heap.size, 4, none⟩ = some (.int .i64 x.arr) ∧ w'.cell? ⟨w.heap.size + 1, 0, none⟩ = some (.int .i64 y.trip) ∧ w'.cell? ⟨w.heap.size + 1, 1, none⟩ = some (.int .i64 y.frm) ∧ w'.cell? ⟨w.heap.size + 1, 2, none⟩ = some (.int .i64 y.dst) ∧ w'.cell? ⟨w.heap.size + 1, 3, none⟩ = some (.int .i64 y.dep) ∧ w'.cell? ⟨w.heap.size + 1, 4, none⟩ = some (.int .i64 y.arr))) (by kernel_rfl) ?_ (fun hHeld => ?_)
  · exact ⟨p0, p1, p2, p3, p4, p5, p6, p7, p8, p9⟩
  refine wpAnyH_take (i := 0) (v := ?_) (by simp only [List.getElem?_toArray, List.getElem?_cons_zero]; rfl) (by kernel_rfl) (by kernel_rfl) (by kernel_rfl) (by exact fun _ _ _ h => h) (Or.inl ⟨by rfl, ?_⟩) (by assumption) ?_
  rotate_left
  · intro w' hSw; obtain ⟨e0, e1, e2, e3, e4, e5, e6, e7, e8, e9⟩ := hSw
    go_simp; try with_reducible rfl
  try simp only [Act.put, List.setIfInBounds_toArray, List.set_cons_zero, List.set_cons_succ]
  refine wpAnyH_take (i := 1) (v := ?_) (by simp only [List.getElem?_toArray, List.getElem?_cons_succ, List.getElem?_cons_zero]; rfl) (by kernel_rfl) (by kernel_rfl) (by kernel_rfl) (by exact fun _ _ _ h => h) (Or.inl ⟨by rfl, ?_⟩) (by assumption) ?_
  rotate_left
  · intro w' hSw; obtain ⟨e0, e1, e2, e3, e4, e5, e6, e7, e8, e9⟩ := hSw
    go_simp; try with_reducible rfl
  try simp only [Act.put, List.setIfInBounds_toArray, List.set_cons_zero, List.set_cons_succ]
  refine wpAnyH_take (i := 2) (v := ?_) (by simp only [List.getElem?_toArray, List.getElem?_cons_succ, List.getElem?_cons_zero]; rfl) (by kernel_rfl) (by kernel_rfl) (by kernel_rfl) (by exact fun _ _ _ h => h) (Or.inl ⟨by rfl, ?_⟩) (by assumption) ?_
  rotate_left
  · intro w' hSw; obtain ⟨e0, e1, e2, e3, e4, e5, e6, e7, e8, e9⟩ := hSw
    go_simp; try with_reducible rfl
  try simp only [Act.put, List.setIfInBounds_toArray, List.set_cons_zero, List.set_cons_succ]
  refine wpAnyH_take (i := 3) (v := ?_) (by simp only [List.getElem?_toArray, List.getElem?_cons_succ, List.getElem?_cons_zero]; rfl) (by kernel_rfl) (by kernel_rfl) (by kernel_rfl) (by exact fun _ _ _ h => h) (Or.inl ⟨by rfl, ?_⟩) (by assumption) ?_
  rotate_left
  · intro w' hSw; obtain ⟨e0, e1, e2, e3, e4, e5, e6, e7, e8, e9⟩ := hSw
    go_simp; try with_reducible rfl
  try simp only [Act.put, List.setIfInBounds_toArray, List.set_cons_zero, List.set_cons_succ]
  refine wpAnyH_take (i := 5) (v := ?_) (by simp only [List.getElem?_toArray, List.getElem?_cons_succ, List.getElem?_cons_zero]; rfl) (by kernel_rfl) (by kernel_rfl) (by kernel_rfl) (by exact fun _ _ _ h => h) (Or.inl ⟨by rfl, ?_⟩) (by assumption) ?_
  rotate_left
  · intro w' hSw; obtain ⟨e0, e1, e2, e3, e4, e5, e6, e7, e8, e9⟩ := hSw
    go_simp; try with_reducible rfl
  try simp only [Act.put, List.setIfInBounds_toArray, List.set_cons_zero, List.set_cons_succ]
  refine wpAnyH_take (i := 6) (v := ?_) (by simp only [List.getElem?_toArray, List.getElem?_cons_succ, List.getElem?_cons_zero]; rfl) (by kernel_rfl) (by kernel_rfl) (by kernel_rfl) (by exact fun _ _ _ h => h) (Or.inl ⟨by rfl, ?_⟩) (by assumption) ?_
  rotate_left
  · intro w' hSw; obtain ⟨e0, e1, e2, e3, e4, e5, e6, e7, e8, e9⟩ := hSw
    go_simp; try with_reducible rfl
  try simp only [Act.put, List.setIfInBounds_toArray, List.set_cons_zero, List.set_cons_succ]
  refine wpAnyH_take (i := 7) (v := ?_) (by simp only [List.getElem?_toArray, List.getElem?_cons_succ, List.getElem?_cons_zero]; rfl) (by kernel_rfl) (by kernel_rfl) (by kernel_rfl) (by exact fun _ _ _ h => h) (Or.inl ⟨by rfl, ?_⟩) (by assumption) ?_
  rotate_left
  · intro w' hSw; obtain ⟨e0, e1, e2, e3, e4, e5, e6, e7, e8, e9⟩ := hSw
    go_simp; try with_reducible rfl
  try simp only [Act.put, List.setIfInBounds_toArray, List.set_cons_zero, List.set_cons_succ]
  refine wpAnyH_take (i := 8) (v := ?_) (by simp only [List.getElem?_toArray, List.getElem?_cons_succ, List.getElem?_cons_zero]; rfl) (by kernel_rfl) (by kernel_rfl) (by kernel_rfl) (by exact fun _ _ _ h => h) (Or.inl ⟨by rfl, ?_⟩) (by assumption) ?_
  rotate_left
  · intro w' hSw; obtain ⟨e0, e1, e2, e3, e4, e5, e6, e7, e8, e9⟩ := hSw
    go_simp; try with_reducible rfl
  try simp only [Act.put, List.setIfInBounds_toArray, List.set_cons_zero, List.set_cons_succ]
  refine wpAnyH_take (i := 10) (v := ?_) (by simp only [List.getElem?_toArray, List.getElem?_cons_succ, List.getElem?_cons_zero]; rfl) (by kernel_rfl) (by kernel_rfl) (by kernel_rfl) (by exact fun _ _ _ h => h) (Or.inl ⟨by rfl, ?_⟩) (by assumption) ?_
  rotate_left
  · intro w' hSw; obtain ⟨e0, e1, e2, e3, e4, e5, e6, e7, e8, e9⟩ := hSw
    go_simp; try with_reducible rfl
  try simp only [Act.put, List.setIfInBounds_toArray, List.set_cons_zero, List.set_cons_succ]
  refine wpAnyH_take (i := 11) (v := ?_) (by simp only [List.getElem?_toArray, List.getElem?_cons_succ, List.getElem?_cons_zero]; rfl) (by kernel_rfl) (by kernel_rfl) (by kernel_rfl) (by exact fun _ _ _ h => h) (Or.inl ⟨by rfl, ?_⟩) (by assumption) ?_
  rotate_left
  · intro w' hSw; obtain ⟨e0, e1, e2, e3, e4, e5, e6, e7, e8, e9⟩ := hSw
    go_simp; try with_reducible rfl
  try simp only [Act.put, List.setIfInBounds_toArray, List.set_cons_zero, List.set_cons_succ]
  refine wpAnyH_take (i := 12) (v := ?_) (by simp only [List.getElem?_toArray, List.getElem?_cons_succ, List.getElem?_cons_zero]; rfl) (by kernel_rfl) (by kernel_rfl) (by kernel_rfl) (by exact fun _ _ _ h => h) (Or.inl ⟨by rfl, ?_⟩) (by assumption) ?_
  rotate_left
  · intro w' hSw; obtain ⟨e0, e1, e2, e3, e4, e5, e6, e7, e8, e9⟩ := hSw
    go_simp; try with_reducible rfl
  try simp only [Act.put, List.setIfInBounds_toArray, List.set_cons_zero, List.set_cons_succ]
  refine wpAnyH_take (i := 13) (v := ?_) (by simp only [List.getElem?_toArray, List.getElem?_cons_succ, List.getElem?_cons_zero]; rfl) (by kernel_rfl) (by kernel_rfl) (by kernel_rfl) (by exact fun _ _ _ h => h) (Or.inl ⟨by rfl, ?_⟩) (by assumption) ?_
  rotate_left
  · intro w' hSw; obtain ⟨e0, e1, e2, e3, e4, e5, e6, e7, e8, e9⟩ := hSw
    go_simp; try with_reducible rfl
  try simp only [Act.put, List.setIfInBounds_toArray, List.set_cons_zero, List.set_cons_succ]
  refine wpAnyH_ready (rs := [4]) (by kernel_rfl) (by simp) ?_
  refine AllReadyH.cons (by simp only [List.getElem?_toArray, List.getElem?_cons_succ, List.getElem?_cons_zero]; rfl) (fun K hK => ?_) AllReadyH.nil
  go_simp
  go_at_call 112
  refine (cmpInt_any _ _ _).mono ?_
  rintro e w' ⟨rfl, rfl⟩
  go_wp2_with fail
  refine hK.out _ _ (by assumption) (fun hH4 => ?_)
  clear hK K
  try simp only [Act.put, List.setIfInBounds_toArray, List.set_cons_zero, List.set_cons_succ]
  refine wpAnyH_ready (rs := [9]) (by kernel_rfl) (by simp) ?_
  refine AllReadyH.cons (by simp only [List.getElem?_toArray, List.getElem?_cons_succ, List.getElem?_cons_zero]; rfl) (fun K hK => ?_) AllReadyH.nil
  go_simp
  go_at_call 112
  refine (cmpInt_any _ _ _).mono ?_
  rintro e w' ⟨rfl, rfl⟩
  go_wp2_with fail
  refine hK.out _ _ (by assumption) (fun hH9 => ?_)
  clear hK K
  try simp only [Act.put, List.setIfInBounds_toArray, List.set_cons_zero, List.set_cons_succ]
  refine wpAnyH_ready (rs := [14]) (by kernel_rfl) (by simp) ?_
  refine AllReadyH.cons (by simp only [List.getElem?_toArray, List.getElem?_cons_succ, List.getElem?_cons_zero]; rfl) (fun K hK => ?_) AllReadyH.nil
  go_simp
  go_at_call 112
  refine (cmpInt_any _ _ _).mono ?_
  rintro e w' ⟨rfl, rfl⟩
  go_wp2_with fail
  refine hK.out _ _ (by assumption) (fun hH14 => ?_)
  clear hK K
  try simp only [Act.put, List.setIfInBounds_toArray, List.set_cons_zero, List.set_cons_succ]
  refine wpAnyH_ready (rs := [15]) (by kernel_rfl) (by simp) ?_
  refine AllReadyH.cons (by simp only [List.getElem?_toArray, List.getElem?_cons_succ, List.getElem?_cons_zero]; rfl) (fun K hK => ?_) AllReadyH.nil
  go_simp
  refine hK.out _ _ ⟨acell p0 _, acell p1 _, acell p2 _, acell p3 _, acell p4 _, acell p5 _, acell p6 _, acell p7 _, acell p8 _, acell p9 _⟩ (fun hH15 => ?_)
  clear hK K
  try simp only [Act.put, List.setIfInBounds_toArray, List.set_cons_zero, List.set_cons_succ]
  refine wpAnyH_ready (rs := [16]) (by kernel_rfl) (by simp) ?_
  refine AllReadyH.cons (by simp only [List.getElem?_toArray, List.getElem?_cons_succ, List.getElem?_cons_zero]; rfl) (fun K hK => ?_) AllReadyH.nil
  go_simp
  go_at_call 128
  refine (cmpOr3_any (cmpI x.trip y.trip) (cmpI x.frm y.frm) (cmpI x.dst y.dst) wa.heap.size _ (by go_simp) (by go_simp) (by go_simp)).mono ?_
  rintro e w' ⟨rfl, rfl⟩
  go_wp2_with fail
  refine hK.out _ _ (by assumption) (fun hH16 => ?_)
  clear hK K
  try simp only [Act.put, List.setIfInBounds_toArray, List.set_cons_zero, List.set_cons_succ]
  refine wpAnyH_take (i := 17) (v := ?_) (by simp only [List.getElem?_toArray, List.getElem?_cons_succ, List.getElem?_cons_zero]; rfl) (by kernel_rfl) (by kernel_rfl) (by kernel_rfl) (by exact fun _ _ _ h => h) (Or.inl ⟨by rfl, ?_⟩) (by assumption) ?_
  rotate_left
  · intro w' hSw; obtain ⟨e0, e1, e2, e3, e4, e5, e6, e7, e8, e9⟩ := hSw
    go_simp; try with_reducible rfl
  try simp only [Act.put, List.setIfInBounds_toArray, List.set_cons_zero, List.set_cons_succ]
  refine wpAnyH_done (by kernel_rfl) ?_ _
  go_wp2_with fail
  go_ret
  exact ⟨rfl, (HBa.out.drew.alloc (by have := HBa.out.size; simpa using this) _)⟩

set_option maxRecDepth 100000 in
set_option maxHeartbeats 4000000 in
theorem compareFunc_any (va vb : Value) (a b : List LegD) (w : World) (ha : LegsAt w va a) (hb : LegsAt w vb b) :
    Calls Try.prog 129 #[va, vb, .func (.func 130) #[] #[]] w fun e w' => e = .returned (.int .i64 (lexC a b)) ∧ Below w.heap.size w w' := by
  have HA := Lib.hid ha
  have HB := Lib.hid hb
  obtain ⟨aa, ac, rfl, ha1, ha2, -⟩ := legs_open ha
  obtain ⟨ba, bc, rfl, hb1, hb2, -⟩ := legs_open hb
  clear ha hb
  go_enter Try.func129, Try.ntmps129
  go_wp2_with fail
  go_loopw [13] (fun q wr => ∃ k : Nat, k ≤ a.length ∧ k ≤ b.length ∧ q = .int .i64 k ∧ Hid (lexC a b = lexC (a.drop k) (b.drop k)) ∧ Hid (Below w.heap.size w wr)) (fun q _ => a.length - (RowKit.intOf q).toNat)
  case atStart => exact ⟨0, Nat.zero_le _, Nat.zero_le _, rfl, rfl, Below.refl _ _⟩
  case round =>
    obtain ⟨k, hka, hkb, rfl, HL, HBel⟩ := hrel
    have hzr := HBel.out.size
    by_cases hlta : k < a.length
    · have hk1 : (k : Int) < (a.length : Int) := by omega
      obtain ⟨g, go, rfl, hgb, y0, y1, y2, y3, y4⟩ := leg_at (HA.out.below rfl HBel.out) k hlta
      by_cases hltb : k < b.length
      · have hk2 : ¬ (b.length : Int) ≤ (k : Int) := by omega
        have hk3 : (k : Int) < (b.length : Int) := by omega
        obtain ⟨g2, go2, rfl, hgb2, v0, v1, v2, v3, v4⟩ := leg_at (HB.out.below rfl HBel.out) k hltb
        have HC := Lib.hid (fun W => compareRides_any a[k] b[k] W)
        have HD : Hid (lexC a b = if cmpR a[k] b[k] = 0 then lexC (a.drop (k + 1)) (b.drop (k + 1)) else cmpR a[k] b[k]) := by
          show _ = _
          rw [HL.out, List.drop_eq_getElem_cons hlta, List.drop_eq_getElem_cons hltb]; rfl
        clear HL
        generalize a[k] = x at *
        generalize b[k] = y at *
        unfold legV at HC
        generalize cmpR x y = cv at *
        go_wp2_with fail
        go_at_call 130
        refine (HC.out _).mono ?_
        rintro e w1 ⟨rfl, hb⟩
        have HB1 : Hid (Below w.heap.size w w1) := HBel.out.trans (((((Below.refl wr.heap.size wr).alloc (Nat.le_refl _) _).alloc (by simp) _).trans (hb.mono (by simp; omega))).mono hzr)
        clear hb y0 y1 y2 y3 y4 v0 v1 v2 v3 v4
        by_cases hc : cv = 0
        · have HD2 : Hid (lexC a b = lexC (a.drop (k + 1)) (b.drop (k + 1))) := by show _ = _; rw [HD.out, if_pos hc]
          subst hc
          clear HD
          go_wp2_with fail
          go_roundw
          case rel => exact ⟨k + 1, by omega, by omega, by go_num, HD2, HB1⟩
          case measure => simp [RowKit.intOf]; omega
        · have HD2 : Hid (lexC a b = cv) := by show _ = _; rw [HD.out, if_neg hc]
          have hcb : (cv != 0) = true := by simpa using hc
          clear HD
          go_wp2_with fail
          go_ret
          exact ⟨ret_int HD2.out.symm, HB1.out⟩
      · have hk2 : (b.length : Int) ≤ (k : Int) := by omega
        have HD : Hid (lexC a b = 1) := by
          show _ = _
          rw [HL.out, List.drop_eq_getElem_cons hlta, List.drop_of_length_le (show b.length ≤ k by omega)]; rfl
        clear HL
        go_wp2_with fail
        go_ret
        exact ⟨ret_int HD.out.symm, HBel.out.alloc hzr _⟩
    · have hk1 : ¬ (k : Int) < (a.length : Int) := by omega
      by_cases hltb : a.length < b.length
      · have hk2 : (a.length : Int) < (b.length : Int) := by omega
        have HD : Hid (lexC a b = -1) := by
          show _ = _
          rw [HL.out, List.drop_of_length_le (show a.length ≤ k by omega), List.drop_eq_getElem_cons (show k < b.length by omega)]; rfl
        clear HL
        go_wp2_with fail
        go_ret
        exact ⟨ret_int HD.out.symm, HBel.out⟩
      · have hk2 : ¬ (a.length : Int) < (b.length : Int) := by omega
        have HD : Hid (lexC a b = 0) := by
          show _ = _
          rw [HL.out, List.drop_of_length_le (show a.length ≤ k by omega), List.drop_of_length_le (show b.length ≤ k by omega)]; rfl
        clear HL
        go_wp2_with fail
        go_ret
        exact ⟨ret_int HD.out.symm, HBel.out⟩

set_option maxHeartbeats 2000000 in
theorem compareJourneys_any (va vb : Value) (a b : List LegD) (w : World) (ha : LegsAt w va a) (hb : LegsAt w vb b) (h0 : 0 < a.length) (h1 : 0 < b.length) (h2 : a.length ≤ 1048576) (h3 : b.length ≤ 1048576) :
    Calls Try.prog 101 #[va, vb] w fun e w' => e = .returned (.int .i64 (cmpJ a b)) ∧ Below w.heap.size w w' := by
  have HEa := Lib.hid (journeyEnd_any va a w ha h0 h2)
  have HEb := Lib.hid (journeyEnd_any vb b w hb h1 h3)
  have HF := Lib.hid (compareFunc_any va vb a b w ha hb)
  obtain ⟨aa, ac, rfl⟩ := LegS_open ha
  obtain ⟨ba, bc, rfl⟩ := LegS_open hb
  unfold cmpJ
  clear ha hb
  generalize (lastL a).arr = ea at *
  generalize (lastL b).arr = eb at *
  generalize lexC a b = lx at *
  go_enter Try.func101, Try.ntmps101
  go_wp2_with fail
  go_at_call 79
  refine HEa.out.mono ?_
  rintro e w1 ⟨rfl, rfl⟩
  go_wp2_with fail
  go_at_call 79
  refine HEb.out.mono ?_
  rintro e w1 ⟨rfl, rfl⟩
  go_wp2_with fail
  go_at_call 112
  refine (cmpInt_any _ _ _).mono ?_
  rintro e w1 ⟨rfl, rfl⟩
  go_wp2_with fail
  go_at_call 112
  refine (cmpInt_any _ _ _).mono ?_
  rintro e w1 ⟨rfl, rfl⟩
  go_wp2_with fail
  go_at_call 129
  refine HF.out.mono ?_
  rintro e w1 ⟨rfl, hb⟩
  have HB1 := Lib.hid hb
  clear hb
  go_wp2_with fail
  go_at_call 128
  refine (cmpOr3_any (cmpI ea eb) (cmpI a.length b.length) lx w1.heap.size _ (by go_simp) (by go_simp) (by go_simp)).mono ?_
  rintro e w2 ⟨rfl, rfl⟩
  go_wp2_with fail
  go_ret
  exact ⟨rfl, HB1.out.alloc HB1.out.size _⟩
end Go.Proofs.Ytmcpafflnccfaaa
