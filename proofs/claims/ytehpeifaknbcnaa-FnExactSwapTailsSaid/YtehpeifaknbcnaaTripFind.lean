import Derived.Test.YtehpeifaknbcnaaTTGood
import Derived.Test.YtehpeifaknbcnaaMk32
namespace Go.Proofs.Ytehpeifaknbcnaa
open Go.RowKit
set_option linter.unusedVariables false

def placeOf (id : Int) : List TripD → Nat
  | [] => 0
  | x :: xs => if x.id < id then placeOf id xs + 1 else 0
theorem placeOf_le (id : Int) : ∀ xs, placeOf id xs ≤ xs.length
  | [] => Nat.le_refl _
  | x :: xs => by unfold placeOf; split <;> simp; exact placeOf_le id xs
theorem placeOf_lt (id : Int) : ∀ (xs : List TripD) (j : Nat) (h : j < xs.length), j < placeOf id xs → (xs[j]).id < id
  | [], j, h, _ => by simp at h
  | x :: xs, j, h, hj => by
    unfold placeOf at hj
    split at hj
    · cases j with
      | zero => simpa using (by assumption : x.id < id)
      | succ j => simpa using placeOf_lt id xs j (by simpa using h) (by omega)
    · omega
theorem placeOf_ge (id : Int) : ∀ (xs : List TripD) (h : placeOf id xs < xs.length), ¬ (xs[placeOf id xs]).id < id
  | [], h => by simp at h
  | x :: xs, h => by
    by_cases hy : x.id < id
    · have e : placeOf id (x :: xs) = placeOf id xs + 1 := by simp [placeOf, hy]
      have h' : placeOf id xs < xs.length := by rw [e] at h; simpa using h
      have := placeOf_ge id xs h'
      simp only [e]; simpa using this
    · have e : placeOf id (x :: xs) = 0 := by simp [placeOf, hy]
      simp only [e]; simpa using hy
def Asc (xs : List TripD) : Prop := ∀ i j (hij : i < j) (hj : j < xs.length), (xs[i]'(by omega)).id < (xs[j]'hj).id
def foundB (id : Int) (xs : List TripD) : Bool := (xs[placeOf id xs]?).any (fun x => x.id == id)
theorem foundB_at {id : Int} {xs : List TripD} (h : placeOf id xs < xs.length) : foundB id xs = decide ((xs[placeOf id xs]'h).id = id) := by
  unfold foundB; rw [List.getElem?_eq_getElem h, Option.any_some, Bool.eq_iff_iff]; simp
theorem foundB_end {id : Int} {xs : List TripD} (h : ¬ placeOf id xs < xs.length) : foundB id xs = false := by
  unfold foundB; rw [List.getElem?_eq_none (by omega)]; rfl
theorem place_gt {id : Int} {xs : List TripD} (ha : Asc xs) {h : Nat} (hh : h < xs.length) (hlt : (xs[h]).id < id) : h < placeOf id xs := by
  by_cases hp : placeOf id xs ≤ h
  · exfalso
    have hpl : placeOf id xs < xs.length := by omega
    have h1 := placeOf_ge id xs hpl
    by_cases e : placeOf id xs = h
    · subst e; exact h1 hlt
    · have := ha (placeOf id xs) h (by omega) hh; omega
  · omega

def findI (id : Int) (xs : List TripD) : Int := fstIdx id (xs.map (fun x => x.id))
theorem findI_found {id : Int} {xs : List TripD} (ha : Asc xs) (h : foundB id xs = true) : findI id xs = placeOf id xs ∧ placeOf id xs < xs.length := by
  by_cases hp : placeOf id xs < xs.length
  · rw [foundB_at hp] at h
    have h := of_decide_eq_true h
    refine ⟨?_, hp⟩
    refine fstIdx_hit _ (by simpa using hp) (by simpa using h) (fun hm => ?_)
    obtain ⟨j, hj, hx⟩ := List.mem_take_iff_getElem.1 hm
    simp at hx hj
    have := placeOf_lt id xs j (by omega) (by omega)
    omega
  · rw [foundB_end hp] at h; cases h
theorem findI_none {id : Int} {xs : List TripD} (ha : Asc xs) (h : foundB id xs = false) : findI id xs = -1 := by
  refine fstIdx_none (fun hm => ?_)
  obtain ⟨x, hx, he⟩ := List.mem_map.1 hm
  obtain ⟨j, hj, rfl⟩ := List.getElem_of_mem hx
  have h1 : ¬ j < placeOf id xs := fun hlt => by have := placeOf_lt id xs j hj hlt; omega
  have hp : placeOf id xs < xs.length := by omega
  rw [foundB_at hp] at h
  have h2 := placeOf_ge id xs hp
  by_cases e : placeOf id xs = j
  · subst e; simp [he] at h
  · have := ha (placeOf id xs) j (by omega) hj; omega

theorem l5Find_any (v : Value) (t : TTD) (id : Int) (w : World) (hr : TTAt w v t) (hs : TTSmall t) :
    Calls Try.prog 57 #[v, .int .i64 id] w fun e w' => e = .returned (.int .i64 (findI id t.trips)) ∧ Below w.heap.size w w' := by
  obtain ⟨a, c, a', c', b, d, rfl, -, ht⟩ := tt_open hr
  have HT := Lib.hid ht
  have hsz := hs.2
  unfold TripsSmall at hsz
  clear ht hr hs
  go_enter Try.func57, Try.ntmps57
  go_wp2_with fail
  go_loop [5] (fun i => ∃ k : Nat, k ≤ t.trips.length ∧ i = .int .i64 k ∧ Hid (id ∉ (t.trips.map (fun x => x.id)).take k)) (fun i => t.trips.length - (RowKit.intOf i).toNat)
  case atStart => exact ⟨0, Nat.zero_le _, rfl, (by show id ∉ _; simp)⟩
  case round =>
    obtain ⟨k, hk, rfl, HNo⟩ := hrel
    by_cases hlt : k < t.trips.length
    · obtain ⟨g, go, rfl, hgb, y0, y1, y2⟩ := trip_at HT.out k hlt
      have hk1 : (k : Int) < (t.trips.length : Int) := by omega
      have hlm : k < (t.trips.map (fun x => x.id)).length := by simpa using hlt
      by_cases he : (t.trips[k]).id = id
      · have HA : Hid (findI id t.trips = k) := fstIdx_hit k hlm (by simpa using he) HNo.out
        clear HNo
        rw [he] at y0
        go_wp2_with fail
        go_ret
        exact ⟨ret_int HA.out.symm, (Below.refl _ _).alloc (Nat.le_refl _) _⟩
      · have HN2 : Hid (id ∉ (t.trips.map (fun x => x.id)).take (k + 1)) := not_take_succ hlm HNo.out (by simpa using he)
        clear HNo
        generalize (t.trips[k]).id = xi at *
        have hne : (xi == id) = false := by simp [he]
        go_wp2_with fail
        go_round
        case rel => exact ⟨k + 1, by omega, by go_num, HN2⟩
        case measure => simp [RowKit.intOf]; omega
    · have HA : Hid (findI id t.trips = -1) := fstIdx_none (not_take_all (k := k) (by simp; omega) HNo.out)
      go_wp2_with fail
      go_ret
      exact ⟨ret_int HA.out.symm, (Below.refl _ _).alloc (Nat.le_refl _) _⟩

theorem tripCmp_any (x : TripD) (id : Int) (w : World) : Calls Try.prog 104 #[tripV x, .int .i64 id] w fun e w' => e = .returned (.int .i64 (cmpI x.id id)) ∧ Below w.heap.size w w' := by
  obtain ⟨xi, xl, xs⟩ := x
  unfold tripV
  simp only
  have HC := Lib.hid (fun W => cmpInt_any xi id W)
  generalize cmpI xi id = r at *
  go_enter Try.func104, Try.ntmps104
  go_wp2_with (go_at_call 105; refine (HC.out _).mono ?_; rintro e w' ⟨rfl, rfl⟩)
  go_ret
  exact ⟨rfl, (Below.refl _ _).alloc (Nat.le_refl _) _⟩

set_option maxRecDepth 100000 in
set_option maxHeartbeats 2000000 in
theorem binSearch_any (v : Value) (xs : List TripD) (id : Int) (w : World) (hr : TripsAt w v xs) (hs : xs.length ≤ 1048576) (ha : Asc xs) :
    Calls Try.prog 103 #[v, .int .i64 id, .func (.func 104) #[] #[]] w fun e w' => e = .returned (.tuple #[.int .i64 (placeOf id xs : Nat), .bool (foundB id xs)]) ∧ Below w.heap.size w w' := by
  have HT := Lib.hid hr
  obtain ⟨b, d, rfl⟩ := TripS_open hr
  have HAsc := Lib.hid ha
  have hple := placeOf_le id xs
  obtain ⟨p, hp⟩ : ∃ p, placeOf id xs = p := ⟨_, rfl⟩
  have HP := Lib.hid hp
  rw [hp] at hple
  rw [hp]
  clear hr ha hp
  go_enter Try.func103, Try.ntmps103
  go_wp2_with fail
  go_loopw [9, 10] (fun x y wr => ∃ i j : Nat, i ≤ p ∧ p ≤ j ∧ j ≤ xs.length ∧ x = .int .i64 i ∧ y = .int .i64 j ∧ Hid (Below w.heap.size w wr)) (fun x y _ => (RowKit.intOf y).toNat - (RowKit.intOf x).toNat)
  case atStart => exact ⟨0, xs.length, by omega, hple, Nat.le_refl _, rfl, rfl, Below.refl _ _⟩
  case round =>
    obtain ⟨i, j, hi, hj, hjl, rfl, rfl, HB⟩ := hrel
    by_cases hlt : i < j
    · have hlt1 : (i : Int) < (j : Int) := by omega
      have hhl : (i + j) / 2 < xs.length := by omega
      obtain ⟨g, go, rfl, hgb, y0, y1, y2⟩ := trip_at (HT.out.below rfl HB.out) ((i + j) / 2) hhl
      have HC := Lib.hid (fun W => tripCmp_any xs[(i + j) / 2] id W)
      have hm1 : (i + j) / 2 < j ∧ i ≤ (i + j) / 2 := by omega
      by_cases hc : (xs[(i + j) / 2]).id < id
      · have hgt : (i + j) / 2 + 1 ≤ p := by have := place_gt HAsc.out hhl hc; have := HP.out; omega
        rw [show cmpI (xs[(i + j) / 2]).id id = -1 from if_pos hc] at HC
        clear hc
        generalize xs[(i + j) / 2] = x at *
        obtain ⟨xi, xl, xst⟩ := x
        unfold tripV at HC
        simp only at *
        go_wp2_with fail
        go_at_call 104
        refine (HC.out _).mono ?_
        rintro e w1 ⟨rfl, hb1⟩
        have HB1 : Hid (Below w.heap.size w w1) := HB.out.trans (hb1.mono HB.out.size)
        clear hb1 y0 y1 y2 HB
        go_wp2_with fail
        go_roundw
        case rel => exact ⟨(i + j) / 2 + 1, j, hgt, hj, hjl, by go_num, rfl, HB1⟩
        case measure => simp [RowKit.intOf]; omega
      · have hle : p ≤ (i + j) / 2 := by
          have h1 := HP.out
          by_cases hq : (i + j) / 2 < p
          · exact absurd (placeOf_lt id xs _ hhl (by omega)) hc
          · omega
        have hcv : cmpI (xs[(i + j) / 2]).id id = 0 ∨ cmpI (xs[(i + j) / 2]).id id = 1 := by unfold cmpI; rw [if_neg hc]; split <;> simp
        clear hc
        generalize hcx : cmpI (xs[(i + j) / 2]).id id = cv at *
        clear hcx
        generalize xs[(i + j) / 2] = x at *
        obtain ⟨xi, xl, xst⟩ := x
        unfold tripV at HC
        simp only at *
        have hcn : ¬ cv < 0 := by omega
        clear hcv
        go_wp2_with fail
        go_at_call 104
        refine (HC.out _).mono ?_
        rintro e w1 ⟨rfl, hb1⟩
        have HB1 : Hid (Below w.heap.size w w1) := HB.out.trans (hb1.mono HB.out.size)
        clear hb1 y0 y1 y2 HB
        go_wp2_with fail
        go_roundw
        case rel => exact ⟨i, (i + j) / 2, hi, hle, by omega, rfl, by go_num, HB1⟩
        case measure => simp [RowKit.intOf]; omega
    · obtain rfl : i = p := by omega
      obtain rfl : i = j := by omega
      have hltn : ¬ (i : Int) < (i : Int) := by omega
      by_cases hpl : i < xs.length
      · obtain ⟨g, go, rfl, hgb, y0, y1, y2⟩ := trip_at (HT.out.below rfl HB.out) i hpl
        have HC := Lib.hid (fun W => tripCmp_any xs[i] id W)
        have HF : Hid (foundB id xs = (cmpI (xs[i]).id id == 0)) := by
          have h1 := HP.out
          have h2 : placeOf id xs < xs.length := by omega
          show _ = _
          rw [foundB_at h2]
          have e : (xs[placeOf id xs]).id = (xs[i]).id := by congr 2
          rw [e, Bool.eq_iff_iff]
          simp only [decide_eq_true_eq, beq_iff_eq]
          exact (cmpI_zero _ _).symm
        have hpl1 : (i : Int) < (xs.length : Int) := by omega
        generalize xs[i] = x at *
        obtain ⟨xi, xl, xst⟩ := x
        unfold tripV at HC
        simp only at *
        generalize cmpI xi id = cv at *
        go_wp2_with fail
        go_at_call 104
        refine (HC.out _).mono ?_
        rintro e w1 ⟨rfl, hb1⟩
        have HB1 : Hid (Below w.heap.size w w1) := HB.out.trans (hb1.mono HB.out.size)
        clear hb1 y0 y1 y2 HB
        go_wp2_with fail
        go_ret2
        exact ⟨by rw [HF.out]; rfl, HB1.out⟩
      · have HF : Hid (foundB id xs = false) := foundB_end (by have := HP.out; omega)
        have hpl1 : ¬ (i : Int) < (xs.length : Int) := by omega
        go_wp2_with fail
        go_ret2
        exact ⟨by rw [HF.out]; rfl, HB.out⟩

theorem tripPlace_any (v : Value) (xs : List TripD) (id : Int) (w : World) (hr : TripsAt w v xs) (hs : xs.length ≤ 1048576) (ha : Asc xs) :
    Calls Try.prog 69 #[v, .int .i64 id] w fun e w' => e = .returned (.tuple #[.int .i64 (placeOf id xs : Nat), .bool (foundB id xs)]) ∧ Below w.heap.size w w' := by
  have HB := Lib.hid (binSearch_any v xs id w hr hs ha)
  obtain ⟨b, d, rfl⟩ := TripS_open hr
  clear hr ha
  generalize foundB id xs = f at *
  generalize placeOf id xs = p at *
  go_enter Try.func69, Try.ntmps69
  go_wp2_with fail
  go_at_call 103
  refine HB.out.mono ?_
  rintro e w1 ⟨rfl, hb1⟩
  go_wp2_with fail
  go_ret2
  exact ⟨rfl, hb1⟩
end Go.Proofs.Ytehpeifaknbcnaa
