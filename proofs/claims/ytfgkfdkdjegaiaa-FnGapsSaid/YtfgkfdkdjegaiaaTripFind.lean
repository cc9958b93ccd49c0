/-
  CONTRACTS: the place of an Id among trips (spec.l5Find; cmp.Compare, slices.BinarySearchFunc, impl.tripPlace).
-/
import Derived.Test.YtfgkfdkdjegaiaaTTGood
import Derived.Test.YtfgkfdkdjegaiaaCmp
namespace Go.Proofs.Ytfgkfdkdjegaiaa
open Go.RowKit
set_option linter.unusedVariables false

/-- how many trips ahead have a smaller Id -/
def placeOf (id : Int) : List TripD → Nat
  | [] => 0
  | x :: xs => if x.id < id then placeOf id xs + 1 else 0
theorem placeOf_le (id : Int) : ∀ xs, placeOf id xs ≤ xs.length
  | [] => Nat.le_refl _
  | x :: xs => by unfold placeOf; split <;> simp; exact placeOf_le id xs
theorem placeOf_lt (id : Int) : ∀ (xs : List TripD) (j : Nat) (h : j < xs.length), j < placeOf id xs → (xs[j]).id < id
  | [], j, h, _ => by simp at h
  | x :: xs, j, h, hj => by
    unfold placeOf at hj
    split at hj
    · cases j with
      | zero => simpa using (by assumption : x.id < id)
      | succ j => simpa using placeOf_lt id xs j (by simpa using h) (by omega)
    · omega
theorem placeOf_ge (id : Int) : ∀ (xs : List TripD) (h : placeOf id xs < xs.length), ¬ (xs[placeOf id xs]).id < id
  | [], h => by simp at h
  | x :: xs, h => by
    by_cases hy : x.id < id
    · have e : placeOf id (x :: xs) = placeOf id xs + 1 := by simp [placeOf, hy]
      have h' : placeOf id xs < xs.length := by rw [e] at h; simpa using h
      have := placeOf_ge id xs h'
      simp only [e]; simpa using this
    · have e : placeOf id (x :: xs) = 0 := by simp [placeOf, hy]
      simp only [e]; simpa using hy
def Asc (xs : List TripD) : Prop := ∀ i j (hij : i < j) (hj : j < xs.length), (xs[i]'(by omega)).id < (xs[j]'hj).id
def foundB (id : Int) (xs : List TripD) : Bool := (xs[placeOf id xs]?).any (fun x => x.id == id)
theorem foundB_at {id : Int} {xs : List TripD} (h : placeOf id xs < xs.length) : foundB id xs = decide ((xs[placeOf id xs]'h).id = id) := by
  unfold foundB; rw [List.getElem?_eq_getElem h, Option.any_some, Bool.eq_iff_iff]; simp
theorem foundB_end {id : Int} {xs : List TripD} (h : ¬ placeOf id xs < xs.length) : foundB id xs = false := by
  unfold foundB; rw [List.getElem?_eq_none (by omega)]; rfl
theorem place_gt {id : Int} {xs : List TripD} (ha : Asc xs) {h : Nat} (hh : h < xs.length) (hlt : (xs[h]).id < id) : h < placeOf id xs := by
  by_cases hp : placeOf id xs ≤ h
  · exfalso
    have hpl : placeOf id xs < xs.length := by omega
    have h1 := placeOf_ge id xs hpl
    by_cases e : placeOf id xs = h
    · subst e; exact h1 hlt
    · have := ha (placeOf id xs) h (by omega) hh; omega
  · omega
/-- the first place of an Id, or -1 -/
def findI (id : Int) (xs : List TripD) : Int := fstIdx id (xs.map (fun x => x.id))
theorem findI_found {id : Int} {xs : List TripD} (ha : Asc xs) (h : foundB id xs = true) : findI id xs = placeOf id xs ∧ placeOf id xs < xs.length := by
  by_cases hp : placeOf id xs < xs.length
  · rw [foundB_at hp] at h
    have h := of_decide_eq_true h
    refine ⟨?_, hp⟩
    refine fstIdx_hit _ (by simpa using hp) (by simpa using h) (fun hm => ?_)
    obtain ⟨j, hj, hx⟩ := List.mem_take_iff_getElem.1 hm
    simp at hx hj
    have := placeOf_lt id xs j (by omega) (by omega)
    omega
  · rw [foundB_end hp] at h; cases h
theorem findI_none {id : Int} {xs : List TripD} (ha : Asc xs) (h : foundB id xs = false) : findI id xs = -1 := by
  refine fstIdx_none (fun hm => ?_)
  obtain ⟨x, hx, he⟩ := List.mem_map.1 hm
  obtain ⟨j, hj, rfl⟩ := List.getElem_of_mem hx
  have h1 : ¬ j < placeOf id xs := fun hlt => by have := placeOf_lt id xs j hj hlt; omega
  have hp : placeOf id xs < xs.length := by omega
  rw [foundB_at hp] at h
  have h2 := placeOf_ge id xs hp
  by_cases e : placeOf id xs = j
  · subst e; simp [he] at h
  · have := ha (placeOf id xs) j (by omega) hj; omega

/-! the program's binary search -/
end Go.Proofs.Ytfgkfdkdjegaiaa
