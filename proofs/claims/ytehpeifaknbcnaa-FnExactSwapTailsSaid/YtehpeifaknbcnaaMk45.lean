/-
  JOINED TEXTS, each under its own namespace line: DeadP, DeadMinutes, SwapP, GrowLay.
-/
import Derived.Test.YtehpeifaknbcnaaMk34
import Derived.Test.YtehpeifaknbcnaaValidBlocksS
import Derived.Test.YtehpeifaknbcnaaMk44
import Derived.Shelf.SlGeneric
import Derived.Shelf.Spec.SlicesGrow
import Derived.Ground.Names8Prog
import Derived.Test.YtehpeifaknbcnaaProg
namespace Go.Proofs.Ytehpeifaknbcnaa
set_option linter.unusedVariables false

def AllFnd (t : TTD) (bs : List (List Int)) : Prop := ∀ i (h : i < bs.length), 0 < bs[i].length ∧ ∀ k (hk : k < bs[i].length), foundT t bs[i][k] = true
theorem BlksGood.fnd {t : TTD} {f : FleetD} {bs : List (List Int)} (h : BlksGood t f bs) : AllFnd t bs := fun i hi =>
  ⟨List.length_pos_iff.2 (h.1 i hi hi).1.1, fun k hk => ((h.1 i hi hi).1.2 k hk hk).1⟩
end Go.Proofs.Ytehpeifaknbcnaa

namespace Go.Proofs.Ytehpeifaknbcnaa
open Go.RowKit
set_option linter.unusedVariables false
set_option linter.unusedSimpArgs false

theorem blksB_iff {t : TTD} {f : FleetD} {bs : List (List Int)} : blksB t f bs = true ↔ BlksGood t f bs := by unfold blksB; simp

end Go.Proofs.Ytehpeifaknbcnaa

namespace Go.Proofs.Ytehpeifaknbcnaa
set_option linter.unusedVariables false

def swRow (bs : List (List Int)) (i p k q m : Nat) : List Int := if m = i then (bs.getD i []).take (p + 1) ++ (bs.getD k []).drop (q + 1) else if m = k then (bs.getD k []).take (q + 1) ++ (bs.getD i []).drop (p + 1) else bs.getD m []
def swF (bs : List (List Int)) (i p k q : Nat) : List (List Int) := (List.range bs.length).map (swRow bs i p k q)
theorem swF_len (bs : List (List Int)) (i p k q : Nat) : (swF bs i p k q).length = bs.length := by simp [swF]
theorem swF_take {bs : List (List Int)} {i p k q m : Nat} (h : m < bs.length) : (swF bs i p k q).take (m + 1) = (swF bs i p k q).take m ++ [swRow bs i p k q m] := by
  rw [List.take_succ_eq_append_getElem (by rw [swF_len]; exact h)]
  simp [swF]
theorem sw_at (bs : List (List Int)) (i p k q : Nat) (hi : i < bs.length) (hk : k < bs.length) : swRow bs i p k q i = bs[i].take (p + 1) ++ bs[k].drop (q + 1) := by unfold swRow; rw [if_pos rfl]; simp [hi, hk]
theorem sw_at2 (bs : List (List Int)) (i p k q : Nat) (hne : k ≠ i) (hi : i < bs.length) (hk : k < bs.length) : swRow bs i p k q k = bs[k].take (q + 1) ++ bs[i].drop (p + 1) := by unfold swRow; rw [if_neg hne, if_pos rfl]; simp [hi, hk]
theorem sw_other (bs : List (List Int)) (i p k q m : Nat) (h1 : m ≠ i) (h2 : m ≠ k) (hm : m < bs.length) : swRow bs i p k q m = bs[m] := by unfold swRow; rw [if_neg h1, if_neg h2]; simp [hm]
theorem len_le_flat : ∀ (bs : List (List Int)), (∀ b ∈ bs, 0 < b.length) → bs.length ≤ bs.flatten.length
  | [], _ => by simp
  | b :: bs, h => by
    have h1 := len_le_flat bs (fun x hx => h x (by simp [hx]))
    have h2 := h b (by simp)
    simp only [List.flatten_cons, List.length_append, List.length_cons]
    omega
theorem row_le_flat : ∀ (bs : List (List Int)) (i : Nat) (h : i < bs.length), bs[i].length ≤ bs.flatten.length
  | [], _, h => by simp at h
  | b :: bs, 0, _ => by simp
  | b :: bs, i + 1, h => by
    have := row_le_flat bs i (by simpa using h)
    simp only [List.getElem_cons_succ, List.flatten_cons, List.length_append]
    omega
theorem BlksGood.small {t : TTD} {f : FleetD} {bs : List (List Int)} (h : BlksGood t f bs) (ht : t.trips.length ≤ 12) : bs.length ≤ 12 ∧ ∀ i (hi : i < bs.length), bs[i].length ≤ 12 := by
  have h1 : bs.flatten.length ≤ 12 := by have := h.2.2; unfold allT at this; simp only [List.length_map] at this; omega
  refine ⟨?_, fun i hi => by have := row_le_flat bs i hi; omega⟩
  have := len_le_flat bs (fun b hb => by
    obtain ⟨i, hi, rfl⟩ := List.getElem_of_mem hb
    exact (h.fnd i hi).1)
  omega
theorem preL_small {xss : List (List Int)} (h : ∀ i (hi : i < xss.length), xss[i].length ≤ 24) : ∀ i, i ≤ xss.length → preL xss i ≤ 24 * i
  | 0, _ => by simp [preL]
  | i + 1, hi => by
    have ih := preL_small h i (by omega)
    have := h i (by omega)
    rw [preL_succ (by omega)]
    omega
theorem swF_small {t : TTD} {f : FleetD} {bs : List (List Int)} (h : BlksGood t f bs) (ht : t.trips.length ≤ 12) {i p k q : Nat} (hi : i < bs.length) (hk : k < bs.length) : GrpsSmall (swF bs i p k q) := by
  obtain ⟨h1, h2⟩ := h.small ht
  have h3 := preL_small (xss := swF bs i p k q) (fun m hm => by
    have hm' : m < bs.length := by rw [swF_len] at hm; exact hm
    have e : (swF bs i p k q)[m] = swRow bs i p k q m := by simp [swF]
    rw [e]
    have a := h2 i hi
    have b := h2 k hk
    by_cases c1 : m = i
    · subst c1; rw [sw_at bs m p k q hi hk]; simp only [List.length_append, List.length_take, List.length_drop]; omega
    · by_cases c2 : m = k
      · subst c2; rw [sw_at2 bs i p m q c1 hi hk]; simp only [List.length_append, List.length_take, List.length_drop]; omega
      · rw [sw_other bs i p k q m c1 c2 hm']; have := h2 m hm'; omega) (swF bs i p k q).length (Nat.le_refl _)
  rw [swF_len] at h3
  refine ⟨by rw [swF_len]; omega, ?_⟩
  unfold totL
  rw [swF_len]
  omega

theorem plF_at {id : Int} {bs : List (List Int)} (h : 0 ≤ (plF id 0 bs).1) : ∃ i p : Nat, plF id 0 bs = ((i : Int), (p : Int)) ∧ ∃ hi : i < bs.length, p < bs[i].length := by
  have hex : ∃ m, ∃ hm : m < bs.length, id ∈ bs[m] ∧ ∀ j (h : j < bs.length), j < m → id ∉ bs[j] := by
    by_cases c : ∀ j (h : j < bs.length), id ∉ bs[j]
    · rw [plF_none id bs 0 c] at h; simp at h
    · have hq : ∃ m, m < bs.length ∧ id ∈ bs.getD m [] := by
        obtain ⟨j, hj⟩ := Classical.not_forall.1 c
        obtain ⟨hj, hn⟩ := Classical.not_forall.1 hj
        exact ⟨j, hj, by simpa [hj] using Classical.not_not.1 hn⟩
      have hmin : ∀ n : Nat, ∀ m, m ≤ n → m < bs.length → id ∈ bs.getD m [] → ∃ m', ∃ hm : m' < bs.length, id ∈ bs[m'] ∧ ∀ j (h : j < bs.length), j < m' → id ∉ bs[j] := by
        intro n
        induction n with
        | zero => intro m hm hl hin; exact ⟨m, hl, by simpa [hl] using hin, fun j h hj => by omega⟩
        | succ n ih =>
          intro m hm hl hin
          by_cases c2 : ∃ j, j < m ∧ ∃ h : j < bs.length, id ∈ bs[j]
          · obtain ⟨j, hjm, hjl, hji⟩ := c2
            exact ih j (by omega) hjl (by simpa [hjl] using hji)
          · exact ⟨m, hl, by simpa [hl] using hin, fun j h hj hin2 => c2 ⟨j, hj, h, hin2⟩⟩
      obtain ⟨m, hl, hin⟩ := hq
      exact hmin m m (Nat.le_refl _) hl hin
  obtain ⟨m, hm, hin, hno⟩ := hex
  obtain ⟨p, hp, hpl, _⟩ := fstIdx_get id bs[m] hin
  refine ⟨m, p, ?_, hm, hpl⟩
  rw [plF_hit id bs 0 m hm hno hin, hp, Nat.zero_add]
end Go.Proofs.Ytehpeifaknbcnaa

namespace Go.Proofs
open Go.Shelf
def Try.growInt_ren : Go.Shelf.Ren := ⟨fun | 4 => 115 | n => n, fun | 22 => 80 | 25 => 3 | 3 => 3 | 4 => 4 | 9 => 9 | 20 => 20 | 0 => 0 | n => n, fun | n => n⟩
theorem Try.growInt : Go.Proofs.Lays8.n4 Try.prog Try.growInt_ren := {
  mixed := by kernel_rfl
  f4 := ⟨Try.f115.name, by decide, Try.func115.trans (congrArg some (by kernel_rfl))⟩
  t0 := Try.underlying0
  a0 := Try.isAgg0
  z0 := Try.sizeOf0
  v0 := Try.zeroValue0
  t3 := Try.underlying3
  a3 := Try.isAgg3
  z3 := Try.sizeOf3
  v3 := Try.zeroValue3
  t4 := Try.underlying4
  a4 := Try.isAgg4
  z4 := Try.sizeOf4
  v4 := Try.zeroValue4
  t9 := Try.underlying9
  a9 := Try.isAgg9
  z9 := Try.sizeOf9
  v9 := Try.zeroValue9
  t20 := Try.underlying20
  a20 := Try.isAgg20
  z20 := Try.sizeOf20
  v20 := Try.zeroValue20
  t22 := Try.underlying80
  a22 := Try.isAgg80
  z22 := Try.sizeOf80
  v22 := Try.zeroValue80 }
end Go.Proofs
