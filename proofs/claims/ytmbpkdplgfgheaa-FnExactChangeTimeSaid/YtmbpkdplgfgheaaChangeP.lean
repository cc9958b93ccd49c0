/-
  PLAIN WORDS on changes: what the specification's two loops reckon.
-/
import Derived.Test.YtmbpkdplgfgheaaChangeOf
import Derived.Test.YtmbpkdplgfgheaaL5Good
import Derived.Test.YtmbpkdplgfgheaaTripFind
namespace Go.Proofs.Ytmbpkdplgfgheaa
open Go.RowKit
set_option linter.unusedVariables false
set_option linter.unusedSimpArgs false

/-- times that rise -/
def RiseT (tb : List Int) (L : Nat) : Prop := ∀ i j, i < j → j ≤ L → tb.getD i 0 < tb.getD j 0
theorem take_sum_lt : ∀ (rs : List Int) (hr : ∀ r ∈ rs, 1 ≤ r) (i j : Nat), i < j → j ≤ rs.length → (rs.take i).sum < (rs.take j).sum
  | [], _, i, j, hij, hj => by simp at hj; omega
  | r :: rs, hr, 0, j + 1, _, hj => by
    have h1 := hr r (List.mem_cons_self ..)
    simp only [List.take_zero, List.sum_nil, List.take_succ_cons, List.sum_cons]
    have : 0 ≤ (rs.take j).sum := by
      have nn : ∀ l : List Int, (∀ x ∈ l, 1 ≤ x) → 0 ≤ l.sum := by
        intro l
        induction l with
        | nil => intro _; simp
        | cons x l ih => intro h; have := h x (List.mem_cons_self ..); have := ih (fun y hy => h y (List.mem_cons_of_mem _ hy)); simp only [List.sum_cons]; omega
      exact nn _ (fun x hx => hr x (List.mem_cons_of_mem _ (List.mem_of_mem_take hx)))
    omega
  | r :: rs, hr, i + 1, j + 1, hij, hj => by
    have := take_sum_lt rs (fun x hx => hr x (List.mem_cons_of_mem _ hx)) i j (by omega) (by simpa using hj)
    simp only [List.take_succ_cons, List.sum_cons]; omega
theorem tk_rise {s : Int} {rs : List Int} (hr : ∀ r ∈ rs, 1 ≤ r) : RiseT (tk s rs (rs.length + 1)) rs.length := by
  intro i j hij hj
  rw [tk_getD _ _ _ _ (by omega), tk_getD _ _ _ _ (by omega)]
  have := take_sum_lt rs hr i j hij hj
  omega
/-- one more place of the second trip -/
theorem upd_yes {s : Option (Int × Int)} {A stop : Int} {sb tb R : List Int} {m L : Nat} (hm : m < L) (hr : RiseT tb L) (hk : okC sb tb R A m)
    (hb : (updC s A stop tb (catF sb tb R A m)).isSome = false ∨ tb.getD m 0 - A < bestV (updC s A stop tb (catF sb tb R A m))) : updC s A stop tb (catF sb tb R A (m + 1)) = some (tb.getD m 0 - A, stop) := by
  cases h : catF sb tb R A m with
  | some q =>
    exfalso
    have hq := (catF_ok h).2
    have hlt := hr q m hq (by omega)
    rw [h] at hb
    cases s with
    | none => simp only [updC, Option.isSome_some, bestV] at hb; exact hb.elim (fun h => by cases h) (fun h => by omega)
    | some bq =>
      obtain ⟨b, z⟩ := bq
      simp only [updC] at hb
      split at hb
      · simp only [Option.isSome_some, bestV] at hb; exact hb.elim (fun h => by cases h) (fun h => by omega)
      · simp only [Option.isSome_some, bestV] at hb; exact hb.elim (fun h => by cases h) (fun h => by omega)
  | none =>
    rw [h] at hb
    simp only [catF, h, if_pos hk]
    cases s with
    | none => rfl
    | some bq =>
      obtain ⟨b, z⟩ := bq
      have hb2 : tb.getD m 0 - A < b := hb.elim (fun h => by cases h) (fun h => h)
      simp only [updC, if_pos hb2]
theorem upd_no {s : Option (Int × Int)} {A stop : Int} {sb tb R : List Int} {m : Nat}
    (hb : ¬ (okC sb tb R A m ∧ ((updC s A stop tb (catF sb tb R A m)).isSome = false ∨ tb.getD m 0 - A < bestV (updC s A stop tb (catF sb tb R A m))))) : updC s A stop tb (catF sb tb R A (m + 1)) = updC s A stop tb (catF sb tb R A m) := by
  cases h : catF sb tb R A m with
  | some q => simp only [catF, h]
  | none =>
    rw [h] at hb
    simp only [catF, h]
    by_cases hk : okC sb tb R A m
    · simp only [if_pos hk]
      cases s with
      | none => exact absurd ⟨hk, .inl rfl⟩ hb
      | some bq =>
        obtain ⟨b, z⟩ := bq
        have hb2 : ¬ tb.getD m 0 - A < b := fun g => hb ⟨hk, .inr g⟩
        simp only [updC, if_neg hb2]
    · simp only [if_neg hk]
/-- the best one so far as the specification keeps it -/
def bestN : Option (Int × Int) → Int
  | none => -1
  | some (b, _) => b
theorem updC_nonneg {s : Option (Int × Int)} {A stop : Int} {sb tb R : List Int} {m : Nat} (hs : ∀ b q, s = some (b, q) → 0 ≤ b) : ∀ b q, updC s A stop tb (catF sb tb R A m) = some (b, q) → 0 ≤ b := by
  intro b q h
  cases hc : catF sb tb R A m with
  | none => rw [hc] at h; exact hs b q h
  | some k =>
    rw [hc] at h
    have hok := (catF_ok hc).1
    have hd : 0 ≤ tb.getD k 0 - A := by have := hok.1; have := hok.2; omega
    cases s with
    | none => simp only [updC, Option.some.injEq, Prod.mk.injEq] at h; omega
    | some bz =>
      obtain ⟨b0, z⟩ := bz
      simp only [updC] at h
      split at h
      · simp only [Option.some.injEq, Prod.mk.injEq] at h; omega
      · simp only [Option.some.injEq, Prod.mk.injEq] at h; have := hs b0 z rfl; omega
theorem chF_nonneg (ws : List WlkD) (N : Nat) (sa ta sb tb : List Int) (L : Nat) : ∀ j b q, chF ws N sa ta sb tb L j = some (b, q) → 0 ≤ b
  | 0, b, q, h => by cases h
  | j + 1, b, q, h => updC_nonneg (chF_nonneg ws N sa ta sb tb L j) b q h
end Go.Proofs.Ytmbpkdplgfgheaa
