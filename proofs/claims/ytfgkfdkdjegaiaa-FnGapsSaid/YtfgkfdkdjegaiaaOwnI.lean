/-
  ROWS of the call's own, of no program: an empty row, a row that is no nil; numbers in new memory beside a bool.
-/
import Derived.Test.YtfgkfdkdjegaiaaOwn
import Derived.Test.YtfgkfdkdjegaiaaIntsLaw
namespace Go.Proofs.Ytfgkfdkdjegaiaa
open Go.RowKit
set_option linter.unusedVariables false

theorem ints_oneE (zs : List Int) : ∀ u ∈ ints zs, u.oneCell' = true := by
  intro u hu
  obtain ⟨q, _, rfl⟩ := List.mem_map.1 hu
  rfl
theorem litE0 {e : TypeId} {sz : Nat} (B : Nat) (w : World) (m : Nat) (hm : m = w.heap.size) (hB : B ≤ w.heap.size) : (w.alloc (.cells #[] e)).ownsRow B e sz (.slice (some ⟨m, 0, none⟩) 0 0) 0 [] := by
  subst hm; exact World.ownsRow_lit w #[] 0 hB (by decide) (by simp)
theorem own_someE {w : World} {B : Nat} {e : TypeId} {sz : Nat} {v : Value} {n : Nat} {xs : List Value} (h : w.ownsRow B e sz v n xs) (hn : 0 < n) : v.ownBlock ≠ none := by
  obtain ⟨_, h2⟩ := h
  rcases h2 with ⟨_, h0⟩ | ⟨g, cap, cur, hv, _⟩
  · omega
  · rw [hv]; simp [Value.ownBlock]
theorem one_keptE {W w : World} {row : Option Nat} {m : Nat} {l : List Value} (hg : W.grownBy w row) (h : ∀ j u, l[j]? = some u → W.cell? ((⟨m, 0, none⟩ : Addr).add j) = some u) (hne : row ≠ some m) : ∀ j u, l[j]? = some u → w.cell? ((⟨m, 0, none⟩ : Addr).add j) = some u := fun j u hu => by
  have h1 := h j u hu
  rw [addr_add] at h1 ⊢
  exact hg.cell h1 (fun e => hne e.symm)
/-- an owned row that is no nil -/
theorem own_open {w : World} {B : Nat} {e : TypeId} {sz : Nat} {v : Value} {n : Nat} {xs : List Value} (h : w.ownsRow B e sz v n xs) (hv : v.ownBlock ≠ none) : ∃ g c, v = .slice (some ⟨g, 0, none⟩) n c ∧ n ≤ c ∧ c ≤ 9223372036854775807 ∧ g < w.heap.size ∧ B ≤ g ∧ ∀ j u, xs[j]? = some u → w.cell? ⟨g, j, none⟩ = some u := by
  have hc := fun g hg => h.cells (g := g) hg
  have hl := h.lt
  obtain ⟨_, h2⟩ := h
  rcases h2 with ⟨rfl, _⟩ | ⟨g, cap, cur, rfl, hg, _, h1, h3, _⟩
  · simp [Value.ownBlock] at hv
  · refine ⟨g, cap, rfl, h1, h3, (hl g rfl).2, hg, fun j u hu => ?_⟩
    have := hc g rfl j u hu
    rw [addr_add, Nat.zero_add] at this; exact this
def StAns (B : Nat) (r : List Int) (b : Bool) (e : Ending) (w' : World) : Prop := ∃ v', e = .returned (.tuple #[v', .bool b]) ∧ w'.ownsRow B 3 1 v' r.length (ints r)
theorem row_new (w : World) (B : Nat) (hB : B ≤ w.heap.size) : (w.alloc (.cells #[] 3)).ownsRow B 3 1 (.slice (some ⟨w.heap.size, 0, none⟩) 0 0) 0 (ints []) := by
  have h := World.ownsRow_lit (base := B) (e := 3) (size := 1) w #[] 0 hB (by decide) (by simp)
  simpa [ints] using h
end Go.Proofs.Ytfgkfdkdjegaiaa
