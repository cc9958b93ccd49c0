/-
  JOINED TEXTS, each under its own namespace line: InsP, Pattern.
-/
import Derived.Test.YtfgkfdkdjegaiaaMk03
import Derived.Test.YtfgkfdkdjegaiaaMk01
import Derived.Test.YtfgkfdkdjegaiaaMk02
import Derived.WalkKit
namespace Go.Proofs.Ytfgkfdkdjegaiaa
set_option linter.unusedVariables false

def Sorted (L : List Int) : Prop := ∀ i j (hij : i ≤ j) (hj : j < L.length), L[i]'(by omega) ≤ L[j]'hj

def insAt (s : Int) : List Int → Nat
  | [] => 0
  | x :: L => if x ≤ s then insAt s L + 1 else 0
def insF (s : Int) (L : List Int) : List Int := L.take (insAt s L) ++ ([s] ++ L.drop (insAt s L))
theorem insAt_le (s : Int) : ∀ L, insAt s L ≤ L.length
  | [] => Nat.le_refl _
  | x :: L => by unfold insAt; split <;> simp; exact insAt_le s L
theorem insAt_eq (s : Int) : ∀ (L : List Int) (m : Nat), m ≤ L.length → (∀ j (hj : j < L.length), j < m → L[j] ≤ s) → (∀ (hm : m < L.length), s < L[m]) → insAt s L = m
  | [], m, h, _, _ => by simp at h; subst h; rfl
  | x :: L, 0, _, _, h2 => by
    have := h2 (by simp)
    simp at this
    unfold insAt; rw [if_neg (by omega)]
  | x :: L, m + 1, h, h1, h2 => by
    have h0 := h1 0 (by simp) (by omega)
    simp at h0
    unfold insAt; rw [if_pos h0]
    rw [insAt_eq s L m (by simpa using h) (fun j hj hjm => by have := h1 (j + 1) (by simpa using hj) (by omega); simpa using this) (fun hm => by have := h2 (by simpa using hm); simpa using this)]
theorem insAt_lt (s : Int) : ∀ (L : List Int) (j : Nat) (hj : j < L.length), j < insAt s L → L[j] ≤ s
  | [], j, h, _ => by simp at h
  | x :: L, j, h, hj => by
    unfold insAt at hj
    split at hj
    · cases j with
      | zero => simpa using (by assumption : x ≤ s)
      | succ j => simpa using insAt_lt s L j (by simpa using h) (by omega)
    · omega
theorem insAt_gt (s : Int) : ∀ (L : List Int) (h : insAt s L < L.length), s < L[insAt s L]
  | [], h => by simp at h
  | x :: L, h => by
    by_cases hy : x ≤ s
    · have e : insAt s (x :: L) = insAt s L + 1 := by simp [insAt, hy]
      have h' : insAt s L < L.length := by rw [e] at h; simpa using h
      have := insAt_gt s L h'
      simp only [e]; simpa using this
    · have e : insAt s (x :: L) = 0 := by simp [insAt, hy]
      simp only [e]; simpa using (by omega : s < x)
theorem insF_perm (s : Int) (L : List Int) : (insF s L).Perm (s :: L) := by
  unfold insF
  have h1 : (L.take (insAt s L) ++ ([s] ++ L.drop (insAt s L))).Perm ([s] ++ (L.take (insAt s L) ++ L.drop (insAt s L))) := by
    rw [← List.append_assoc, ← List.append_assoc]
    exact List.Perm.append_right _ List.perm_append_comm
  rw [List.take_append_drop] at h1
  exact h1
theorem sorted_pair {L : List Int} : Sorted L ↔ L.Pairwise (fun x y => x ≤ y) := by
  rw [List.pairwise_iff_getElem]
  constructor
  · intro h i j hi hj hij; exact h i j (by omega) hj
  · intro h i j hij hj
    by_cases e : i = j
    · subst e; exact Int.le_refl _
    · exact h i j (by omega) hj (by omega)
theorem insF_sorted {s : Int} {L : List Int} (h : Sorted L) : Sorted (insF s L) := by
  have h0 := sorted_pair.1 h
  rw [sorted_pair]
  unfold insF
  rw [List.pairwise_append]
  have hle := insAt_le s L
  refine ⟨h0.sublist (List.take_sublist _ _), ?_, fun x hx y hy => ?_⟩
  · show List.Pairwise _ (s :: L.drop (insAt s L))
    rw [List.pairwise_cons]
    refine ⟨fun y hy => ?_, h0.sublist (List.drop_sublist _ _)⟩
    obtain ⟨j, hj, rfl⟩ := List.getElem_of_mem hy
    rw [List.getElem_drop]
    have hjl : insAt s L + j < L.length := by simp at hj; omega
    have h1 := insAt_gt s L (by omega)
    have h2 := h (insAt s L) (insAt s L + j) (by omega) hjl
    omega
  · obtain ⟨i, hi, rfl⟩ := List.getElem_of_mem hx
    rw [List.getElem_take]
    have hil : i < insAt s L := by simp at hi; omega
    have h1 := insAt_lt s L i (by omega) hil
    rcases List.mem_append.1 hy with hy | hy
    · simp at hy; omega
    · obtain ⟨j, hj, rfl⟩ := List.getElem_of_mem hy
      rw [List.getElem_drop]
      exact h i (insAt s L + j) (by omega) (by simp at hj; omega)
end Go.Proofs.Ytfgkfdkdjegaiaa

namespace Go.Proofs.Ytfgkfdkdjegaiaa
open Go.RowKit Go.ChangeShapes Go.WideShapes Go.ChangeAt Go.Deep Go.Joins
set_option linter.unusedVariables false

structure PatternD where
  line : Int
  offs : Int
deriving DecidableEq
def patV (s : PatternD) : Value := .agg #[.int .i64 s.line, .int .i64 s.offs]
def PatternsAt (w : World) (v : Value) (xs : List PatternD) : Prop :=
  ∃ a c, v = .slice a xs.length c ∧ xs.length ≤ c ∧ c ≤ maxLen ∧ ∀ k (hk : k < xs.length), ∃ b off, a = some ⟨b, off, none⟩ ∧ b < w.heap.size ∧ w.cell? ⟨b, off + k * 2, none⟩ = some (.int .i64 xs[k].line) ∧ w.cell? ⟨b, off + k * 2 + 1, none⟩ = some (.int .i64 xs[k].offs)
theorem PatternsAt.below {w w' : World} {v : Value} {xs : List PatternD} (h : PatternsAt w v xs) {B : Nat} (hB : B = w.heap.size) (hb : Below B w w') : PatternsAt w' v xs := by
  subst hB
  obtain ⟨a, c, hv, h1, h2, h3⟩ := h
  refine ⟨a, c, hv, h1, h2, fun k hk => ?_⟩
  obtain ⟨b, off, ha, hlt, c0, c1⟩ := h3 k hk
  exact ⟨b, off, ha, Nat.lt_of_lt_of_le hlt hb.size, bkeep hb c0, bkeep hb c1⟩
theorem pats_open {w : World} {v : Value} {xs : List PatternD} (h : PatternsAt w v xs) : ∃ a c, v = .slice a xs.length c ∧ xs.length ≤ c ∧ c ≤ 9223372036854775807 ∧
    Hid (∀ k (hk : k < xs.length), ∃ b off, a = some ⟨b, off, none⟩ ∧ b < w.heap.size ∧ w.cell? ⟨b, off + k * 2, none⟩ = some (.int .i64 xs[k].line) ∧ w.cell? ⟨b, off + k * 2 + 1, none⟩ = some (.int .i64 xs[k].offs)) := by
  obtain ⟨a, c, rfl, h1, h2, h3⟩ := h
  exact ⟨a, c, rfl, h1, h2, h3⟩
theorem PatternS_open {w : World} {v : Value} {xs : List PatternD} (h : PatternsAt w v xs) : ∃ a c, v = .slice a xs.length c := by
  obtain ⟨a, c, rfl, _⟩ := h; exact ⟨a, c, rfl⟩
theorem pat_at {w : World} {b : Option Addr} {d : Nat} {xs : List PatternD} (h : PatternsAt w (.slice b xs.length d) xs) (i : Nat) (hi : i < xs.length) :
    ∃ g off, b = some ⟨g, off, none⟩ ∧ g < w.heap.size ∧ w.cell? ⟨g, off + i * 2, none⟩ = some (.int .i64 xs[i].line) ∧ w.cell? ⟨g, off + i * 2 + 1, none⟩ = some (.int .i64 xs[i].offs) := by
  obtain ⟨a, c, he, _, _, HC⟩ := pats_open h
  simp at he
  obtain ⟨rfl, rfl⟩ := he
  exact HC.out i hi

def patC : List PatternD → List Value
  | [] => []
  | s :: xs => .int .i64 s.line :: .int .i64 s.offs :: patC xs
theorem patC_len : ∀ xs : List PatternD, (patC xs).length = xs.length * 2
  | [] => rfl
  | s :: xs => by simp only [patC, List.length_cons]; rw [patC_len xs]; omega
theorem patC_append : ∀ xs ys : List PatternD, patC (xs ++ ys) = patC xs ++ patC ys
  | [], ys => rfl
  | s :: xs, ys => by simp only [patC, List.cons_append]; rw [patC_append xs ys]
theorem patC_get0 : ∀ (xs : List PatternD) (k : Nat) (hk : k < xs.length), (patC xs)[k * 2]? = some (.int .i64 xs[k].line)
  | s :: xs, 0, _ => rfl
  | s :: xs, k + 1, hk => by
    have := patC_get0 xs k (by simpa using hk)
    rw [show (k + 1) * 2 = k * 2 + 1 + 1 by omega]
    simpa [patC] using this
theorem patC_get1 : ∀ (xs : List PatternD) (k : Nat) (hk : k < xs.length), (patC xs)[k * 2 + 1]? = some (.int .i64 xs[k].offs)
  | s :: xs, 0, _ => rfl
  | s :: xs, k + 1, hk => by
    have := patC_get1 xs k (by simpa using hk)
    rw [show (k + 1) * 2 + 1 = k * 2 + 1 + 1 + 1 by omega]
    simpa [patC] using this
theorem patC_set : ∀ (xs : List PatternD) (k : Nat) (s : PatternD) (hk : k < xs.length), (((patC xs).set (k * 2) (.int .i64 s.line)).set (k * 2 + 1) (.int .i64 s.offs)) = patC (xs.set k s)
  | x :: xs, 0, s, _ => rfl
  | x :: xs, k + 1, s, hk => by
    have := patC_set xs k s (by simpa using hk)
    have e0 : (k + 1) * 2 = k * 2 + 1 + 1 := by omega
    have e1 : (k + 1) * 2 + 1 = k * 2 + 1 + 1 + 1 := by omega
    rw [e1, e0]
    simpa [patC] using this
theorem patC_one : ∀ (w : World) (s : PatternD) (t : TypeId), ∀ j x, (patC [s])[j]? = some x → (w.alloc (.cells #[.int .i64 s.line, .int .i64 s.offs] t)).cell? ((⟨w.heap.size, 0, none⟩ : Addr).add j) = some x := by
  intro w s t j x hx
  rw [addr_add, Nat.zero_add]
  match j, hx with
  | 0, hx => simp [patC] at hx; subst hx; simp
  | 1, hx => simp [patC] at hx; subst hx; simp
  | j + 2, hx => simp [patC] at hx
theorem patC_cells (xs : List PatternD) : ∀ u ∈ patC xs, u.oneCell' = true := by
  induction xs with
  | nil => simp [patC]
  | cons s xs ih =>
    intro u hu
    simp only [patC, List.mem_cons] at hu
    rcases hu with rfl | rfl | hu
    · rfl
    · rfl
    · exact ih u hu

theorem patsAt_own {w : World} {B : Nat} {e : TypeId} {v : Value} {xs : List PatternD} (h : w.ownsRow B e 2 v xs.length (patC xs)) : PatternsAt w v xs := by
  have hc := fun g hg => h.cells (g := g) hg
  have hl := h.lt
  obtain ⟨hn, h2⟩ := h
  rcases h2 with ⟨hv, h0⟩ | ⟨g, cap, cur, hv, hg, hh, h1, h3, h4, h5⟩
  · have : xs = [] := List.eq_nil_of_length_eq_zero h0
    subst this
    exact ⟨none, 0, hv, Nat.le_refl _, by decide, fun k hk => by simp at hk⟩
  · refine ⟨_, cap, hv, h1, h3, fun k hk => ⟨g, 0, rfl, (hl g (by rw [hv]; rfl)).2, ?_, ?_⟩⟩
    · have := hc g (by rw [hv]; rfl) (k * 2) _ (patC_get0 xs k hk)
      rw [addr_add] at this; exact this
    · have := hc g (by rw [hv]; rfl) (k * 2 + 1) _ (patC_get1 xs k hk)
      rw [addr_add] at this; exact this
section
variable {H : Type} {enc : TypeId × Value → H} {P : Program} {w : World} {base : Nat} {spare : Nat → Bool} {held : Bool}

end
end Go.Proofs.Ytfgkfdkdjegaiaa
