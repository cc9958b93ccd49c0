/-
  JOINED TEXTS, each under its own namespace line: InsP, Pattern.
-/
import Derived.Test.YtfgkfdkdjegaiaaMk04
import Derived.Test.YtfgkfdkdjegaiaaMk01
import Derived.Test.YtfgkfdkdjegaiaaInts
import Derived.WalkKit
namespace Go.Proofs.Ytfgkfdkdjegaiaa
set_option linter.unusedVariables false

def Sorted (L : List Int) : Prop := ∀ i j (hij : i ≤ j) (hj : j < L.length), L[i]'(by omega) ≤ L[j]'hj
/-- how many of an ascending list are at most s -/
def insAt (s : Int) : List Int → Nat
  | [] => 0
  | x :: L => if x ≤ s then insAt s L + 1 else 0
def insF (s : Int) (L : List Int) : List Int := L.take (insAt s L) ++ ([s] ++ L.drop (insAt s L))
theorem insAt_le (s : Int) : ∀ L, insAt s L ≤ L.length
  | [] => Nat.le_refl _
  | x :: L => by unfold insAt; split <;> simp; exact insAt_le s L
theorem insAt_eq (s : Int) : ∀ (L : List Int) (m : Nat), m ≤ L.length → (∀ j (hj : j < L.length), j < m → L[j] ≤ s) → (∀ (hm : m < L.length), s < L[m]) → insAt s L = m
  | [], m, h, _, _ => by simp at h; subst h; rfl
  | x :: L, 0, _, _, h2 => by
    have := h2 (by simp)
    simp at this
    unfold insAt; rw [if_neg (by omega)]
  | x :: L, m + 1, h, h1, h2 => by
    have h0 := h1 0 (by simp) (by omega)
    simp at h0
    unfold insAt; rw [if_pos h0]
    rw [insAt_eq s L m (by simpa using h) (fun j hj hjm => by have := h1 (j + 1) (by simpa using hj) (by omega); simpa using this) (fun hm => by have := h2 (by simpa using hm); simpa using this)]
theorem insAt_lt (s : Int) : ∀ (L : List Int) (j : Nat) (hj : j < L.length), j < insAt s L → L[j] ≤ s
  | [], j, h, _ => by simp at h
  | x :: L, j, h, hj => by
    unfold insAt at hj
    split at hj
    · cases j with
      | zero => simpa using (by assumption : x ≤ s)
      | succ j => simpa using insAt_lt s L j (by simpa using h) (by omega)
    · omega
theorem insAt_gt (s : Int) : ∀ (L : List Int) (h : insAt s L < L.length), s < L[insAt s L]
  | [], h => by simp at h
  | x :: L, h => by
    by_cases hy : x ≤ s
    · have e : insAt s (x :: L) = insAt s L + 1 := by simp [insAt, hy]
      have h' : insAt s L < L.length := by rw [e] at h; simpa using h
      have := insAt_gt s L h'
      simp only [e]; simpa using this
    · have e : insAt s (x :: L) = 0 := by simp [insAt, hy]
      simp only [e]; simpa using (by omega : s < x)
theorem insF_len (s : Int) (L : List Int) : (insF s L).length = L.length + 1 := by
  have := insAt_le s L
  simp [insF]; omega
theorem insF_perm (s : Int) (L : List Int) : (insF s L).Perm (s :: L) := by
  unfold insF
  have h1 : (L.take (insAt s L) ++ ([s] ++ L.drop (insAt s L))).Perm ([s] ++ (L.take (insAt s L) ++ L.drop (insAt s L))) := by
    rw [← List.append_assoc, ← List.append_assoc]
    exact List.Perm.append_right _ List.perm_append_comm
  rw [List.take_append_drop] at h1
  exact h1
theorem sorted_pair {L : List Int} : Sorted L ↔ L.Pairwise (fun x y => x ≤ y) := by
  rw [List.pairwise_iff_getElem]
  constructor
  · intro h i j hi hj hij; exact h i j (by omega) hj
  · intro h i j hij hj
    by_cases e : i = j
    · subst e; exact Int.le_refl _
    · exact h i j (by omega) hj (by omega)
theorem insF_sorted {s : Int} {L : List Int} (h : Sorted L) : Sorted (insF s L) := by
  have h0 := sorted_pair.1 h
  rw [sorted_pair]
  unfold insF
  rw [List.pairwise_append]
  have hle := insAt_le s L
  refine ⟨h0.sublist (List.take_sublist _ _), ?_, fun x hx y hy => ?_⟩
  · show List.Pairwise _ (s :: L.drop (insAt s L))
    rw [List.pairwise_cons]
    refine ⟨fun y hy => ?_, h0.sublist (List.drop_sublist _ _)⟩
    obtain ⟨j, hj, rfl⟩ := List.getElem_of_mem hy
    rw [List.getElem_drop]
    have hjl : insAt s L + j < L.length := by simp at hj; omega
    have h1 := insAt_gt s L (by omega)
    have h2 := h (insAt s L) (insAt s L + j) (by omega) hjl
    omega
  · obtain ⟨i, hi, rfl⟩ := List.getElem_of_mem hx
    rw [List.getElem_take]
    have hil : i < insAt s L := by simp at hi; omega
    have h1 := insAt_lt s L i (by omega) hil
    rcases List.mem_append.1 hy with hy | hy
    · simp at hy; omega
    · obtain ⟨j, hj, rfl⟩ := List.getElem_of_mem hy
      rw [List.getElem_drop]
      exact h i (insAt s L + j) (by omega) (by simp at hj; omega)
end Go.Proofs.Ytfgkfdkdjegaiaa

namespace Go.Proofs.Ytfgkfdkdjegaiaa
open Go.RowKit Go.ChangeShapes Go.WideShapes Go.ChangeAt Go.Deep Go.Joins
set_option linter.unusedVariables false

structure PatternD where
  line : Int
  offs : Int
deriving DecidableEq
def patV (s : PatternD) : Value := .agg #[.int .i64 s.line, .int .i64 s.offs]
def PatternWf (s : PatternD) : Prop := (Lit.int .i64 s.line).wf = true ∧ (Lit.int .i64 s.offs).wf = true
def PatternsAt (w : World) (v : Value) (xs : List PatternD) : Prop :=
  ∃ a c, v = .slice a xs.length c ∧ xs.length ≤ c ∧ c ≤ maxLen ∧ ∀ k (hk : k < xs.length), ∃ b off, a = some ⟨b, off, none⟩ ∧ b < w.heap.size ∧ w.cell? ⟨b, off + k * 2, none⟩ = some (.int .i64 xs[k].line) ∧ w.cell? ⟨b, off + k * 2 + 1, none⟩ = some (.int .i64 xs[k].offs)
theorem PatternsAt.below {w w' : World} {v : Value} {xs : List PatternD} (h : PatternsAt w v xs) {B : Nat} (hB : B = w.heap.size) (hb : Below B w w') : PatternsAt w' v xs := by
  subst hB
  obtain ⟨a, c, hv, h1, h2, h3⟩ := h
  refine ⟨a, c, hv, h1, h2, fun k hk => ?_⟩
  obtain ⟨b, off, ha, hlt, c0, c1⟩ := h3 k hk
  exact ⟨b, off, ha, Nat.lt_of_lt_of_le hlt hb.size, bkeep hb c0, bkeep hb c1⟩
theorem pats_open {w : World} {v : Value} {xs : List PatternD} (h : PatternsAt w v xs) : ∃ a c, v = .slice a xs.length c ∧ xs.length ≤ c ∧ c ≤ 9223372036854775807 ∧
    Hid (∀ k (hk : k < xs.length), ∃ b off, a = some ⟨b, off, none⟩ ∧ b < w.heap.size ∧ w.cell? ⟨b, off + k * 2, none⟩ = some (.int .i64 xs[k].line) ∧ w.cell? ⟨b, off + k * 2 + 1, none⟩ = some (.int .i64 xs[k].offs)) := by
  obtain ⟨a, c, rfl, h1, h2, h3⟩ := h
  exact ⟨a, c, rfl, h1, h2, h3⟩
theorem PatternS_open {w : World} {v : Value} {xs : List PatternD} (h : PatternsAt w v xs) : ∃ a c, v = .slice a xs.length c := by
  obtain ⟨a, c, rfl, _⟩ := h; exact ⟨a, c, rfl⟩
theorem pat_at {w : World} {b : Option Addr} {d : Nat} {xs : List PatternD} (h : PatternsAt w (.slice b xs.length d) xs) (i : Nat) (hi : i < xs.length) :
    ∃ g off, b = some ⟨g, off, none⟩ ∧ g < w.heap.size ∧ w.cell? ⟨g, off + i * 2, none⟩ = some (.int .i64 xs[i].line) ∧ w.cell? ⟨g, off + i * 2 + 1, none⟩ = some (.int .i64 xs[i].offs) := by
  obtain ⟨a, c, he, _, _, HC⟩ := pats_open h
  simp at he
  obtain ⟨rfl, rfl⟩ := he
  exact HC.out i hi

def patC : List PatternD → List Value
  | [] => []
  | s :: xs => .int .i64 s.line :: .int .i64 s.offs :: patC xs
theorem patC_len : ∀ xs : List PatternD, (patC xs).length = xs.length * 2
  | [] => rfl
  | s :: xs => by simp only [patC, List.length_cons]; rw [patC_len xs]; omega
theorem patC_append : ∀ xs ys : List PatternD, patC (xs ++ ys) = patC xs ++ patC ys
  | [], ys => rfl
  | s :: xs, ys => by simp only [patC, List.cons_append]; rw [patC_append xs ys]
theorem patC_get0 : ∀ (xs : List PatternD) (k : Nat) (hk : k < xs.length), (patC xs)[k * 2]? = some (.int .i64 xs[k].line)
  | s :: xs, 0, _ => rfl
  | s :: xs, k + 1, hk => by
    have := patC_get0 xs k (by simpa using hk)
    rw [show (k + 1) * 2 = k * 2 + 1 + 1 by omega]
    simpa [patC] using this
theorem patC_get1 : ∀ (xs : List PatternD) (k : Nat) (hk : k < xs.length), (patC xs)[k * 2 + 1]? = some (.int .i64 xs[k].offs)
  | s :: xs, 0, _ => rfl
  | s :: xs, k + 1, hk => by
    have := patC_get1 xs k (by simpa using hk)
    rw [show (k + 1) * 2 + 1 = k * 2 + 1 + 1 + 1 by omega]
    simpa [patC] using this
theorem patC_set : ∀ (xs : List PatternD) (k : Nat) (s : PatternD) (hk : k < xs.length), (((patC xs).set (k * 2) (.int .i64 s.line)).set (k * 2 + 1) (.int .i64 s.offs)) = patC (xs.set k s)
  | x :: xs, 0, s, _ => rfl
  | x :: xs, k + 1, s, hk => by
    have := patC_set xs k s (by simpa using hk)
    have e0 : (k + 1) * 2 = k * 2 + 1 + 1 := by omega
    have e1 : (k + 1) * 2 + 1 = k * 2 + 1 + 1 + 1 := by omega
    rw [e1, e0]
    simpa [patC] using this
theorem patC_one : ∀ (w : World) (s : PatternD) (t : TypeId), ∀ j x, (patC [s])[j]? = some x → (w.alloc (.cells #[.int .i64 s.line, .int .i64 s.offs] t)).cell? ((⟨w.heap.size, 0, none⟩ : Addr).add j) = some x := by
  intro w s t j x hx
  rw [addr_add, Nat.zero_add]
  match j, hx with
  | 0, hx => simp [patC] at hx; subst hx; simp
  | 1, hx => simp [patC] at hx; subst hx; simp
  | j + 2, hx => simp [patC] at hx
theorem patC_cells (xs : List PatternD) : ∀ u ∈ patC xs, u.oneCell' = true := by
  induction xs with
  | nil => simp [patC]
  | cons s xs ih =>
    intro u hu
    simp only [patC, List.mem_cons] at hu
    rcases hu with rfl | rfl | hu
    · rfl
    · rfl
    · exact ih u hu

def PatternsIn (l u : Nat) (w : World) (v : Value) (xs : List PatternD) : Prop := w.ownsRow l 45 2 v xs.length (patC xs) ∧ ∀ g, v.ownBlock = some g → g < u
theorem patsAt_own {w : World} {B : Nat} {e : TypeId} {v : Value} {xs : List PatternD} (h : w.ownsRow B e 2 v xs.length (patC xs)) : PatternsAt w v xs := by
  have hc := fun g hg => h.cells (g := g) hg
  have hl := h.lt
  obtain ⟨hn, h2⟩ := h
  rcases h2 with ⟨hv, h0⟩ | ⟨g, cap, cur, hv, hg, hh, h1, h3, h4, h5⟩
  · have : xs = [] := List.eq_nil_of_length_eq_zero h0
    subst this
    exact ⟨none, 0, hv, Nat.le_refl _, by decide, fun k hk => by simp at hk⟩
  · refine ⟨_, cap, hv, h1, h3, fun k hk => ⟨g, 0, rfl, (hl g (by rw [hv]; rfl)).2, ?_, ?_⟩⟩
    · have := hc g (by rw [hv]; rfl) (k * 2) _ (patC_get0 xs k hk)
      rw [addr_add] at this; exact this
    · have := hc g (by rw [hv]; rfl) (k * 2 + 1) _ (patC_get1 xs k hk)
      rw [addr_add] at this; exact this
theorem PatternsIn.at {l u : Nat} {w : World} {v : Value} {xs : List PatternD} (h : PatternsIn l u w v xs) : PatternsAt w v xs := patsAt_own h.1
theorem PatternsIn.lo {l u : Nat} {w : World} {v : Value} {xs : List PatternD} (h : PatternsIn l u w v xs) (g : Nat) (hg : v.ownBlock = some g) : l ≤ g := (h.1.lt g hg).1
theorem PatternsIn.later {l u : Nat} {w w' : World} {v : Value} {xs : List PatternD} (h : PatternsIn l u w v xs) (hb : Below w.heap.size w w') : PatternsIn l u w' v xs := ⟨own_later h.1 hb, h.2⟩
theorem PatternsIn.out {l u lo hi : Nat} {w w' : World} {v : Value} {xs : List PatternD} (h : PatternsIn l u w v xs) (ho : Out lo hi w w') (hs : u ≤ lo ∨ hi ≤ l) : PatternsIn l u w' v xs :=
  ⟨own_out h.1 ho (fun g hg => by have := h.2 g hg; have := h.lo g hg; omega), h.2⟩
theorem PatternsIn.mk {l : Nat} {w : World} {v : Value} {xs : List PatternD} (h : w.ownsRow l 45 2 v xs.length (patC xs)) : PatternsIn l w.heap.size w v xs := ⟨h, fun g hg => (h.lt g hg).2⟩
theorem PatternsIn.base {l l' u u' : Nat} {w : World} {v : Value} {xs : List PatternD} (h : PatternsIn l u w v xs) (hl : l' ≤ l) (hu : u ≤ u') : PatternsIn l' u' w v xs := ⟨own_base h.1 hl, fun g hg => Nat.lt_of_lt_of_le (h.2 g hg) hu⟩
theorem PatternsIn.nil (l u : Nat) (w : World) : PatternsIn l u w (.slice none 0 0) [] := ⟨World.ownsRow_nil _ _ _ _, fun g hg => by simp [Value.ownBlock] at hg⟩

section
variable {H : Type} {enc : TypeId × Value → H} {P : Program} {w : World} {base : Nat} {spare : Nat → Bool} {held : Bool}

theorem pats_trod {t e : TypeId} {f0 f1 : Field} {n : Nat} {v : Value} {x : DataW H × List MemPlace} (ht : P.underlying t = some (.slice e)) (he : P.underlying e = some (.struct #[f0, f1]))
    (hone : oneCellFields P #[f0, f1] = true) (hc : P.cellsOf e = 2) (h0 : P.underlying f0.type = some (.int .i64)) (h1 : P.underlying f1.type = some (.int .i64))
    (h : DataW.trod enc P w base spare held n t [v] = some x) : ∃ ls : List PatternD, PatternsAt w v ls ∧ ∀ l ∈ ls, PatternWf l := by
  rcases open_slice ht h with ⟨hcs, _⟩ | ⟨a, len, cap, m, n', D, Pl, hcs, _, hl, hm, hmm, _, hel⟩
  · simp at hcs; subst hcs
    exact ⟨[], ⟨none, 0, rfl, Nat.le_refl _, by decide, fun k hk => by simp at hk⟩, fun x hx => by simp at hx⟩
  · simp at hcs; subst hcs
    have hml : len ≤ m := by rw [hmm]; split <;> omega
    have hsp : ∀ k, k < len → a.spot = none := fun k hk => by
      obtain ⟨cs', hcc, htt⟩ := hel 0 (by omega)
      obtain ⟨_, hcl, hat⟩ := World.cells?_some hcc
      have := hat 0 (by omega)
      have hq : cs'[0]? = some (cs'[0]'(by omega)) := List.getElem?_eq_getElem _
      rw [hq] at this
      have := World.cell?_spot this
      simpa [Addr.add] using this
    have each : ∀ k, k < len → ∃ l : PatternD, (w.cell? ⟨a.block, a.off + k * 2, none⟩ = some (.int .i64 l.line) ∧ w.cell? ⟨a.block, a.off + k * 2 + 1, none⟩ = some (.int .i64 l.offs)) ∧ PatternWf l := fun k hk => by
      obtain ⟨cs', hcc, htt⟩ := hel k (by omega)
      obtain ⟨_, hcl, hat⟩ := World.cells?_some hcc
      obtain ⟨ys, n2, _, _, _, hylen, hg⟩ := DataW.trod_struct he htt
      have hs := hsp k hk
      obtain ⟨b, off, sp⟩ := a
      simp only at hs
      subst hs
      rw [hc] at hcl hat
      match cs', hcl with
      | [c0, c1], _ =>
        obtain ⟨o0, k0⟩ := hone_of hone 0 f0 rfl
        obtain ⟨o1, k1⟩ := hone_of hone 1 f1 rfl
        have g0 := hg 0 f0 rfl
        have g1 := hg 1 f1 rfl
        rw [o0, k0] at g0
        rw [o1, k1] at g1
        simp only [List.drop_zero, List.drop_succ_cons, List.take_succ_cons, List.take_zero] at g0 g1
        have hy : ys.length = 2 := hylen
        rw [List.getElem?_eq_getElem (by omega)] at g0 g1
        obtain ⟨p0, hp0, _, hw0⟩ := DataW.trod_int h0 g0
        obtain ⟨p1, hp1, _, hw1⟩ := DataW.trod_int h1 g1
        simp at hp0 hp1
        subst hp0 hp1
        refine ⟨⟨p0, p1⟩, ⟨?_, ?_⟩, hw0, hw1⟩
        · have := hat 0 (by omega); rw [addr_add, addr_add] at this; simpa [hc] using this
        · have := hat 1 (by omega); rw [addr_add, addr_add] at this; simpa [hc] using this
    have fam : ∃ F : Nat → PatternD, ∀ k, k < len → (w.cell? ⟨a.block, a.off + k * 2, none⟩ = some (.int .i64 (F k).line) ∧ w.cell? ⟨a.block, a.off + k * 2 + 1, none⟩ = some (.int .i64 (F k).offs)) ∧ PatternWf (F k) :=
      ⟨fun k => if hk : k < len then Classical.choose (each k hk) else ⟨0, 0⟩, fun k hk => by simp only [dif_pos hk]; exact Classical.choose_spec (each k hk)⟩
    obtain ⟨F, hF⟩ := fam
    refine ⟨(List.range len).map F, ⟨some a, cap, by simp, by simp; omega, hm, fun k hk => ?_⟩, fun l hl => ?_⟩
    · have hk' : k < len := by simpa using hk
      have e : ((List.range len).map F)[k] = F k := by simp
      have hs := hsp k hk'
      have h3 := hF k hk'
      rw [e]
      obtain ⟨b, off, sp⟩ := a
      simp only at hs
      subst hs
      exact ⟨b, off, rfl, World.block_lt_of_cell? w _ h3.1.1, h3.1⟩
    · obtain ⟨k, hk, rfl⟩ := List.mem_map.1 hl
      exact (hF k (List.mem_range.1 hk)).2
end
theorem patsAt_of {H : Type} {enc : TypeId × Value → H} {P : Program} {W : World} {base base' : Nat} {spare : Nat → Bool} {held : Bool} {t e : TypeId} {f0 f1 : Field} {v : Value} {d : DataW H} {p : List MemPlace} (ht : P.underlying t = some (.slice e)) (he : P.underlying e = some (.struct #[f0, f1]))
    (hone : oneCellFields P #[f0, f1] = true) (hc : P.cellsOf e = 2) (h0 : P.underlying f0.type = some (.int .i64)) (h1 : P.underlying f1.type = some (.int .i64))
    (hv : Value.okWide P W .any base t v) (h : DataW.Trod enc P W base' spare held t v d p) : ∃ xs : List PatternD, PatternsAt W v xs ∧ ∀ z ∈ xs, PatternWf z := by
  obtain ⟨a, len, cap, rfl⟩ := okWide_slice ht hv
  obtain ⟨fuel, hf⟩ := h
  exact pats_trod ht he hone hc h0 h1 (by simpa [Value.cells] using hf)
end Go.Proofs.Ytfgkfdkdjegaiaa
