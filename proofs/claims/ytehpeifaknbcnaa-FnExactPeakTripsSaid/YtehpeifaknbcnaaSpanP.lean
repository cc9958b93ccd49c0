import Derived.WalkKit
namespace Go.Proofs.Ytehpeifaknbcnaa
set_option linter.unusedVariables false

abbrev SpanD := Int × Int
def TimeOk (t : Int) : Prop := 0 ≤ t ∧ t ≤ 1799
instance (t : Int) : Decidable (TimeOk t) := by unfold TimeOk; infer_instance
def timeB (t : Int) : Bool := decide (TimeOk t)
theorem timeB_yes {t : Int} (h : TimeOk t) : timeB t = true := decide_eq_true h
theorem timeB_no {t : Int} (h : ¬ TimeOk t) : timeB t = false := decide_eq_false h
def SpanOk (s : SpanD) : Prop := TimeOk s.1 ∧ TimeOk s.2 ∧ s.1 ≤ s.2
instance (s : SpanD) : Decidable (SpanOk s) := by unfold SpanOk; infer_instance
def spanB (s : SpanD) : Bool := decide (SpanOk s)
theorem spanB_yes {s : SpanD} (h : SpanOk s) : spanB s = true := decide_eq_true h
theorem spanB_no {s : SpanD} (h : ¬ SpanOk s) : spanB s = false := decide_eq_false h
def SpansOk (l : List SpanD) : Prop := l.length ≤ 20 ∧ ∀ s ∈ l, SpanOk s
instance (l : List SpanD) : Decidable (SpansOk l) := by unfold SpansOk; infer_instance
def spansB (l : List SpanD) : Bool := decide (SpansOk l)
theorem spansB_yes {l : List SpanD} (h : SpansOk l) : spansB l = true := decide_eq_true h
theorem spansB_no {l : List SpanD} (h : ¬ SpansOk l) : spansB l = false := decide_eq_false h

def inSpB (t : Int) (s : SpanD) : Bool := decide (s.1 ≤ t) && decide (t < s.2)
def cov (l : List SpanD) (t : Int) : Nat := l.countP (inSpB t)
def Has (l : List SpanD) (t : Int) : Prop := ∃ s ∈ l, s.1 ≤ t ∧ t < s.2
theorem cov_has (l : List SpanD) (t : Int) : 0 < cov l t ↔ Has l t := by
  unfold cov Has; rw [List.countP_pos_iff]
  constructor
  · rintro ⟨s, hs, h⟩; simp [inSpB] at h; exact ⟨s, hs, h⟩
  · rintro ⟨s, hs, h⟩; exact ⟨s, hs, by simp [inSpB, h]⟩
theorem cov_le (l : List SpanD) (t : Int) : cov l t ≤ l.length := List.countP_le_length
theorem cov_append (l m : List SpanD) (t : Int) : cov (l ++ m) t = cov l t + cov m t := List.countP_append
theorem cov_one (s : SpanD) (t : Int) : cov [s] t = if s.1 ≤ t ∧ t < s.2 then 1 else 0 := by
  unfold cov inSpB; by_cases h1 : s.1 ≤ t <;> by_cases h2 : t < s.2 <;> simp [h1, h2]
theorem has_cons (a : SpanD) (l : List SpanD) (t : Int) : Has (a :: l) t ↔ (a.1 ≤ t ∧ t < a.2) ∨ Has l t := by
  unfold Has; simp
theorem has_nil (t : Int) : ¬ Has [] t := by unfold Has; simp
theorem last_cases (l : List SpanD) : l = [] ∨ ∃ i x, l = i ++ [x] := by
  rcases List.eq_nil_or_concat l with h | ⟨i, x, h⟩
  · exact .inl h
  · exact .inr ⟨i, x, by simpa using h⟩
def bestF (c : Nat → Nat) : Nat → Nat
  | 0 => 0
  | n + 1 => if c (bestF c n) < c (n + 1) then n + 1 else bestF c n
theorem bestF_spec (c : Nat → Nat) : ∀ n, bestF c n ≤ n ∧ (∀ j, j ≤ n → c j ≤ c (bestF c n)) ∧ ∀ j, j < bestF c n → c j < c (bestF c n)
  | 0 => ⟨Nat.le_refl _, fun j h => by have : j = 0 := by omega
                                       subst this; exact Nat.le_refl _, fun j h => by simp [bestF] at h⟩
  | n + 1 => by
    obtain ⟨h1, h2, h3⟩ := bestF_spec c n
    simp only [bestF]
    split
    · rename_i hc
      refine ⟨Nat.le_refl _, fun j hj => ?_, fun j hj => ?_⟩
      · by_cases e : j = n + 1
        · rw [e]; exact Nat.le_refl _
        · have := h2 j (by omega); omega
      · have := h2 j (by omega); omega
    · rename_i hc
      refine ⟨by omega, fun j hj => ?_, h3⟩
      by_cases e : j = n + 1
      · rw [e]; omega
      · exact h2 j (by omega)
theorem bestF_uniq (c : Nat → Nat) (n b : Nat) (hb : b ≤ n) (h1 : ∀ j, j ≤ n → c j ≤ c b) (h2 : ∀ j, j < b → c j < c b) : bestF c n = b := by
  obtain ⟨g1, g2, g3⟩ := bestF_spec c n
  have e1 := h1 _ g1
  have e2 := g2 b hb
  by_cases hlt : bestF c n < b
  · have := h2 _ hlt; omega
  · by_cases hgt : b < bestF c n
    · have := g3 _ hgt; omega
    · omega
def covN (l : List SpanD) (t : Nat) : Nat := cov l (t : Int)
def busyT (l : List SpanD) : Nat := bestF (covN l) 1799
def busyN (l : List SpanD) : Nat := covN l (busyT l)
def busyStep (l : List SpanD) (q : Int × Int) (x : SpanD) : Int × Int := if q.2 < (cov l x.1 : Int) ∨ ((cov l x.1 : Int) = q.2 ∧ x.1 < q.1) then (x.1, (cov l x.1 : Int)) else q
def busyF (l p : List SpanD) : Int × Int := p.foldl (busyStep l) (0, 0)
theorem busyF_take (l p : List SpanD) (k : Nat) (h : k < p.length) : busyF l (p.take (k + 1)) = busyStep l (busyF l (p.take k)) p[k] := by
  unfold busyF; rw [List.take_succ_eq_append_getElem h, List.foldl_append]; rfl
theorem busyF_inv (l : List SpanD) : ∀ (n : Nat) (p : List SpanD), p.length = n → (∀ s ∈ p, SpanOk s) →
    ((busyF l p = (0, 0)) ∨ (∃ x ∈ p, (busyF l p).1 = x.1 ∧ (busyF l p).2 = (cov l x.1 : Int) ∧ 0 < (busyF l p).2)) ∧ ∀ x ∈ p, (cov l x.1 : Int) ≤ (busyF l p).2 ∧ ((cov l x.1 : Int) = (busyF l p).2 → (busyF l p).1 ≤ x.1)
  | 0, p, hl, _ => by
    have : p = [] := List.length_eq_zero_iff.1 hl
    subst this; exact ⟨.inl rfl, by simp⟩
  | n + 1, p, hl, hs => by
    rcases last_cases p with rfl | ⟨i, x, rfl⟩
    · simp at hl
    obtain ⟨h1, h2⟩ := busyF_inv l n i (by simpa using hl) (fun s h => hs s (List.mem_append.2 (.inl h)))
    have e : busyF l (i ++ [x]) = busyStep l (busyF l i) x := by simp [busyF]
    have hx := hs x (by simp)
    unfold SpanOk TimeOk at hx
    rw [e]
    have hnn : 0 ≤ (busyF l i).2 ∧ ((busyF l i).2 = 0 → (busyF l i).1 = 0) := by
      rcases h1 with g | ⟨y, _, _, _, g⟩
      · rw [g]; simp
      · omega
    generalize busyF l i = q at *
    unfold busyStep
    split
    · rename_i hc
      refine ⟨.inr ⟨x, by simp, rfl, rfl, ?_⟩, fun y hy => ?_⟩
      · show (0 : Int) < _; rcases hc with g | ⟨g1, g2⟩
        · omega
        · by_cases g3 : q.2 = 0
          · have := hnn.2 g3; omega
          · omega
      · show _ ≤ _ ∧ (_ → x.1 ≤ _)
        rcases List.mem_append.1 hy with g | g
        · have := h2 y g
          refine ⟨?_, fun g3 => ?_⟩
          · show (cov l y.1 : Int) ≤ (cov l x.1 : Int); omega
          · have g3' : (cov l y.1 : Int) = (cov l x.1 : Int) := g3
            rcases hc with k | ⟨k1, k2⟩
            · omega
            · have := this.2 (by omega); omega
        · have : y = x := by simpa using g
          subst this; exact ⟨Int.le_refl _, fun _ => Int.le_refl _⟩
    · rename_i hc
      refine ⟨?_, fun y hy => ?_⟩
      · rcases h1 with g | ⟨y, hy, g⟩
        · exact .inl g
        · exact .inr ⟨y, List.mem_append.2 (.inl hy), g⟩
      · rcases List.mem_append.1 hy with g | g
        · exact h2 y g
        · have : y = x := by simpa using g
          subst this; exact ⟨by omega, fun g3 => by omega⟩

theorem cov_from (l : List SpanD) (t : Int) (h : 0 < cov l t) : ∃ x ∈ l, x.1 ≤ t ∧ cov l t ≤ cov l x.1 := by
  have key : ∀ m : List SpanD, Has m t → ∃ x ∈ m, x.1 ≤ t ∧ t < x.2 ∧ ∀ s ∈ m, s.1 ≤ t → t < s.2 → s.1 ≤ x.1 := by
    intro m
    induction m with
    | nil => intro h; exact absurd h (has_nil _)
    | cons a m ih =>
      intro hm
      by_cases hq : Has m t
      · obtain ⟨x, hx, h1, h2, h3⟩ := ih hq
        by_cases hb : (a.1 ≤ t ∧ t < a.2) ∧ x.1 < a.1
        · refine ⟨a, by simp, hb.1.1, hb.1.2, fun s hs k1 k2 => ?_⟩
          rcases List.mem_cons.1 hs with rfl | hs
          · omega
          · have := h3 s hs k1 k2; omega
        · refine ⟨x, List.mem_cons_of_mem _ hx, h1, h2, fun s hs k1 k2 => ?_⟩
          rcases List.mem_cons.1 hs with rfl | hs
          · omega
          · exact h3 s hs k1 k2
      · rcases (has_cons _ _ _).1 hm with g | g
        · refine ⟨a, by simp, g.1, g.2, fun s hs k1 k2 => ?_⟩
          rcases List.mem_cons.1 hs with rfl | hs
          · omega
          · exact absurd ⟨s, hs, k1, k2⟩ hq
        · exact absurd g hq
  obtain ⟨x, hx, h1, h2, h3⟩ := key l ((cov_has l t).1 h)
  refine ⟨x, hx, h1, ?_⟩
  unfold cov
  refine List.countP_mono_left fun s hs hin => ?_
  simp only [inSpB, Bool.and_eq_true, decide_eq_true_eq] at hin ⊢
  have := h3 s hs hin.1 hin.2
  omega
theorem busyF_eq {l : List SpanD} (h : ∀ s ∈ l, SpanOk s) : busyF l l = ((busyT l : Int), (busyN l : Int)) := by
  obtain ⟨h1, h2⟩ := busyF_inv l l.length l rfl h
  have hall : ∀ t : Int, (cov l t : Int) ≤ (busyF l l).2 := fun t => by
    by_cases h0 : 0 < cov l t
    · obtain ⟨x, hx, _, hc⟩ := cov_from l t h0
      have := (h2 x hx).1; omega
    · rcases h1 with g | ⟨_, _, _, _, g⟩
      · rw [g]; show _ ≤ (0 : Int); omega
      · omega
  rcases h1 with g | ⟨x, hx, g1, g2, g3⟩
  · have hz : ∀ t : Int, cov l t = 0 := fun t => by have := hall t; rw [g] at this; have : (cov l t : Int) ≤ 0 := this; omega
    have e : busyT l = 0 := bestF_uniq _ _ _ (by omega) (fun j _ => by unfold covN; rw [hz, hz]; exact Nat.le_refl _) (fun j hj => by omega)
    rw [g, busyN, e, covN, hz]; rfl
  · have hok := h x hx
    unfold SpanOk TimeOk at hok
    have hxn : ((x.1.toNat : Nat) : Int) = x.1 := by omega
    have e : busyT l = x.1.toNat := by
      refine bestF_uniq _ _ _ (by omega) (fun j _ => ?_) (fun j hj => ?_)
      · have := hall (j : Int); unfold covN; rw [hxn]; omega
      · unfold covN; rw [hxn]
        by_cases hlt : cov l (j : Int) < cov l x.1
        · exact hlt
        · exfalso
          obtain ⟨y, hy, k1, k2⟩ := cov_from l (j : Int) (by omega)
          have := h2 y hy
          have := this.2 (by omega)
          omega
    refine Prod.ext ?_ ?_
    · show _ = ((busyT l : Nat) : Int); rw [g1, e, hxn]
    · show _ = ((busyN l : Nat) : Int); rw [g2, busyN, e, covN, hxn]
end Go.Proofs.Ytehpeifaknbcnaa
