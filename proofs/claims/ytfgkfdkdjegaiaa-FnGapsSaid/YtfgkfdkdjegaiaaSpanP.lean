/-
  PLAIN WORDS of chapter 4, of no program: spans of times, what they contain, the fewest spans of some times, the most contained time.
-/
import Derived.WalkKit
namespace Go.Proofs.Ytfgkfdkdjegaiaa
set_option linter.unusedVariables false

/-- a span by its two times -/
abbrev SpanD := Int × Int
def TimeOk (t : Int) : Prop := 0 ≤ t ∧ t ≤ 1799
instance (t : Int) : Decidable (TimeOk t) := by unfold TimeOk; infer_instance
def timeB (t : Int) : Bool := decide (TimeOk t)
theorem timeB_yes {t : Int} (h : TimeOk t) : timeB t = true := decide_eq_true h
theorem timeB_no {t : Int} (h : ¬ TimeOk t) : timeB t = false := decide_eq_false h
def SpanOk (s : SpanD) : Prop := TimeOk s.1 ∧ TimeOk s.2 ∧ s.1 ≤ s.2
instance (s : SpanD) : Decidable (SpanOk s) := by unfold SpanOk; infer_instance
def spanB (s : SpanD) : Bool := decide (SpanOk s)
theorem spanB_yes {s : SpanD} (h : SpanOk s) : spanB s = true := decide_eq_true h
theorem spanB_no {s : SpanD} (h : ¬ SpanOk s) : spanB s = false := decide_eq_false h
def SpansOk (l : List SpanD) : Prop := l.length ≤ 20 ∧ ∀ s ∈ l, SpanOk s
instance (l : List SpanD) : Decidable (SpansOk l) := by unfold SpansOk; infer_instance
def spansB (l : List SpanD) : Bool := decide (SpansOk l)
theorem spansB_yes {l : List SpanD} (h : SpansOk l) : spansB l = true := decide_eq_true h
theorem spansB_no {l : List SpanD} (h : ¬ SpansOk l) : spansB l = false := decide_eq_false h

/-! what spans contain -/
def inSpB (t : Int) (s : SpanD) : Bool := decide (s.1 ≤ t) && decide (t < s.2)
def cov (l : List SpanD) (t : Int) : Nat := l.countP (inSpB t)
def Has (l : List SpanD) (t : Int) : Prop := ∃ s ∈ l, s.1 ≤ t ∧ t < s.2
theorem cov_has (l : List SpanD) (t : Int) : 0 < cov l t ↔ Has l t := by
  unfold cov Has; rw [List.countP_pos_iff]
  constructor
  · rintro ⟨s, hs, h⟩; simp [inSpB] at h; exact ⟨s, hs, h⟩
  · rintro ⟨s, hs, h⟩; exact ⟨s, hs, by simp [inSpB, h]⟩
theorem cov_le (l : List SpanD) (t : Int) : cov l t ≤ l.length := List.countP_le_length
theorem cov_append (l m : List SpanD) (t : Int) : cov (l ++ m) t = cov l t + cov m t := List.countP_append
theorem cov_one (s : SpanD) (t : Int) : cov [s] t = if s.1 ≤ t ∧ t < s.2 then 1 else 0 := by
  unfold cov inSpB; by_cases h1 : s.1 ≤ t <;> by_cases h2 : t < s.2 <;> simp [h1, h2]
theorem cov_out {l : List SpanD} (h : ∀ s ∈ l, SpanOk s) {t : Int} (ht : t < 0 ∨ 1799 ≤ t) : cov l t = 0 := by
  by_cases h0 : 0 < cov l t
  · obtain ⟨s, hs, h1, h2⟩ := (cov_has l t).1 h0
    have := h s hs; unfold SpanOk TimeOk at this; omega
  · omega

/-! the fewest spans of some times -/
structure Canon (P : Int → Prop) (l : List SpanD) : Prop where
  pos : ∀ s ∈ l, s.1 < s.2
  apart : l.Pairwise (fun a b => a.2 < b.1)
  has : ∀ t, P t ↔ Has l t
theorem Canon.congr {P Q : Int → Prop} {l : List SpanD} (h : Canon P l) (e : ∀ t, P t ↔ Q t) : Canon Q l := ⟨h.pos, h.apart, fun t => (e t).symm.trans (h.has t)⟩
theorem has_cons (a : SpanD) (l : List SpanD) (t : Int) : Has (a :: l) t ↔ (a.1 ≤ t ∧ t < a.2) ∨ Has l t := by
  unfold Has; simp
theorem has_append (l m : List SpanD) (t : Int) : Has (l ++ m) t ↔ Has l t ∨ Has m t := by
  unfold Has; constructor
  · rintro ⟨s, hs, h⟩; rcases List.mem_append.1 hs with g | g
    · exact .inl ⟨s, g, h⟩
    · exact .inr ⟨s, g, h⟩
  · rintro (⟨s, hs, h⟩ | ⟨s, hs, h⟩)
    · exact ⟨s, List.mem_append.2 (.inl hs), h⟩
    · exact ⟨s, List.mem_append.2 (.inr hs), h⟩
theorem has_one (a : SpanD) (t : Int) : Has [a] t ↔ a.1 ≤ t ∧ t < a.2 := by unfold Has; simp
theorem has_nil (t : Int) : ¬ Has [] t := by unfold Has; simp
theorem Canon.nil {P : Int → Prop} (h : ∀ t, ¬ P t) : Canon P [] := ⟨by simp, by simp, fun t => ⟨fun g => absurd g (h t), fun g => absurd g (has_nil t)⟩⟩

theorem Canon.uniq : ∀ {l m : List SpanD} {P : Int → Prop}, Canon P l → Canon P m → l = m := by
  intro l
  induction l with
  | nil =>
    intro m P h k
    cases m with
    | nil => rfl
    | cons b bs =>
      have hb := k.pos b (List.mem_cons_self ..)
      exact absurd ((h.has b.1).1 ((k.has b.1).2 ⟨b, List.mem_cons_self .., Int.le_refl _, hb⟩)) (has_nil _)
  | cons a al' ih =>
    intro m P h k
    cases m with
    | nil =>
      have hb := h.pos a (List.mem_cons_self ..)
      exact absurd ((k.has a.1).1 ((h.has a.1).2 ⟨a, List.mem_cons_self .., Int.le_refl _, hb⟩)) (has_nil _)
    | cons b bs =>
      have ha := h.pos a (List.mem_cons_self ..)
      have hb := k.pos b (List.mem_cons_self ..)
      have hap := List.pairwise_cons.1 h.apart
      have kap := List.pairwise_cons.1 k.apart
      have e1 : a.1 = b.1 := by
        have h1 : b.1 ≤ a.1 := by
          obtain ⟨s, hs, g1, g2⟩ := (k.has a.1).1 ((h.has a.1).2 ⟨a, List.mem_cons_self .., Int.le_refl _, ha⟩)
          rcases List.mem_cons.1 hs with rfl | hs
          · exact g1
          · have := kap.1 s hs; omega
        have h2 : a.1 ≤ b.1 := by
          obtain ⟨s, hs, g1, g2⟩ := (h.has b.1).1 ((k.has b.1).2 ⟨b, List.mem_cons_self .., Int.le_refl _, hb⟩)
          rcases List.mem_cons.1 hs with rfl | hs
          · exact g1
          · have := hap.1 s hs; omega
        omega
      have e2 : a.2 = b.2 := by
        have h1 : ¬ a.2 < b.2 := fun hlt => by
          obtain ⟨s, hs, g1, g2⟩ := (h.has a.2).1 ((k.has a.2).2 ⟨b, List.mem_cons_self .., by omega, hlt⟩)
          rcases List.mem_cons.1 hs with rfl | hs
          · omega
          · have := hap.1 s hs; omega
        have h2 : ¬ b.2 < a.2 := fun hlt => by
          obtain ⟨s, hs, g1, g2⟩ := (k.has b.2).1 ((h.has b.2).2 ⟨a, List.mem_cons_self .., by omega, hlt⟩)
          rcases List.mem_cons.1 hs with rfl | hs
          · omega
          · have := kap.1 s hs; omega
        omega
      have eab : a = b := Prod.ext e1 e2
      subst eab
      have tail : ∀ {q : List SpanD}, Canon P (a :: q) → Canon (fun t => P t ∧ a.2 ≤ t) q := fun {q} hq => by
        have qap := List.pairwise_cons.1 hq.apart
        refine ⟨fun s hs => hq.pos s (List.mem_cons_of_mem _ hs), qap.2, fun t => ⟨fun ⟨hp, hle⟩ => ?_, fun ⟨s, hs, g1, g2⟩ => ⟨(hq.has t).2 ⟨s, List.mem_cons_of_mem _ hs, g1, g2⟩, ?_⟩⟩⟩
        · rcases (has_cons _ _ _).1 ((hq.has t).1 hp) with g | g
          · omega
          · exact g
        · have := qap.1 s hs; omega
      rw [ih (tail h) (tail k)]

theorem Canon.push {P : Int → Prop} {l : List SpanD} (h : Canon P l) {a b : Int} (hl : ∀ s ∈ l, s.2 < a) (hab : a < b) : Canon (fun t => P t ∨ (a ≤ t ∧ t < b)) (l ++ [(a, b)]) := by
  refine ⟨fun s hs => ?_, List.pairwise_append.2 ⟨h.apart, by simp, fun s hs q hq => ?_⟩, fun t => ?_⟩
  · rcases List.mem_append.1 hs with g | g
    · exact h.pos s g
    · have : s = (a, b) := by simpa using g
      subst this; exact hab
  · have : q = (a, b) := by simpa using hq
    subst this; exact hl s hs
  · rw [has_append, has_one, h.has t]
theorem Canon.grow {P : Int → Prop} {l : List SpanD} {x : SpanD} (h : Canon P (l ++ [x])) {b : Int} (hb : x.2 ≤ b) : Canon (fun t => P t ∨ (x.2 ≤ t ∧ t < b)) (l ++ [(x.1, b)]) := by
  have hx := h.pos x (List.mem_append.2 (.inr (by simp)))
  obtain ⟨p1, p2, p3⟩ := List.pairwise_append.1 h.apart
  refine ⟨fun s hs => ?_, List.pairwise_append.2 ⟨p1, by simp, fun s hs q hq => ?_⟩, fun t => ?_⟩
  · rcases List.mem_append.1 hs with g | g
    · exact h.pos s (List.mem_append.2 (.inl g))
    · have : s = (x.1, b) := by simpa using g
      subst this; show x.1 < b; omega
  · have : q = (x.1, b) := by simpa using hq
    subst this; exact p3 s hs x (by simp)
  · rw [has_append, has_one, h.has t, has_append, has_one]
    show _ ↔ _ ∨ (x.1 ≤ t ∧ t < b)
    constructor
    · rintro ((g | g) | g)
      · exact .inl g
      · exact .inr (by omega)
      · exact .inr (by omega)
    · rintro (g | g)
      · exact .inl (.inl g)
      · by_cases h2 : t < x.2
        · exact .inl (.inr (by omega))
        · exact .inr (by omega)

/-! the model's runs: time by time -/
def lastOf (l : List SpanD) : SpanD := l.getD (l.length - 1) (0, 0)
theorem lastOf_append (l : List SpanD) (x : SpanD) : lastOf (l ++ [x]) = x := by unfold lastOf; simp
theorem set_last (l : List SpanD) (x y : SpanD) : (l ++ [x]).set ((l ++ [x]).length - 1) y = l ++ [y] := by simp
def runStep (out : List SpanD) (t : Int) : List SpanD := if 0 < out.length ∧ (lastOf out).2 = t then out.set (out.length - 1) ((lastOf out).1, t + 1) else out ++ [(t, t + 1)]
def runsF (P : Int → Bool) (lo : Int) : Nat → List SpanD
  | 0 => []
  | n + 1 => if P (lo + n) then runStep (runsF P lo n) (lo + n) else runsF P lo n
theorem last_cases (l : List SpanD) : l = [] ∨ ∃ i x, l = i ++ [x] := by
  rcases List.eq_nil_or_concat l with h | ⟨i, x, h⟩
  · exact .inl h
  · exact .inr ⟨i, x, by simpa using h⟩
theorem runStep_one (t : Int) : runStep [] t = [(t, t + 1)] := by simp [runStep]
theorem runStep_grow (l : List SpanD) (x : SpanD) : runStep (l ++ [x]) x.2 = l ++ [(x.1, x.2 + 1)] := by
  unfold runStep; rw [if_pos ⟨by simp, by rw [lastOf_append]⟩, lastOf_append, set_last]
theorem runStep_push (l : List SpanD) (x : SpanD) (t : Int) (h : x.2 ≠ t) : runStep (l ++ [x]) t = l ++ [x] ++ [(t, t + 1)] := by
  unfold runStep; rw [if_neg (fun g => h (by have := g.2; rwa [lastOf_append] at this))]
theorem Canon.run {Q : Int → Prop} {l : List SpanD} {T : Int} (h : Canon Q l) (hT : ∀ t, Q t → t < T) : Canon (fun t => Q t ∨ t = T) (runStep l T) := by
  have hle : ∀ s ∈ l, s.2 ≤ T := fun s hs => by
    have := h.pos s hs
    have := hT (s.2 - 1) ((h.has _).2 ⟨s, hs, by omega, by omega⟩); omega
  rcases last_cases l with rfl | ⟨i, x, rfl⟩
  · rw [runStep_one]
    exact (h.push (a := T) (b := T + 1) (by simp) (by omega)).congr fun t => by constructor <;> (rintro (g | g); exact .inl g; exact .inr (by omega))
  · by_cases he : x.2 = T
    · subst he; rw [runStep_grow]
      exact (h.grow (b := x.2 + 1) (by omega)).congr fun t => by constructor <;> (rintro (g | g); exact .inl g; exact .inr (by omega))
    · rw [runStep_push _ _ _ he]
      refine (h.push (a := T) (b := T + 1) (fun s hs => ?_) (by omega)).congr fun t => by constructor <;> (rintro (g | g); exact .inl g; exact .inr (by omega))
      have hx := hle x (by simp)
      rcases List.mem_append.1 hs with g | g
      · have := (List.pairwise_append.1 h.apart).2.2 s g x (by simp)
        have := h.pos x (by simp); omega
      · have : s = x := by simpa using g
        subst this; omega
theorem runsF_canon (P : Int → Bool) (lo : Int) : ∀ n : Nat, Canon (fun t => lo ≤ t ∧ t < lo + n ∧ P t = true) (runsF P lo n)
  | 0 => Canon.nil fun t h => by have := h.2.1; have := h.1; simp at *; omega
  | n + 1 => by
    have ih := runsF_canon P lo n
    simp only [runsF]
    by_cases hp : P (lo + n) = true
    · rw [if_pos hp]
      refine (ih.run (T := lo + n) (fun t h => h.2.1)).congr fun t => ?_
      constructor
      · rintro (⟨h1, h2, h3⟩ | rfl)
        · exact ⟨h1, by omega, h3⟩
        · exact ⟨by omega, by omega, hp⟩
      · rintro ⟨h1, h2, h3⟩
        by_cases e : t = lo + n
        · exact .inr e
        · exact .inl ⟨h1, by omega, h3⟩
    · rw [if_neg hp]
      refine ih.congr fun t => ?_
      constructor
      · rintro ⟨h1, h2, h3⟩; exact ⟨h1, by omega, h3⟩
      · rintro ⟨h1, h2, h3⟩
        by_cases e : t = lo + n
        · subst e; exact absurd h3 hp
        · exact ⟨h1, by omega, h3⟩
theorem runStep_len (l : List SpanD) (t : Int) : (runStep l t).length ≤ l.length + 1 := by unfold runStep; split <;> simp
theorem runsF_len (P : Int → Bool) (lo : Int) : ∀ n, (runsF P lo n).length ≤ n
  | 0 => Nat.le_refl _
  | n + 1 => by
    simp only [runsF]; have := runsF_len P lo n
    split
    · have := runStep_len (runsF P lo n) (lo + n); omega
    · omega

/-! the program's merge: over the spans in the order of their beginnings -/
def mergeStep (acc : List SpanD) (x : SpanD) : List SpanD :=
  if x.1 = x.2 then acc else if 0 < acc.length ∧ x.1 ≤ (lastOf acc).2 then acc.set (acc.length - 1) ((lastOf acc).1, max (lastOf acc).2 x.2) else acc ++ [x]
def mergeF (l : List SpanD) : List SpanD := l.foldl mergeStep []
theorem mergeF_snoc (l : List SpanD) (x : SpanD) : mergeF (l ++ [x]) = mergeStep (mergeF l) x := by simp [mergeF]
theorem mergeF_take (l : List SpanD) (k : Nat) (h : k < l.length) : mergeF (l.take (k + 1)) = mergeStep (mergeF (l.take k)) l[k] := by
  rw [List.take_succ_eq_append_getElem h, mergeF_snoc]
theorem mergeStep_len (l : List SpanD) (x : SpanD) : (mergeStep l x).length ≤ l.length + 1 := by unfold mergeStep; split; omega; split <;> simp
theorem mergeF_canon : ∀ (n : Nat) (l : List SpanD), l.length = n → l.Pairwise (fun a b => a.1 ≤ b.1) → (∀ s ∈ l, s.1 ≤ s.2) → Canon (Has l) (mergeF l) ∧ (∀ s ∈ mergeF l, ∃ y ∈ l, s.1 = y.1) ∧ (mergeF l).length ≤ n
  | 0, l, hl, _, _ => by
    have : l = [] := List.length_eq_zero_iff.1 hl
    subst this; exact ⟨Canon.nil fun t => has_nil t, by simp [mergeF], by simp [mergeF]⟩
  | n + 1, l, hl, hp, hs => by
    rcases last_cases l with rfl | ⟨i, x, rfl⟩
    · simp at hl
    obtain ⟨p1, p2, p3⟩ := List.pairwise_append.1 hp
    obtain ⟨c, hf, hn⟩ := mergeF_canon n i (by simpa using hl) p1 (fun s h => hs s (List.mem_append.2 (.inl h)))
    have hx := hs x (by simp)
    have hle : ∀ s ∈ mergeF i, s.1 ≤ x.1 := fun s h => by obtain ⟨y, hy, e⟩ := hf s h; rw [e]; exact p3 y hy x (by simp)
    rw [mergeF_snoc]
    refine ⟨?_, ?_, by have := mergeStep_len (mergeF i) x; omega⟩
    · unfold mergeStep
      by_cases he : x.1 = x.2
      · rw [if_pos he]
        exact c.congr fun t => by rw [has_append, has_one]; constructor
                                  · exact .inl
                                  · rintro (g | g); exact g; omega
      rw [if_neg he]
      rcases last_cases (mergeF i) with e | ⟨j, y, e⟩
      · rw [e] at c ⊢
        simp only [List.length_nil, Nat.lt_irrefl, false_and, if_false]
        exact (c.push (a := x.1) (b := x.2) (by simp) (by omega)).congr fun t => by rw [has_append, has_one]
      · rw [e] at c hle ⊢
        rw [lastOf_append]
        by_cases h2 : x.1 ≤ y.2
        · rw [if_pos ⟨by simp, h2⟩, set_last]
          refine (c.grow (b := max y.2 x.2) (by omega)).congr fun t => ?_
          rw [has_append, has_one]
          have hyx := hle y (by simp)
          constructor
          · rintro (g | g)
            · exact .inl g
            · exact .inr (by omega)
          · rintro (g | g)
            · exact .inl g
            · by_cases h3 : t < y.2
              · exact .inl ((c.has t).2 ⟨y, by simp, by omega, h3⟩)
              · exact .inr (by omega)
        · rw [if_neg (fun g => h2 g.2)]
          refine (c.push (a := x.1) (b := x.2) (fun s h => ?_) (by omega)).congr fun t => by rw [has_append, has_one]
          rcases List.mem_append.1 h with g | g
          · have := (List.pairwise_append.1 c.apart).2.2 s g y (by simp)
            have := c.pos y (by simp); omega
          · have : s = y := by simpa using g
            subst this; omega
    · intro s h
      unfold mergeStep at h
      split at h
      · obtain ⟨y, hy, e⟩ := hf s h; exact ⟨y, List.mem_append.2 (.inl hy), e⟩
      · split at h
        · rename_i hq
          rcases last_cases (mergeF i) with e | ⟨j, y, e⟩
          · rw [e] at hq; simp at hq
          · rw [e, lastOf_append, set_last] at h
            rcases List.mem_append.1 h with g | g
            · obtain ⟨z, hz, e'⟩ := hf s (by rw [e]; exact List.mem_append.2 (.inl g)); exact ⟨z, List.mem_append.2 (.inl hz), e'⟩
            · have : s = (y.1, max y.2 x.2) := by simpa using g
              subst this
              obtain ⟨z, hz, e'⟩ := hf y (by rw [e]; simp); exact ⟨z, List.mem_append.2 (.inl hz), e'⟩
        · rcases List.mem_append.1 h with g | g
          · obtain ⟨y, hy, e⟩ := hf s g; exact ⟨y, List.mem_append.2 (.inl hy), e⟩
          · have : s = x := by simpa using g
            subst this; exact ⟨s, by simp, rfl⟩

/-- the fewest spans of the times that some of the spans contain -/
def covB (l : List SpanD) (t : Int) : Bool := decide (0 < cov l t)
def mergedOf (l : List SpanD) : List SpanD := runsF (covB l) 0 1799
theorem mergedOf_canon {l : List SpanD} (h : ∀ s ∈ l, SpanOk s) : Canon (Has l) (mergedOf l) :=
  (runsF_canon (covB l) 0 1799).congr fun t => by
    constructor
    · rintro ⟨_, _, h3⟩; exact (cov_has l t).1 (by simpa [covB] using h3)
    · intro g
      have hg := (cov_has l t).2 g
      refine ⟨?_, ?_, by simp [covB, hg]⟩
      · by_cases h0 : 0 ≤ t
        · exact h0
        · rw [cov_out h (.inl (by omega))] at hg; omega
      · by_cases h0 : t < 1799
        · simpa using h0
        · rw [cov_out h (.inr (by omega))] at hg; omega
theorem mergeF_eq {l d : List SpanD} (h : ∀ s ∈ l, SpanOk s) (hp : ∀ s, s ∈ d ↔ s ∈ l) (hs : d.Pairwise (fun a b => a.1 ≤ b.1)) : mergeF d = mergedOf l := by
  have hd := mergeF_canon d.length d rfl hs (fun s hs => (h s ((hp s).1 hs)).2.2)
  refine hd.1.uniq ((mergedOf_canon h).congr fun t => ?_)
  unfold Has; constructor
  · rintro ⟨s, hs, g⟩; exact ⟨s, (hp s).2 hs, g⟩
  · rintro ⟨s, hs, g⟩; exact ⟨s, (hp s).1 hs, g⟩
theorem mergedOf_in {l : List SpanD} (h : ∀ s ∈ l, SpanOk s) : ∀ s ∈ mergedOf l, 0 ≤ s.1 ∧ s.1 < s.2 ∧ s.2 ≤ 1799 := fun s hs => by
  have c := mergedOf_canon h
  have hp := c.pos s hs
  obtain ⟨a, ha, h1, h2⟩ := (c.has s.1).2 ⟨s, hs, by omega, hp⟩
  obtain ⟨b, hb, h3, h4⟩ := (c.has (s.2 - 1)).2 ⟨s, hs, by omega, by omega⟩
  have := h a ha; have := h b hb; unfold SpanOk TimeOk at *; omega

/-! the free times -/
def common (a b : SpanD) : SpanD := if min a.2 b.2 ≤ max a.1 b.1 then (0, 0) else (max a.1 b.1, min a.2 b.2)
/-- where the last span ends, and the gaps so far -/
def freeStep (w : SpanD) (q : Int × List SpanD) (x : SpanD) : Int × List SpanD := (x.2, if common (q.1, x.1) w = (0, 0) then q.2 else q.2 ++ [common (q.1, x.1) w])
def freeF (w : SpanD) (m : List SpanD) : Int × List SpanD := m.foldl (freeStep w) (0, [])
theorem freeF_snoc (w : SpanD) (l : List SpanD) (x : SpanD) : freeF w (l ++ [x]) = freeStep w (freeF w l) x := by simp [freeF]
theorem freeF_take (w : SpanD) (l : List SpanD) (k : Nat) (h : k < l.length) : freeF w (l.take (k + 1)) = freeStep w (freeF w (l.take k)) l[k] := by
  rw [List.take_succ_eq_append_getElem h, freeF_snoc]
def freeOf (l : List SpanD) (w : SpanD) : List SpanD := runsF (fun t => !covB l t) w.1 (w.2 - w.1).toNat
theorem common_zero {a b : SpanD} (h0 : 0 ≤ a.1) (h : ¬ min a.2 b.2 ≤ max a.1 b.1) : common a b ≠ (0, 0) := fun e => by
  unfold common at e; rw [if_neg h] at e
  have h1 := congrArg Prod.fst e; have h2 := congrArg Prod.snd e
  simp only at h1 h2; omega
theorem freeStep_canon {w : SpanD} {f : Int} {fr : List SpanD} {P : Int → Prop} {x : SpanD} (h0 : 0 ≤ f) (c : Canon P fr) (hl : ∀ s ∈ fr, s.2 < max f w.1) :
    Canon (fun t => P t ∨ (f ≤ t ∧ t < x.1 ∧ w.1 ≤ t ∧ t < w.2)) (freeStep w (f, fr) x).2 ∧ ((∀ s ∈ fr, s.2 < x.2) → x.1 < x.2 → ∀ s ∈ (freeStep w (f, fr) x).2, s.2 < x.2) := by
  unfold freeStep
  by_cases hc : min x.1 w.2 ≤ max f w.1
  · have e : common (f, x.1) w = (0, 0) := by unfold common; rw [if_pos hc]
    simp only [e, if_true]
    exact ⟨c.congr fun t => ⟨.inl, by rintro (g | g); exact g; omega⟩, fun h _ => h⟩
  · have e := common_zero (a := (f, x.1)) (b := w) h0 hc
    simp only [if_neg e]
    have e2 : common (f, x.1) w = (max f w.1, min x.1 w.2) := by unfold common; rw [if_neg hc]
    rw [e2]
    refine ⟨(c.push hl (by omega)).congr fun t => ?_, fun h hx s hs => ?_⟩
    · constructor
      · rintro (g | g); exact .inl g; exact .inr (by omega)
      · rintro (g | g); exact .inl g; exact .inr (by omega)
    · rcases List.mem_append.1 hs with g | g
      · exact h s g
      · have : s = (max f w.1, min x.1 w.2) := by simpa using g
        subst this; show min x.1 w.2 < x.2; omega
theorem freeF_canon (w : SpanD) : ∀ (n : Nat) (m : List SpanD), m.length = n → (∀ s ∈ m, 0 ≤ s.1 ∧ s.1 < s.2) → m.Pairwise (fun a b => a.2 < b.1) →
    0 ≤ (freeF w m).1 ∧ (∀ s ∈ m, s.2 ≤ (freeF w m).1) ∧ ((freeF w m).1 = 0 ∨ ∃ s ∈ m, s.2 = (freeF w m).1) ∧ Canon (fun t => t < (freeF w m).1 ∧ 0 ≤ t ∧ w.1 ≤ t ∧ t < w.2 ∧ ¬ Has m t) (freeF w m).2 ∧ (∀ s ∈ (freeF w m).2, s.2 < (freeF w m).1)
  | 0, m, hl, _, _ => by
    have : m = [] := List.length_eq_zero_iff.1 hl
    subst this
    simp only [freeF, List.foldl_nil]
    exact ⟨by omega, by simp, by simp, Canon.nil fun t h => by omega, by simp⟩
  | n + 1, m, hl, hs, hp => by
    rcases last_cases m with rfl | ⟨i, x, rfl⟩
    · simp at hl
    obtain ⟨p1, p2, p3⟩ := List.pairwise_append.1 hp
    obtain ⟨f0, f1, f2, f3, f4⟩ := freeF_canon w n i (by simpa using hl) (fun s h => hs s (List.mem_append.2 (.inl h))) p1
    have hx := hs x (by simp)
    rw [freeF_snoc]
    have hfx : (freeF w i).1 ≤ x.1 := by
      rcases f2 with e | ⟨s, hs', e⟩
      · omega
      · have := p3 s hs' x (by simp); omega
    obtain ⟨g1, g2⟩ := freeStep_canon (w := w) (x := x) f0 f3 (fun s h => by have := f4 s h; omega)
    have g3 := g2 (fun s h => by have := f4 s h; omega) hx.2
    refine ⟨?_, ?_, .inr ⟨x, by simp, rfl⟩, g1.congr fun t => ?_, g3⟩
    · show 0 ≤ x.2; omega
    · intro s h
      show s.2 ≤ x.2
      rcases List.mem_append.1 h with g | g
      · have := p3 s g x (by simp); omega
      · have : s = x := by simpa using g
        subst this; omega
    · show _ ↔ t < x.2 ∧ _
      rw [has_append, has_one]
      constructor
      · rintro (⟨a1, a2, a3, a4, a5⟩ | ⟨a1, a2, a3, a4⟩)
        · exact ⟨by omega, a2, a3, a4, by rintro (g | g); exact a5 g; omega⟩
        · refine ⟨by omega, by omega, a3, a4, ?_⟩
          rintro (⟨s, hs', b1, b2⟩ | g)
          · have := f1 s hs'; omega
          · omega
      · rintro ⟨a1, a2, a3, a4, a5⟩
        by_cases hq : t < (freeF w i).1
        · exact .inl ⟨hq, a2, a3, a4, fun g => a5 (.inl g)⟩
        · refine .inr ⟨by omega, ?_, a3, a4⟩
          by_cases hq2 : t < x.1
          · exact hq2
          · exact absurd (.inr ⟨by omega, a1⟩) a5
theorem freeF_eq {l : List SpanD} {w : SpanD} (h : ∀ s ∈ l, SpanOk s) (hw : SpanOk w) : (freeF w (mergedOf l ++ [(1799, 1799)])).2 = freeOf l w := by
  have c := mergedOf_canon h
  have hin := mergedOf_in h
  obtain ⟨f0, f1, f2, f3, f4⟩ := freeF_canon w _ (mergedOf l) rfl (fun s hs => by have := hin s hs; omega) c.apart
  rw [freeF_snoc]
  obtain ⟨g1, _⟩ := freeStep_canon (w := w) (x := (1799, 1799)) f0 f3 (fun s h => by have := f4 s h; omega)
  unfold SpanOk TimeOk at hw
  refine g1.uniq ((runsF_canon (fun t => !covB l t) w.1 (w.2 - w.1).toNat).congr fun t => ?_)
  have hb : ((!covB l t) = true) ↔ ¬ Has (mergedOf l) t := by
    rw [← c.has t, ← cov_has]; simp [covB]
  rw [hb]
  constructor
  · rintro ⟨a1, a2, a3⟩
    by_cases hq : t < (freeF w (mergedOf l)).1
    · exact .inl ⟨hq, by omega, a1, by omega, a3⟩
    · exact .inr ⟨by omega, by show t < 1799; omega, a1, by omega⟩
  · rintro (⟨a1, a2, a3, a4, a5⟩ | ⟨a1, a2, a3, a4⟩)
    · exact ⟨a3, by omega, a5⟩
    · exact ⟨a3, by omega, fun ⟨s, hs, b1, b2⟩ => by have := f1 s hs; omega⟩

/-! the number of times -/
def sumLen (l : List SpanD) : Int := (l.map fun s => s.2 - s.1).sum
theorem sumLen_append (l m : List SpanD) : sumLen (l ++ m) = sumLen l + sumLen m := by simp [sumLen]
theorem sumLen_one (x : SpanD) : sumLen [x] = x.2 - x.1 := by simp [sumLen]
theorem sumLen_take (l : List SpanD) (k : Nat) (h : k < l.length) : sumLen (l.take (k + 1)) = sumLen (l.take k) + (l[k].2 - l[k].1) := by
  rw [List.take_succ_eq_append_getElem h, sumLen_append, sumLen_one]
def totF (P : Int → Bool) : Nat → Nat
  | 0 => 0
  | n + 1 => if P (n : Int) then totF P n + 1 else totF P n
theorem totF_le (P : Int → Bool) : ∀ n, totF P n ≤ n
  | 0 => Nat.le_refl _
  | n + 1 => by simp only [totF]; have := totF_le P n; split <;> omega
theorem sumLen_run (l : List SpanD) (t : Int) : sumLen (runStep l t) = sumLen l + 1 := by
  rcases last_cases l with rfl | ⟨i, x, rfl⟩
  · rw [runStep_one, sumLen_one]; simp [sumLen]; omega
  · by_cases he : x.2 = t
    · subst he; rw [runStep_grow, sumLen_append, sumLen_append, sumLen_one, sumLen_one]; simp only; omega
    · rw [runStep_push _ _ _ he, sumLen_append (i ++ [x]), sumLen_one]; simp only; omega
theorem sumLen_runs (P : Int → Bool) : ∀ n : Nat, sumLen (runsF P 0 n) = (totF P n : Int)
  | 0 => by simp [runsF, sumLen, totF]
  | n + 1 => by
    have := sumLen_runs P n
    simp only [runsF, totF, Int.zero_add]
    split
    · rw [sumLen_run]; omega
    · exact this
def totalOf (l : List SpanD) : Nat := totF (covB l) 1800
theorem totalOf_eq {l : List SpanD} (h : ∀ s ∈ l, SpanOk s) : (totalOf l : Int) = sumLen (mergedOf l) := by
  unfold totalOf mergedOf
  rw [sumLen_runs]
  have hz : covB l ((1799 : Nat) : Int) = false := by unfold covB; rw [cov_out h (.inr (by simp))]; simp
  have step : ∀ n : Nat, covB l (n : Int) = false → totF (covB l) (n + 1) = totF (covB l) n := fun n hn => by rw [totF, hn]; simp
  rw [← step 1799 hz]

/-! the most contained time -/
def bestF (c : Nat → Nat) : Nat → Nat
  | 0 => 0
  | n + 1 => if c (bestF c n) < c (n + 1) then n + 1 else bestF c n
theorem bestF_spec (c : Nat → Nat) : ∀ n, bestF c n ≤ n ∧ (∀ j, j ≤ n → c j ≤ c (bestF c n)) ∧ ∀ j, j < bestF c n → c j < c (bestF c n)
  | 0 => ⟨Nat.le_refl _, fun j h => by have : j = 0 := by omega
                                       subst this; exact Nat.le_refl _, fun j h => by simp [bestF] at h⟩
  | n + 1 => by
    obtain ⟨h1, h2, h3⟩ := bestF_spec c n
    simp only [bestF]
    split
    · rename_i hc
      refine ⟨Nat.le_refl _, fun j hj => ?_, fun j hj => ?_⟩
      · by_cases e : j = n + 1
        · rw [e]; exact Nat.le_refl _
        · have := h2 j (by omega); omega
      · have := h2 j (by omega); omega
    · rename_i hc
      refine ⟨by omega, fun j hj => ?_, h3⟩
      by_cases e : j = n + 1
      · rw [e]; omega
      · exact h2 j (by omega)
theorem bestF_uniq (c : Nat → Nat) (n b : Nat) (hb : b ≤ n) (h1 : ∀ j, j ≤ n → c j ≤ c b) (h2 : ∀ j, j < b → c j < c b) : bestF c n = b := by
  obtain ⟨g1, g2, g3⟩ := bestF_spec c n
  have e1 := h1 _ g1
  have e2 := g2 b hb
  by_cases hlt : bestF c n < b
  · have := h2 _ hlt; omega
  · by_cases hgt : b < bestF c n
    · have := g3 _ hgt; omega
    · omega
def covN (l : List SpanD) (t : Nat) : Nat := cov l (t : Int)
def busyT (l : List SpanD) : Nat := bestF (covN l) 1799
def busyN (l : List SpanD) : Nat := covN l (busyT l)
theorem busyT_le (l : List SpanD) : busyT l ≤ 1799 := (bestF_spec _ _).1

def busyStep (l : List SpanD) (q : Int × Int) (x : SpanD) : Int × Int := if q.2 < (cov l x.1 : Int) ∨ ((cov l x.1 : Int) = q.2 ∧ x.1 < q.1) then (x.1, (cov l x.1 : Int)) else q
def busyF (l p : List SpanD) : Int × Int := p.foldl (busyStep l) (0, 0)
theorem busyF_take (l p : List SpanD) (k : Nat) (h : k < p.length) : busyF l (p.take (k + 1)) = busyStep l (busyF l (p.take k)) p[k] := by
  unfold busyF; rw [List.take_succ_eq_append_getElem h, List.foldl_append]; rfl
theorem busyF_inv (l : List SpanD) : ∀ (n : Nat) (p : List SpanD), p.length = n → (∀ s ∈ p, SpanOk s) →
    ((busyF l p = (0, 0)) ∨ (∃ x ∈ p, (busyF l p).1 = x.1 ∧ (busyF l p).2 = (cov l x.1 : Int) ∧ 0 < (busyF l p).2)) ∧ ∀ x ∈ p, (cov l x.1 : Int) ≤ (busyF l p).2 ∧ ((cov l x.1 : Int) = (busyF l p).2 → (busyF l p).1 ≤ x.1)
  | 0, p, hl, _ => by
    have : p = [] := List.length_eq_zero_iff.1 hl
    subst this; exact ⟨.inl rfl, by simp⟩
  | n + 1, p, hl, hs => by
    rcases last_cases p with rfl | ⟨i, x, rfl⟩
    · simp at hl
    obtain ⟨h1, h2⟩ := busyF_inv l n i (by simpa using hl) (fun s h => hs s (List.mem_append.2 (.inl h)))
    have e : busyF l (i ++ [x]) = busyStep l (busyF l i) x := by simp [busyF]
    have hx := hs x (by simp)
    unfold SpanOk TimeOk at hx
    rw [e]
    have hnn : 0 ≤ (busyF l i).2 ∧ ((busyF l i).2 = 0 → (busyF l i).1 = 0) := by
      rcases h1 with g | ⟨y, _, _, _, g⟩
      · rw [g]; simp
      · omega
    generalize busyF l i = q at *
    unfold busyStep
    split
    · rename_i hc
      refine ⟨.inr ⟨x, by simp, rfl, rfl, ?_⟩, fun y hy => ?_⟩
      · show (0 : Int) < _; rcases hc with g | ⟨g1, g2⟩
        · omega
        · by_cases g3 : q.2 = 0
          · have := hnn.2 g3; omega
          · omega
      · show _ ≤ _ ∧ (_ → x.1 ≤ _)
        rcases List.mem_append.1 hy with g | g
        · have := h2 y g
          refine ⟨?_, fun g3 => ?_⟩
          · show (cov l y.1 : Int) ≤ (cov l x.1 : Int); omega
          · have g3' : (cov l y.1 : Int) = (cov l x.1 : Int) := g3
            rcases hc with k | ⟨k1, k2⟩
            · omega
            · have := this.2 (by omega); omega
        · have : y = x := by simpa using g
          subst this; exact ⟨Int.le_refl _, fun _ => Int.le_refl _⟩
    · rename_i hc
      refine ⟨?_, fun y hy => ?_⟩
      · rcases h1 with g | ⟨y, hy, g⟩
        · exact .inl g
        · exact .inr ⟨y, List.mem_append.2 (.inl hy), g⟩
      · rcases List.mem_append.1 hy with g | g
        · exact h2 y g
        · have : y = x := by simpa using g
          subst this; exact ⟨by omega, fun g3 => by omega⟩
/-- who contains a time: one of them begins last, and everyone that contains the time contains that beginning -/
theorem cov_from (l : List SpanD) (t : Int) (h : 0 < cov l t) : ∃ x ∈ l, x.1 ≤ t ∧ cov l t ≤ cov l x.1 := by
  have key : ∀ m : List SpanD, Has m t → ∃ x ∈ m, x.1 ≤ t ∧ t < x.2 ∧ ∀ s ∈ m, s.1 ≤ t → t < s.2 → s.1 ≤ x.1 := by
    intro m
    induction m with
    | nil => intro h; exact absurd h (has_nil _)
    | cons a m ih =>
      intro hm
      by_cases hq : Has m t
      · obtain ⟨x, hx, h1, h2, h3⟩ := ih hq
        by_cases hb : (a.1 ≤ t ∧ t < a.2) ∧ x.1 < a.1
        · refine ⟨a, by simp, hb.1.1, hb.1.2, fun s hs k1 k2 => ?_⟩
          rcases List.mem_cons.1 hs with rfl | hs
          · omega
          · have := h3 s hs k1 k2; omega
        · refine ⟨x, List.mem_cons_of_mem _ hx, h1, h2, fun s hs k1 k2 => ?_⟩
          rcases List.mem_cons.1 hs with rfl | hs
          · omega
          · exact h3 s hs k1 k2
      · rcases (has_cons _ _ _).1 hm with g | g
        · refine ⟨a, by simp, g.1, g.2, fun s hs k1 k2 => ?_⟩
          rcases List.mem_cons.1 hs with rfl | hs
          · omega
          · exact absurd ⟨s, hs, k1, k2⟩ hq
        · exact absurd g hq
  obtain ⟨x, hx, h1, h2, h3⟩ := key l ((cov_has l t).1 h)
  refine ⟨x, hx, h1, ?_⟩
  unfold cov
  refine List.countP_mono_left fun s hs hin => ?_
  simp only [inSpB, Bool.and_eq_true, decide_eq_true_eq] at hin ⊢
  have := h3 s hs hin.1 hin.2
  omega
theorem busyF_eq {l : List SpanD} (h : ∀ s ∈ l, SpanOk s) : busyF l l = ((busyT l : Int), (busyN l : Int)) := by
  obtain ⟨h1, h2⟩ := busyF_inv l l.length l rfl h
  have hall : ∀ t : Int, (cov l t : Int) ≤ (busyF l l).2 := fun t => by
    by_cases h0 : 0 < cov l t
    · obtain ⟨x, hx, _, hc⟩ := cov_from l t h0
      have := (h2 x hx).1; omega
    · rcases h1 with g | ⟨_, _, _, _, g⟩
      · rw [g]; show _ ≤ (0 : Int); omega
      · omega
  rcases h1 with g | ⟨x, hx, g1, g2, g3⟩
  · have hz : ∀ t : Int, cov l t = 0 := fun t => by have := hall t; rw [g] at this; have : (cov l t : Int) ≤ 0 := this; omega
    have e : busyT l = 0 := bestF_uniq _ _ _ (by omega) (fun j _ => by unfold covN; rw [hz, hz]; exact Nat.le_refl _) (fun j hj => by omega)
    rw [g, busyN, e, covN, hz]; rfl
  · have hok := h x hx
    unfold SpanOk TimeOk at hok
    have hxn : ((x.1.toNat : Nat) : Int) = x.1 := by omega
    have e : busyT l = x.1.toNat := by
      refine bestF_uniq _ _ _ (by omega) (fun j _ => ?_) (fun j hj => ?_)
      · have := hall (j : Int); unfold covN; rw [hxn]; omega
      · unfold covN; rw [hxn]
        by_cases hlt : cov l (j : Int) < cov l x.1
        · exact hlt
        · exfalso
          obtain ⟨y, hy, k1, k2⟩ := cov_from l (j : Int) (by omega)
          have := h2 y hy
          have := this.2 (by omega)
          omega
    refine Prod.ext ?_ ?_
    · show _ = ((busyT l : Nat) : Int); rw [g1, e, hxn]
    · show _ = ((busyN l : Nat) : Int); rw [g2, busyN, e, covN, hxn]
end Go.Proofs.Ytfgkfdkdjegaiaa
