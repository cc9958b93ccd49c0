import Derived.WalkKit
namespace Go.Proofs.Ytemejcbilhcebaa

structure CalD where
  frm : Int
  too : Int
  wd : Int
  added : List Int
  removed : List Int

def wdB (wd day : Int) : Bool := decide ((wd / 2 ^ (day % 7).toNat) % 2 = 1)

def RiseTo (l : List Int) (lo hi : Int) (k : Nat) : Prop := ∀ j (h : j < l.length), j < k → (lo ≤ l[j] ∧ l[j] ≤ hi) ∧ (0 < j → l[j - 1]'(by omega) < l[j])
def Rise (l : List Int) (lo hi : Int) : Prop := RiseTo l lo hi l.length
theorem riseTo_zero (l : List Int) (lo hi : Int) : RiseTo l lo hi 0 := fun j h hj => by omega
theorem riseTo_succ {l : List Int} {lo hi : Int} {k : Nat} (hk : k < l.length) (h : RiseTo l lo hi k) (h1 : lo ≤ l[k] ∧ l[k] ≤ hi) (h2 : 0 < k → l[k - 1]'(by omega) < l[k]) : RiseTo l lo hi (k + 1) := by
  intro j hj hjk
  by_cases e : j = k
  · subst e; exact ⟨h1, h2⟩
  · exact h j hj (by omega)
theorem rise_of {l : List Int} {lo hi : Int} {k : Nat} (hk : l.length ≤ k) (h : RiseTo l lo hi k) : Rise l lo hi := fun j hj hjk => h j hj (by omega)
instance (l : List Int) (lo hi : Int) : Decidable (Rise l lo hi) := by
  unfold Rise RiseTo
  have : (∀ j (h : j < l.length), j < l.length → (lo ≤ l[j] ∧ l[j] ≤ hi) ∧ (0 < j → l[j - 1]'(by omega) < l[j])) ↔ (∀ j (h : j < l.length), (lo ≤ l[j] ∧ l[j] ≤ hi) ∧ (0 < j → l[j - 1]'(by omega) < l[j])) := ⟨fun g j h => g j h h, fun g j h _ => g j h⟩
  rw [this]
  exact Nat.decidableBallLT _ _
theorem rise_pair {l : List Int} {lo hi : Int} (h : Rise l lo hi) : l.Pairwise (· < ·) := by
  rw [List.pairwise_iff_getElem]
  intro i j hi hj hij
  have : ∀ d (hd : i + d + 1 < l.length), l[i] < l[i + d + 1] := by
    intro d
    induction d with
    | zero => intro hd; exact (h (i + 0 + 1) hd hd).2 (by omega)
    | succ d ih =>
      intro hd
      have h1 := ih (by omega)
      have h2 := (h (i + (d + 1) + 1) hd hd).2 (by omega)
      have e : i + (d + 1) + 1 - 1 = i + d + 1 := by omega
      simp only [e] at h2
      omega
  have e : j = i + (j - i - 1) + 1 := by omega
  have := this (j - i - 1) (by omega)
  simp only [← e] at this
  exact this
theorem rise_mem {l : List Int} {lo hi : Int} (h : Rise l lo hi) : ∀ x ∈ l, lo ≤ x ∧ x ≤ hi := by
  intro x hx
  obtain ⟨j, hj, rfl⟩ := List.mem_iff_getElem.1 hx
  exact (h j hj hj).1
def riseB (l : List Int) (lo hi : Int) : Bool := decide (Rise l lo hi)
theorem riseB_yes {l : List Int} {lo hi : Int} (h : Rise l lo hi) : riseB l lo hi = true := decide_eq_true h
theorem riseB_no {l : List Int} {lo hi : Int} (h : ¬ Rise l lo hi) : riseB l lo hi = false := decide_eq_false h

def CalNum (c : CalD) : Prop := 0 ≤ c.frm ∧ c.frm ≤ c.too ∧ c.too ≤ 3650 ∧ 0 ≤ c.wd ∧ c.wd ≤ 127
def CalGood (c : CalD) : Prop := CalNum c ∧ c.added.length ≤ 8 ∧ c.removed.length ≤ 8 ∧ Rise c.added c.frm c.too ∧ Rise c.removed c.frm c.too ∧ (∀ d ∈ c.added, wdB c.wd d = false) ∧ ∀ d ∈ c.removed, wdB c.wd d = true
instance (c : CalD) : Decidable (CalNum c) := by unfold CalNum; infer_instance
instance (c : CalD) : Decidable (CalGood c) := by unfold CalGood; infer_instance
def calB (c : CalD) : Bool := decide (CalGood c)
theorem calB_yes {c : CalD} (h : CalGood c) : calB c = true := decide_eq_true h
theorem calB_no {c : CalD} (h : ¬ CalGood c) : calB c = false := decide_eq_false h

def Reg (c : CalD) (d : Int) : Prop := (c.frm ≤ d ∧ d ≤ c.too) ∧ wdB c.wd d = true

def Runs (c : CalD) (d : Int) : Prop := (c.frm ≤ d ∧ d ≤ c.too) ∧ if wdB c.wd d = true then d ∉ c.removed else d ∈ c.added
instance (c : CalD) (d : Int) : Decidable (Reg c d) := by unfold Reg; infer_instance
instance (c : CalD) (d : Int) : Decidable (Runs c d) := by unfold Runs; infer_instance
def regB (c : CalD) (d : Int) : Bool := decide (Reg c d)
theorem regB_yes {c : CalD} {d : Int} (h : Reg c d) : regB c d = true := decide_eq_true h
theorem regB_iff {c : CalD} {d : Int} : regB c d = true ↔ Reg c d := decide_eq_true_iff
theorem regB_no {c : CalD} {d : Int} (h : ¬ Reg c d) : regB c d = false := decide_eq_false h
def runsB (c : CalD) (d : Int) : Bool := decide (Runs c d)
theorem runsB_yes {c : CalD} {d : Int} (h : Runs c d) : runsB c d = true := decide_eq_true h
theorem runsB_no {c : CalD} {d : Int} (h : ¬ Runs c d) : runsB c d = false := decide_eq_false h
theorem runsB_iff {c : CalD} {d : Int} : runsB c d = true ↔ Runs c d := decide_eq_true_iff

theorem runs_added {c : CalD} (hg : CalGood c) {d : Int} (h : d ∈ c.added) : Runs c d := by
  obtain ⟨_, _, _, hr, _, hw, _⟩ := hg
  exact ⟨rise_mem hr d h, by rw [if_neg (by rw [hw d h]; simp)]; exact h⟩
theorem runs_reg {c : CalD} {d : Int} (h : d ∉ c.added) : Runs c d ↔ Reg c d ∧ d ∉ c.removed := by
  unfold Runs Reg
  by_cases hw : wdB c.wd d = true
  · rw [if_pos hw]; simp [hw]
  · rw [if_neg hw]; simp [hw, h]

def dayRow (p : Int → Bool) (lo : Int) : Nat → List Int
  | 0 => []
  | n + 1 => dayRow p lo n ++ (if p (lo + n) then [lo + n] else [])
theorem dayRow_yes {p : Int → Bool} {lo : Int} {n : Nat} (h : p (lo + n) = true) : dayRow p lo (n + 1) = dayRow p lo n ++ [lo + n] := by simp [dayRow, h]
theorem dayRow_no {p : Int → Bool} {lo : Int} {n : Nat} (h : p (lo + n) = false) : dayRow p lo (n + 1) = dayRow p lo n := by simp [dayRow, h]
theorem dayRow_prefix (p : Int → Bool) (lo : Int) : ∀ (m n : Nat), m ≤ n → dayRow p lo m <+: dayRow p lo n
  | m, 0, h => by
    obtain rfl : m = 0 := by omega
    exact List.prefix_refl _
  | m, n + 1, h => by
    by_cases e : m = n + 1
    · subst e; exact List.prefix_refl _
    · exact (dayRow_prefix p lo m n (by omega)).trans (List.prefix_append _ _)
theorem dayRow_nil {p : Int → Bool} {lo : Int} : ∀ {n : Nat}, (∀ y, lo ≤ y → y < lo + n → p y = false) → dayRow p lo n = []
  | 0, _ => rfl
  | n + 1, h => by
    rw [dayRow_no (h (lo + n) (by omega) (by omega)), dayRow_nil (fun y h1 h2 => h y h1 (by omega))]
theorem dayRow_head {p : Int → Bool} {lo x : Int} : ∀ {n : Nat}, lo ≤ x → x < lo + n → p x = true → (∀ y, lo ≤ y → y < x → p y = false) → (dayRow p lo n).head? = some x
  | 0, h0, h1, _, _ => by omega
  | n + 1, h0, h1, hx, h => by
    by_cases e : x = lo + n
    · subst e
      rw [dayRow_yes hx, dayRow_nil (fun y g1 g2 => h y g1 g2)]; rfl
    · have ih := dayRow_head (p := p) (lo := lo) (x := x) (n := n) h0 (by omega) hx h
      simp only [dayRow]
      rw [List.head?_append, ih]; rfl
theorem dayRow_filter (p q : Int → Bool) (lo : Int) : ∀ n, (dayRow p lo n).filter q = dayRow (fun x => p x && q x) lo n
  | 0 => rfl
  | n + 1 => by
    by_cases h1 : p (lo + n) = true
    · by_cases h2 : q (lo + n) = true
      · rw [dayRow_yes h1, dayRow_yes (p := fun x => p x && q x) (by simp [h1, h2]), List.filter_append, dayRow_filter p q lo n]; simp [h2]
      · rw [dayRow_yes h1, dayRow_no (p := fun x => p x && q x) (by simp [h2]), List.filter_append, dayRow_filter p q lo n]; simp [h2]
    · have h1' : p (lo + n) = false := by simpa using h1
      rw [dayRow_no h1', dayRow_no (p := fun x => p x && q x) (by simp [h1']), dayRow_filter p q lo n]
theorem dayRow_len (p : Int → Bool) (lo : Int) : ∀ n, (dayRow p lo n).length ≤ n
  | 0 => Nat.le_refl _
  | n + 1 => by
    have := dayRow_len p lo n
    simp only [dayRow]; split <;> simp <;> omega
theorem dayRow_mem (p : Int → Bool) (lo : Int) : ∀ n x, x ∈ dayRow p lo n ↔ lo ≤ x ∧ x < lo + n ∧ p x = true
  | 0, x => by simp [dayRow]; omega
  | n + 1, x => by
    have ih := dayRow_mem p lo n x
    simp only [dayRow, List.mem_append, ih]
    by_cases h : p (lo + n) = true
    · simp only [h, if_true, List.mem_singleton]
      constructor
      · rintro (⟨h1, h2, h3⟩ | rfl)
        · exact ⟨h1, by omega, h3⟩
        · exact ⟨by omega, by omega, h⟩
      · rintro ⟨h1, h2, h3⟩
        by_cases e : x = lo + n
        · exact .inr e
        · exact .inl ⟨h1, by omega, h3⟩
    · simp only [if_neg h, List.not_mem_nil, or_false]
      constructor
      · rintro ⟨h1, h2, h3⟩; exact ⟨h1, by omega, h3⟩
      · rintro ⟨h1, h2, h3⟩
        refine ⟨h1, ?_, h3⟩
        by_cases e : x = lo + n
        · subst e; exact absurd h3 h
        · omega
theorem dayRow_asc (p : Int → Bool) (lo : Int) : ∀ n, (dayRow p lo n).Pairwise (· < ·)
  | 0 => List.Pairwise.nil
  | n + 1 => by
    simp only [dayRow]
    rw [List.pairwise_append]
    refine ⟨dayRow_asc p lo n, by split <;> simp, fun a ha b hb => ?_⟩
    have := ((dayRow_mem p lo n a).1 ha).2.1
    split at hb
    · have : b = lo + n := by simpa using hb
      omega
    · simp at hb
end Go.Proofs.Ytemejcbilhcebaa
