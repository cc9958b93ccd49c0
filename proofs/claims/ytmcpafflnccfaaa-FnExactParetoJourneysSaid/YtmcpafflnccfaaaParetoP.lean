/-
  PLAIN WORDS on the Pareto journeys: the first journey with at most n legs, found by the search with exactly as many; the list of those that arrive earlier.
-/
import Derived.Test.YtmcpafflnccfaaaJrnTT
namespace Go.Proofs.Ytmcpafflnccfaaa
open Go.RowKit Jrn
set_option linter.unusedVariables false

namespace Jrn
section
variable {N : Nat} {rs : List RideD} {ch frm at_ : Int}
/-- the search with as many legs as the first journey has finds it -/
theorem dfs_best (hrs : RidesOk rs) (hch : 0 ≤ ch) (hat : 0 ≤ at_) {too : Int} (hne : frm ≠ too)
    {cands : Int → List LegD → Int → Int → List LegD} (hC : ∀ A, CandsOk (allLegs rs) A (cands A)) (n : Nat) {b : List LegD} (hb : bestF (allLegs rs) ch too n frm at_ = some b) :
    dfsF (cands (endT 0 b)) ch too (endT 0 b) b.length [] frm at_ = some b := by
  have hlt : ∀ l ∈ allLegs rs, l.dep < l.arr := fun l hl => hrs.leg_lt hl
  obtain ⟨b1, b2, b3, b4⟩ := best_sound ch too n frm at_ b hb
  have hopt : ∀ c, c ≠ [] → Chain (allLegs rs) ch frm at_ c → c.length ≤ n → endS frm c = too → JLe b c := fun c c1 c2 c3 c4 => by
    obtain ⟨b', h, hle⟩ := best_opt hrs.same ch too hch hlt n frm at_ c c1 c2 c3 c4
    rw [hb] at h; cases h; exact hle
  have hbl : 0 < b.length := by cases b with | nil => exact absurd rfl b1 | cons x b => simp
  obtain ⟨d1, d2⟩ := dfs_ok (too := too) hch hlt (hC (endT 0 b)) b.length [] frm at_ hbl
  have hw : Want (allLegs rs) ch too (endT 0 b) [] b.length frm at_ b := by
    refine ⟨b2, rfl, b4, rfl, ?_, fun a ha => by simp at ha⟩
    apply Classical.byContradiction
    intro hn
    obtain ⟨d, e1, e2, e3, e4, e5⟩ := not_twice hrs hch b2 hn
    have := hopt d e2 e1 (by omega) (by rw [e4]; exact b4)
    unfold JLe JLt at this
    omega
  cases hd : dfsF (cands (endT 0 b)) ch too (endT 0 b) b.length [] frm at_ with
  | none => exact (d1 hd b hw).elim
  | some c =>
    obtain ⟨⟨c1, c2, c3, c4, _⟩, hmin⟩ := d2 c hd
    have h1 := hmin b hw
    have cne : c ≠ [] := fun e => by subst e; simp at c2; omega
    have h2 := hopt c cne c1 (by omega) c3
    have h3 : ¬ lexLt c b := fun h => h2 (.inr ⟨c4, .inr ⟨c2, h⟩⟩)
    rw [lex_same hrs.same (chain_mem c1) (chain_mem b2) c2 h3 h1]
/-- a journey that arrives earlier than with one leg less has all its legs -/
theorem best_full (hrs : RidesOk rs) (hch : 0 ≤ ch) {too : Int} (n : Nat) {b : List LegD} (hb : bestF (allLegs rs) ch too (n + 1) frm at_ = some b)
    (hl : ∀ c, bestF (allLegs rs) ch too n frm at_ = some c → endT 0 b < endT 0 c) : b.length = n + 1 := by
  have hlt : ∀ l ∈ allLegs rs, l.dep < l.arr := fun l hl => hrs.leg_lt hl
  obtain ⟨b1, b2, b3, b4⟩ := best_sound ch too (n + 1) frm at_ b hb
  apply Classical.byContradiction
  intro hn
  obtain ⟨c, hc, hle⟩ := best_opt hrs.same ch too hch hlt n frm at_ b b1 b2 (by omega) b4
  have := hl c hc
  unfold JLe JLt at hle
  omega
/-- more legs never arrive later -/
theorem best_more (hrs : RidesOk rs) (hch : 0 ≤ ch) {too : Int} (n : Nat) {c : List LegD} (hc : bestF (allLegs rs) ch too n frm at_ = some c) :
    ∃ b, bestF (allLegs rs) ch too (n + 1) frm at_ = some b ∧ endT 0 b ≤ endT 0 c := by
  have hlt : ∀ l ∈ allLegs rs, l.dep < l.arr := fun l hl => hrs.leg_lt hl
  obtain ⟨b1, b2, b3, b4⟩ := best_sound ch too n frm at_ c hc
  obtain ⟨b, hb, hle⟩ := best_opt hrs.same ch too hch hlt (n + 1) frm at_ c b1 b2 (by omega) b4
  refine ⟨b, hb, ?_⟩
  unfold JLe JLt at hle
  omega
end
/-- the journeys that arrive earlier than those with fewer legs, and the arrival of the last one (-1: none) -/
noncomputable def parF (f : Nat → Option (List LegD)) : Nat → List (List LegD) × Int
  | 0 => ([], -1)
  | n + 1 => match f (n + 1) with
    | none => parF f n
    | some b => if (parF f n).2 < 0 ∨ endT 0 b < (parF f n).2 then ((parF f n).1 ++ [b], endT 0 b) else parF f n
theorem parF_none {f : Nat → Option (List LegD)} {n : Nat} (h : f (n + 1) = none) : parF f (n + 1) = parF f n := by rw [parF, h]
theorem parF_yes {f : Nat → Option (List LegD)} {n : Nat} {b : List LegD} (h : f (n + 1) = some b) (hy : (parF f n).2 < 0 ∨ endT 0 b < (parF f n).2) : parF f (n + 1) = ((parF f n).1 ++ [b], endT 0 b) := by
  rw [parF, h]; exact if_pos hy
theorem parF_no {f : Nat → Option (List LegD)} {n : Nat} {b : List LegD} (h : f (n + 1) = some b) (hy : ¬ ((parF f n).2 < 0 ∨ endT 0 b < (parF f n).2)) : parF f (n + 1) = parF f n := by
  rw [parF, h]; exact if_neg hy
theorem parF_len (f : Nat → Option (List LegD)) : ∀ n, (parF f n).1.length ≤ n
  | 0 => Nat.le_refl _
  | n + 1 => by
    have := parF_len f n
    rw [parF]
    split
    · omega
    · split
      · simp; omega
      · omega
/-- the last one's arrival -/
theorem parF_last (f : Nat → Option (List LegD)) (h0 : ∀ n b, f n = some b → 0 ≤ endT 0 b) : ∀ n, ((parF f n).1 = [] ∧ (parF f n).2 = -1) ∨ (∃ xs b, (parF f n).1 = xs ++ [b] ∧ (parF f n).2 = endT 0 b ∧ 0 ≤ endT 0 b)
  | 0 => .inl ⟨rfl, rfl⟩
  | n + 1 => by
    have ih := parF_last f h0 n
    cases hf : f (n + 1) with
    | none => rw [parF_none hf]; exact ih
    | some b =>
      by_cases hy : (parF f n).2 < 0 ∨ endT 0 b < (parF f n).2
      · rw [parF_yes hf hy]; exact .inr ⟨_, b, rfl, rfl, h0 _ _ hf⟩
      · rw [parF_no hf hy]; exact ih
/-- the last arrival is that of the first journey -/
theorem parF_best (f : Nat → Option (List LegD)) (h0 : ∀ n b, f n = some b → 0 ≤ endT 0 b) (hm : ∀ n c, f n = some c → ∃ b, f (n + 1) = some b ∧ endT 0 b ≤ endT 0 c) (hz : f 0 = none) : ∀ n, (f n = none ∧ (parF f n).2 = -1) ∨ ∃ b, f n = some b ∧ (parF f n).2 = endT 0 b
  | 0 => .inl ⟨hz, rfl⟩
  | n + 1 => by
    rcases parF_best f h0 hm hz n with ⟨h1, h2⟩ | ⟨c, h1, h2⟩
    · cases hf : f (n + 1) with
      | none => rw [parF_none hf]; exact .inl ⟨rfl, h2⟩
      | some b => rw [parF_yes hf (.inl (by omega))]; exact .inr ⟨b, rfl, rfl⟩
    · obtain ⟨b, hf, hle⟩ := hm n c h1
      by_cases hy : (parF f n).2 < 0 ∨ endT 0 b < (parF f n).2
      · rw [parF_yes hf hy]; exact .inr ⟨b, hf, rfl⟩
      · rw [parF_no hf hy]; exact .inr ⟨b, hf, by omega⟩
end Jrn
end Go.Proofs.Ytmcpafflnccfaaa
