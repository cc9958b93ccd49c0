/-
  JOINED TEXTS, each under its own namespace line: DrawPass, HeadQ.
-/
import Derived.Test.YtfgkfdkdjegaiaaStop10
import Derived.Test.YtfgkfdkdjegaiaaMk02
import Derived.Test.YtfgkfdkdjegaiaaMk03
import Derived.Test.YtfgkfdkdjegaiaaHeadP
namespace Go.Proofs.Ytfgkfdkdjegaiaa
open Go.RowKit
set_option linter.unusedVariables false
set_option linter.unusedSimpArgs false

theorem build_curP (a : Option Addr) (n c : Nat) (w : World) : (Instr.build 84 #[(0, .slice a n c)]).run Try.prog w = .ok (.agg #[.slice a n c, .int .i64 0, .int .u64 0]) w :=
  run_build w 84 #[(0, .slice a n c)] #[.slice a n c, .int .i64 0, .int .u64 0] (by kernel_rfl)

def Drawn (B : Nat) (nv : Value) (p : Int) (lv : Value) (d : NetD) (xs : List PatternD) (w' : World) : Prop :=
  ((d.stops.length ≤ 8 ∧ ∀ s ∈ d.stops, s.size ≤ 20) ∧ d.lines.length ≤ 12 ∧ (∀ l ∈ d.lines, AnyLn l)) ∧ (0 ≤ p ∧ p ≤ 61) ∧ xs.length ≤ 4 ∧ (∀ x ∈ xs, PtIn x) ∧
    NetL B w'.heap.size w' nv d ∧ w'.ownsRow B 45 2 lv xs.length (patC xs)
theorem Drawn.set {B : Nat} {nv lv : Value} {p : Int} {d : NetD} {xs : List PatternD} {w' : World} (h : Drawn B nv p lv d xs w') (q : Nat) (hq : q < B) (u0 u1 : Value) : Drawn B nv p lv d xs ((w'.setCell ⟨q, 0, none⟩ u0).setCell ⟨q, 1, none⟩ u1) := by
  obtain ⟨h1, h2, h3, h4, h5, h6⟩ := h
  refine ⟨h1, h2, h3, h4, (h5.keep (by simp [World.setCell]) (fun k a1 a2 a3 => ?_)).base (Nat.le_refl _) (by simp [World.setCell]), ownsRow_setCell_below (ownsRow_setCell_below h6 (by dsimp only; omega) _) (by dsimp only; omega) _⟩
  rw [Below.heap_setCell _ _ _ _ (by dsimp only; omega), Below.heap_setCell _ _ _ _ (by dsimp only; omega)]

theorem below_curP {w w0 w' : World} {B b n : Nat} {v : Value} (hB : B ≤ b) (hb : Below B w w0 ∧ B ≤ w0.heap.size) (h : CurPost w0 b n v w') : Below B w w' :=
  hb.1.grown h.2.2 hb.2 (fun k hk => by cases hk; exact hB)
end Go.Proofs.Ytfgkfdkdjegaiaa

namespace Go.Proofs.Ytfgkfdkdjegaiaa
set_option linter.unusedVariables false
set_option linter.unusedSimpArgs false

noncomputable def askG (n : NetD) (p : Int) (xs : List PatternD) (stop : Int) : Bool := patsB n p xs && (decide (0 ≤ stop) && decide (stop < (n.stops.length : Int)))
theorem askG_yes {n : NetD} {p : Int} {xs : List PatternD} {stop : Int} (h : PatsGood n p xs) (h0 : 0 ≤ stop) (h1 : stop < (n.stops.length : Int)) : askG n p xs stop = true := by unfold askG; rw [patsB_yes h]; simp [h0, h1]
theorem askG_no {n : NetD} {p : Int} {xs : List PatternD} {stop : Int} (h : ¬ (PatsGood n p xs ∧ 0 ≤ stop ∧ stop < (n.stops.length : Int))) : askG n p xs stop = false := by
  cases hb : askG n p xs stop with
  | false => rfl
  | true =>
    exfalso; unfold askG at hb; simp only [Bool.and_eq_true, decide_eq_true_eq] at hb
    exact h ⟨patsB_iff hb.1, hb.2⟩
theorem askG_iff {n : NetD} {p : Int} {xs : List PatternD} {stop : Int} (h : askG n p xs stop = true) : PatsGood n p xs ∧ 0 ≤ stop ∧ stop < (n.stops.length : Int) := by
  unfold askG at h; simp only [Bool.and_eq_true, decide_eq_true_eq] at h
  exact ⟨patsB_iff h.1, h.2⟩
noncomputable def prF (n : NetD) (p : Int) (xs : List PatternD) (stop : Int) : List Int := if askG n p xs stop then restS n p xs stop else []
noncomputable def gpF (n : NetD) (p : Int) (xs : List PatternD) (stop : Int) : List Int := gaps (prF n p xs stop) p
theorem prF_mem {n : NetD} {p : Int} {xs : List PatternD} {stop : Int} : ∀ r ∈ prF n p xs stop, 0 ≤ r ∧ r < p := by
  intro r hr
  unfold prF at hr
  cases h : askG n p xs stop with
  | false => rw [h] at hr; simp at hr
  | true => rw [h] at hr; simp at hr; exact restS_mem (askG_iff h).1.2.1.1 r hr
theorem prF_len (n : NetD) (p : Int) (xs : List PatternD) (stop : Int) : (prF n p xs stop).length ≤ 3 := by
  unfold prF
  cases h : askG n p xs stop with
  | false => simp
  | true => simp; exact Nat.le_trans (restS_len n p xs stop) (askG_iff h).1.2.2.1.2
theorem prF_ask {n : NetD} {p : Int} {xs : List PatternD} {stop : Int} (h : 0 < (prF n p xs stop).length) : askG n p xs stop = true := by
  cases ha : askG n p xs stop with
  | true => rfl
  | false => unfold prF at h; rw [ha] at h; simp at h
theorem prF_p {n : NetD} {p : Int} {xs : List PatternD} {stop : Int} (h : 0 < (prF n p xs stop).length) : 1 ≤ p ∧ p ≤ 60 := (askG_iff (prF_ask h)).1.2.1

noncomputable def servB (n : NetD) (p : Int) (xs : List PatternD) (stop : Int) : Bool := decide (0 < (prF n p xs stop).length)
noncomputable def lgF (n : NetD) (p : Int) (xs : List PatternD) (stop : Int) : Int × Int := if servB n p xs stop then (lgV (gpF n p xs stop), (prF n p xs stop).getD (lgI (gpF n p xs stop)) 0) else (0, 0)
def evB (c p : Int) : Bool := decide (1 ≤ p ∧ p ≤ 60) && decide (1 ≤ c ∧ c ≤ p)
def evF (c p : Int) : List Int := if evB c p then evenL c.toNat p else []

def meetK (A B : Nat → Int) : Nat → List Int
  | 0 => []
  | k + 1 => meetK A B k ++ (if B k = A k then [(k : Int)] else [])
theorem meetK_len (A B : Nat → Int) : ∀ k, (meetK A B k).length ≤ k
  | 0 => Nat.le_refl _
  | k + 1 => by have := meetK_len A B k; simp only [meetK, List.length_append]; split <;> simp <;> omega
theorem meetK_yes {A B : Nat → Int} {k : Nat} (h : B k = A k) : meetK A B (k + 1) = meetK A B k ++ [(k : Int)] := by simp [meetK, h]
theorem meetK_no {A B : Nat → Int} {k : Nat} (h : ¬ B k = A k) : meetK A B (k + 1) = meetK A B k := by simp [meetK, h]
def pt (xs : List PatternD) (a : Int) : PatternD := xs.getD a.toNat ⟨0, 0⟩
theorem pt_at {xs : List PatternD} {k : Nat} (hk : k < xs.length) : pt xs (k : Int) = xs[k] := by simp [pt, List.getD, hk]
def rsAt (n : NetD) (p : Int) (x : PatternD) (stops : List Int) (k : Nat) : Int := restI n p x (stops.getD k 0)
noncomputable def mtB (n : NetD) (p : Int) (xs : List PatternD) (a b : Int) : Bool := patsB n p xs && (decide (0 ≤ a ∧ a < (xs.length : Int)) && decide (0 ≤ b ∧ b < (xs.length : Int)))
noncomputable def mtF (n : NetD) (p : Int) (xs : List PatternD) (a b : Int) : List Int :=
  if mtB n p xs a b then
    let st := (lnI n (pt xs a).line).stops
    meetK (rsAt n p (pt xs a) st) (rsAt n p (pt xs b) st) st.length
  else []
theorem mtB_yes {n : NetD} {p : Int} {xs : List PatternD} {a b : Int} (h : PatsGood n p xs) (h1 : 0 ≤ a ∧ a < (xs.length : Int)) (h2 : 0 ≤ b ∧ b < (xs.length : Int)) : mtB n p xs a b = true := by
  unfold mtB; rw [patsB_yes h]; simp only [Bool.true_and, Bool.and_eq_true, decide_eq_true_eq]; exact ⟨h1, h2⟩
theorem mtB_no {n : NetD} {p : Int} {xs : List PatternD} {a b : Int} (h : ¬ (PatsGood n p xs ∧ (0 ≤ a ∧ a < (xs.length : Int)) ∧ (0 ≤ b ∧ b < (xs.length : Int)))) : mtB n p xs a b = false := by
  cases hb : mtB n p xs a b with
  | false => rfl
  | true =>
    exfalso; unfold mtB at hb; simp only [Bool.and_eq_true, decide_eq_true_eq] at hb
    exact h ⟨patsB_iff hb.1, hb.2⟩

theorem mod_two {x p : Int} (h0 : 0 ≤ x) (h1 : x < p + p) : x % p = if x < p then x else x - p := by
  split
  · exact Int.emod_eq_of_lt h0 (by omega)
  · rw [show x = (x - p) + p * 1 by omega, Int.add_mul_emod_self_left]
    rw [Int.emod_eq_of_lt (by omega) (by omega)]; omega

def twD (r walk tgt p : Int) : Int := (tgt - (r + walk) % p + p) % p
theorem twD_in {r walk tgt p : Int} (hp : 1 ≤ p) : 0 ≤ twD r walk tgt p ∧ twD r walk tgt p < p := ⟨Int.emod_nonneg _ (by omega), Int.emod_lt_of_pos _ (by omega)⟩
theorem tw_iff {r walk tgt p : Int} (hp : 1 ≤ p) (ht : 0 ≤ tgt ∧ tgt < p) {j : Int} (hj : 0 ≤ j) (hjd : j ≤ twD r walk tgt p) : (r + (walk + j)) % p = tgt ↔ j = twD r walk tgt p := by
  have hf0 := Int.emod_nonneg (r + walk) (show p ≠ 0 by omega)
  have hf1 := Int.emod_lt_of_pos (r + walk) (show 0 < p by omega)
  have hd := twD_in (r := r) (walk := walk) (tgt := tgt) hp
  have e1 : (r + (walk + j)) % p = ((r + walk) % p + j) % p := by
    rw [show r + (walk + j) = (r + walk) + j by omega, Int.emod_add_emod]
  unfold twD at *
  rw [e1, mod_two (by omega) (by omega)]
  rw [mod_two (x := tgt - (r + walk) % p + p) (by omega) (by omega)] at *
  split <;> split at * <;> omega
noncomputable def twB (n : NetD) (p : Int) (xs : List PatternD) (a b stop walk : Int) : Bool :=
  mtB n p xs a b && (decide (0 ≤ stop ∧ stop < (n.stops.length : Int)) && (decide (a ≠ b) && (decide (0 ≤ walk ∧ walk ≤ 60) &&
    decide (1 ≤ fstIdx stop (lnI n (pt xs a).line).stops ∧ 0 ≤ fstIdx stop (lnI n (pt xs b).line).stops ∧ fstIdx stop (lnI n (pt xs b).line).stops ≠ ((lnI n (pt xs b).line).stops.length : Int) - 1))))
noncomputable def twF (n : NetD) (p : Int) (xs : List PatternD) (a b stop walk : Int) : Int :=
  if twB n p xs a b stop walk then walk + twD (restI n p (pt xs a) stop) walk (restI n p (pt xs b) stop) p else 0
end Go.Proofs.Ytfgkfdkdjegaiaa
