import Derived.Test.YtemejcbilhcebaaCalList
namespace Go.Proofs.Ytemejcbilhcebaa
open Go.RowKit
set_option linter.unusedVariables false

def sur (days : List Int) (lo w : Int) : Nat → Int
  | 0 => 0
  | n + 1 => sur days lo w n + (if (lo + n) % 7 = w then (if inB (lo + n) days = true then 1 else -1) else 0)

def giv (days : List Int) (lo w : Int) : Nat → Int
  | 0 => 0
  | n + 1 => giv days lo w n + (if (lo + n) % 7 = w ∧ inB (lo + n) days = true then 1 else 0)
def alls (lo w : Int) : Nat → Int
  | 0 => 0
  | n + 1 => alls lo w n + (if (lo + n) % 7 = w then 1 else 0)
theorem sur_eq (days : List Int) (lo w : Int) : ∀ n, sur days lo w n = 2 * giv days lo w n - alls lo w n
  | 0 => rfl
  | n + 1 => by
    simp only [sur, giv, alls, sur_eq days lo w n]
    by_cases h : (lo + n) % 7 = w <;> by_cases g : inB (lo + n) days = true <;> simp [h, g] <;> omega
theorem sur_bd (days : List Int) (lo w : Int) : ∀ n : Nat, -(n : Int) ≤ sur days lo w n ∧ sur days lo w n ≤ n
  | 0 => by simp [sur]
  | n + 1 => by
    have := sur_bd days lo w n
    simp only [sur]
    split <;> (try split) <;> omega
theorem giv_bd (days : List Int) (lo w : Int) : ∀ n : Nat, 0 ≤ giv days lo w n ∧ giv days lo w n ≤ n
  | 0 => by simp [giv]
  | n + 1 => by
    have := giv_bd days lo w n
    simp only [giv]
    split <;> omega
theorem alls_bd (lo w : Int) : ∀ n : Nat, 0 ≤ alls lo w n ∧ alls lo w n ≤ n
  | 0 => by simp [alls]
  | n + 1 => by
    have := alls_bd lo w n
    simp only [alls]
    split <;> omega
theorem sur_other {days : List Int} {lo w : Int} {n : Nat} (h : (lo + n) % 7 ≠ w) : sur days lo w (n + 1) = sur days lo w n := by simp [sur, h]
theorem sur_in {days : List Int} {lo w : Int} {n : Nat} (h : (lo + n) % 7 = w) (g : inB (lo + n) days = true) : sur days lo w (n + 1) = sur days lo w n + 1 := by simp [sur, h, g]
theorem sur_out {days : List Int} {lo w : Int} {n : Nat} (h : (lo + n) % 7 = w) (g : inB (lo + n) days = false) : sur days lo w (n + 1) = sur days lo w n - 1 := by simp [sur, h, g]; omega
theorem giv_other {days : List Int} {lo w : Int} {n : Nat} (h : (lo + n) % 7 ≠ w) : giv days lo w (n + 1) = giv days lo w n ∧ alls lo w (n + 1) = alls lo w n := by simp [giv, alls, h]
theorem giv_in {days : List Int} {lo w : Int} {n : Nat} (h : (lo + n) % 7 = w) (g : inB (lo + n) days = true) : giv days lo w (n + 1) = giv days lo w n + 1 ∧ alls lo w (n + 1) = alls lo w n + 1 := by simp [giv, alls, h, g]
theorem giv_out {days : List Int} {lo w : Int} {n : Nat} (h : (lo + n) % 7 = w) (g : inB (lo + n) days = false) : giv days lo w (n + 1) = giv days lo w n ∧ alls lo w (n + 1) = alls lo w n + 1 := by simp [giv, alls, h, g]

def usu (days : List Int) (lo : Int) (n : Nat) : Nat → Int
  | 0 => 0
  | k + 1 => usu days lo n k + (if 0 < sur days lo k n then 2 ^ k else 0)
theorem usu_bd (days : List Int) (lo : Int) (n : Nat) : ∀ k, 0 ≤ usu days lo n k ∧ usu days lo n k < 2 ^ k
  | 0 => by simp [usu]
  | k + 1 => by
    have := usu_bd days lo n k
    have e : (2 : Int) ^ (k + 1) = 2 ^ k * 2 := Int.pow_succ 2 k
    simp only [usu, e]
    split <;> omega
theorem usu_yes {days : List Int} {lo : Int} {n k : Nat} (h : 0 < sur days lo k n) : usu days lo n (k + 1) = usu days lo n k + 2 ^ k := by simp [usu, h]
theorem usu_no {days : List Int} {lo : Int} {n k : Nat} (h : ¬ 0 < sur days lo k n) : usu days lo n (k + 1) = usu days lo n k := by simp [usu, h]
theorem or_fin : ∀ w : Fin 7, ∀ x : Fin (2 ^ w.val), bits .or .i64 (x.val : Int) (2 ^ w.val) = (x.val : Int) + 2 ^ w.val := by decide
theorem or_pow (k : Nat) (hk : k < 7) (x : Int) (h0 : 0 ≤ x) (h1 : x < 2 ^ k) : bits .or .i64 x (2 ^ k) = x + 2 ^ k := by
  have hx : x.toNat < 2 ^ k := by
    have e : ((2 ^ k : Nat) : Int) = 2 ^ k := by simp
    omega
  have := or_fin ⟨k, hk⟩ ⟨x.toNat, hx⟩
  have e : ((x.toNat : Nat) : Int) = x := by omega
  simpa only [e] using this

def fitN (lo hi : Int) : Nat := (hi - lo + 1).toNat
def fitW (lo hi : Int) (days : List Int) : Int := usu days lo (fitN lo hi) 7
theorem fitW_bd (lo hi : Int) (days : List Int) : 0 ≤ fitW lo hi days ∧ fitW lo hi days ≤ 127 := by
  have := usu_bd days lo (fitN lo hi) 7
  unfold fitW
  omega
def plusB (days : List Int) (wd : Int) (x : Int) : Bool := inB x days && !wdB wd x
def minusB (days : List Int) (wd : Int) (x : Int) : Bool := !inB x days && wdB wd x

def fitTo (lo hi : Int) (days : List Int) (n : Nat) : CalD := ⟨lo, hi, fitW lo hi days, dayRow (plusB days (fitW lo hi days)) lo n, dayRow (minusB days (fitW lo hi days)) lo n⟩
def fitC (lo hi : Int) (days : List Int) : CalD := fitTo lo hi days (fitN lo hi)
def calZ : CalD := ⟨0, 0, 0, [], []⟩
def FitOk (lo hi : Int) (days : List Int) : Prop := (0 ≤ lo ∧ lo ≤ hi ∧ hi ≤ 3650) ∧ hi - lo ≤ 200 ∧ Rise days lo hi
instance (lo hi : Int) (days : List Int) : Decidable (FitOk lo hi days) := by unfold FitOk; infer_instance
def FitGood (lo hi : Int) (days : List Int) : Prop := FitOk lo hi days ∧ CalGood (fitC lo hi days)
instance (lo hi : Int) (days : List Int) : Decidable (FitGood lo hi days) := by unfold FitGood; infer_instance
def fitB (lo hi : Int) (days : List Int) : Bool := decide (FitGood lo hi days)
def fitAns (lo hi : Int) (days : List Int) : CalD := if FitGood lo hi days then fitC lo hi days else calZ
theorem fitAns_yes {lo hi : Int} {days : List Int} (h : FitGood lo hi days) : fitAns lo hi days = fitC lo hi days ∧ fitB lo hi days = true := ⟨if_pos h, decide_eq_true h⟩
theorem fitAns_no {lo hi : Int} {days : List Int} (h : ¬ FitGood lo hi days) : fitAns lo hi days = calZ ∧ fitB lo hi days = false := ⟨if_neg h, decide_eq_false h⟩
theorem fitTo_num {lo hi : Int} {days : List Int} (h : 0 ≤ lo ∧ lo ≤ hi ∧ hi ≤ 3650) (n : Nat) : CalNum (fitTo lo hi days n) := ⟨h.1, h.2.1, h.2.2, (fitW_bd lo hi days).1, (fitW_bd lo hi days).2⟩
end Go.Proofs.Ytemejcbilhcebaa
