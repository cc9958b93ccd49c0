import Derived.WalkKit
namespace Go.Proofs.Ytehpeifaknbcnaa

structure CalD where
  frm : Int
  too : Int
  wd : Int
  added : List Int
  removed : List Int

def wdB (wd day : Int) : Bool := decide ((wd / 2 ^ (day % 7).toNat) % 2 = 1)

def RiseTo (l : List Int) (lo hi : Int) (k : Nat) : Prop := ∀ j (h : j < l.length), j < k → (lo ≤ l[j] ∧ l[j] ≤ hi) ∧ (0 < j → l[j - 1]'(by omega) < l[j])
def Rise (l : List Int) (lo hi : Int) : Prop := RiseTo l lo hi l.length
instance (l : List Int) (lo hi : Int) : Decidable (Rise l lo hi) := by
  unfold Rise RiseTo
  have : (∀ j (h : j < l.length), j < l.length → (lo ≤ l[j] ∧ l[j] ≤ hi) ∧ (0 < j → l[j - 1]'(by omega) < l[j])) ↔ (∀ j (h : j < l.length), (lo ≤ l[j] ∧ l[j] ≤ hi) ∧ (0 < j → l[j - 1]'(by omega) < l[j])) := ⟨fun g j h => g j h h, fun g j h _ => g j h⟩
  rw [this]
  exact Nat.decidableBallLT _ _
def CalNum (c : CalD) : Prop := 0 ≤ c.frm ∧ c.frm ≤ c.too ∧ c.too ≤ 3650 ∧ 0 ≤ c.wd ∧ c.wd ≤ 127
def CalGood (c : CalD) : Prop := CalNum c ∧ c.added.length ≤ 8 ∧ c.removed.length ≤ 8 ∧ Rise c.added c.frm c.too ∧ Rise c.removed c.frm c.too ∧ (∀ d ∈ c.added, wdB c.wd d = false) ∧ ∀ d ∈ c.removed, wdB c.wd d = true
instance (c : CalD) : Decidable (CalNum c) := by unfold CalNum; infer_instance
instance (c : CalD) : Decidable (CalGood c) := by unfold CalGood; infer_instance
def Reg (c : CalD) (d : Int) : Prop := (c.frm ≤ d ∧ d ≤ c.too) ∧ wdB c.wd d = true

def Runs (c : CalD) (d : Int) : Prop := (c.frm ≤ d ∧ d ≤ c.too) ∧ if wdB c.wd d = true then d ∉ c.removed else d ∈ c.added
instance (c : CalD) (d : Int) : Decidable (Reg c d) := by unfold Reg; infer_instance
instance (c : CalD) (d : Int) : Decidable (Runs c d) := by unfold Runs; infer_instance
end Go.Proofs.Ytehpeifaknbcnaa
