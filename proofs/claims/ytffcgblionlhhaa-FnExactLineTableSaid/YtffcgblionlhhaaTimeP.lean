/-
  PLAIN WORDS, of no program: the text of a time, and the time of a text.
-/
import Derived.Test.YtffcgblionlhhaaMa
namespace Go.Proofs.Ytffcgblionlhhaa
set_option linter.unusedVariables false

def digC (k : Nat) : UInt8 := UInt8.ofNat (48 + k)
def twoC (k : Nat) : ByteArray := ⟨#[digC (k / 10), digC (k % 10)]⟩
def timeC (t : Nat) : ByteArray := ⟨#[digC (t / 60 / 10), digC (t / 60 % 10), 58, digC (t % 60 / 10), digC (t % 60 % 10)]⟩
theorem digC_nat {k : Nat} (h : k < 10) : (digC k).toNat = 48 + k := by unfold digC; simp; omega
theorem two_join {t : Nat} : twoC (t / 60) ++ ⟨#[58]⟩ ++ twoC (t % 60) = timeC t := rfl

/-- the time whose text these bytes are, if there is one -/
def ReadsAs (s : ByteArray) (t : Nat) : Prop := t ≤ 1799 ∧ s = timeC t
instance (s : ByteArray) (t : Nat) : Decidable (ReadsAs s t) := by unfold ReadsAs; infer_instance
theorem timeC_size (t : Nat) : (timeC t).size = 5 := rfl
/-- what the five bytes say, each taken for a digit -/
def ofD (a b : Nat) : Nat := a * 10 + b
theorem digs_of {t : Nat} (h : t ≤ 1799) : t / 60 / 10 < 10 ∧ t / 60 % 10 < 10 ∧ t % 60 / 10 < 10 ∧ t % 60 % 10 < 10 ∧ (t / 60 / 10 * 10 + t / 60 % 10) * 60 + (t % 60 / 10 * 10 + t % 60 % 10) = t := by omega
theorem ReadsAs.bytes {s : ByteArray} {t : Nat} (h : ReadsAs s t) (h5 : s.size = 5) : s[0].toNat = 48 + t / 60 / 10 ∧ s[1].toNat = 48 + t / 60 % 10 ∧ s[3].toNat = 48 + t % 60 / 10 ∧ s[4].toNat = 48 + t % 60 % 10 := by
  obtain ⟨h1, rfl⟩ := h
  obtain ⟨d0, d1, d2, d3, _⟩ := digs_of h1
  exact ⟨digC_nat d0, digC_nat d1, digC_nat d2, digC_nat d3⟩
theorem timeC_inj {t u : Nat} (ht : t ≤ 1799) (hu : u ≤ 1799) (h : timeC t = timeC u) : t = u := by
  have a := ReadsAs.bytes ⟨ht, rfl⟩ (timeC_size t)
  have b := ReadsAs.bytes ⟨hu, h⟩ (timeC_size t)
  have := digs_of ht; have := digs_of hu
  omega
end Go.Proofs.Ytffcgblionlhhaa
