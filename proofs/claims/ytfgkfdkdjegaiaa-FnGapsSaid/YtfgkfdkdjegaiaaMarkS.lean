/-
  CONTRACT of the laws' markText: the text that stands for a number; only new memory is written.
-/
import Derived.Test.YtfgkfdkdjegaiaaText
import Derived.Test.YtfgkfdkdjegaiaaStr
import Derived.Laws.Strings
import Derived.Laws.IdiomStrings
namespace Go.Proofs.Ytfgkfdkdjegaiaa
open Go.RowKit
set_option linter.unusedVariables false

/-- the digits of a number, none for 0 -/
def digsF : Nat → Nat → List UInt8
  | 0, _ => []
  | f + 1, k => if k = 0 then [] else digsF f (k / 10) ++ [UInt8.ofNat (48 + k % 10)]
def digs (k : Nat) : List UInt8 := digsF k k
theorem digsF_more : ∀ (f g k : Nat), k ≤ f → k ≤ g → digsF f k = digsF g k
  | 0, g, k, h, _ => by
    have : k = 0 := by omega
    subst this
    cases g <;> simp [digsF]
  | f + 1, 0, k, _, h => by
    have : k = 0 := by omega
    subst this
    simp [digsF]
  | f + 1, g + 1, k, h1, h2 => by
    simp only [digsF]
    split
    · rfl
    · rw [digsF_more f g (k / 10) (by omega) (by omega)]
theorem digs_zero : digs 0 = [] := rfl
theorem digs_step (k : Nat) (h : 0 < k) : digs k = digs (k / 10) ++ [UInt8.ofNat (48 + k % 10)] := by
  obtain ⟨j, rfl⟩ : ∃ j, k = j + 1 := ⟨k - 1, by omega⟩
  unfold digs
  rw [show digsF (j + 1) (j + 1) = digsF j ((j + 1) / 10) ++ [UInt8.ofNat (48 + (j + 1) % 10)] by simp [digsF]]
  rw [digsF_more j ((j + 1) / 10) ((j + 1) / 10) (by omega) (by omega)]
theorem digs_len : ∀ (k : Nat), (digs k).length ≤ k := fun k => by
  induction k using Nat.strongRecOn with
  | _ k ih =>
    by_cases h : 0 < k
    · rw [digs_step k h]; have := ih (k / 10) (by omega); simp; omega
    · have : k = 0 := by omega
      subst this; simp [digs_zero]
/-- the text that marks k -/
def markL (k : Nat) : List UInt8 := [109] ++ digs k

set_option maxRecDepth 100000 in
set_option maxHeartbeats 1000000 in
theorem markText_any (k : Nat) (w : World) (hk0 : 0 < k) (hk : k ≤ 1073741824) :
    Calls Try.prog 110 #[.int .i64 k] w fun e w' => e = .returned (.string ⟨(markL k).toArray⟩) ∧ Below w.heap.size w w' := by
  have hdl := Lib.hid (digs_len k)
  go_enter Try.func110, Try.ntmps110
  go_wp2
  go_loopw [0, 3] (fun q o wr => ∃ j : Nat, q = .int .i64 j ∧ j ≤ k ∧ (∃ l : List UInt8, o = .string ⟨l.toArray⟩ ∧ Hid (digs j ++ l = digs k)) ∧ Below w.heap.size w wr)
    (fun q _ _ => (RowKit.intOf q).toNat)
  case atStart => exact ⟨k, rfl, Nat.le_refl _, ⟨[], rfl, by show _ = _; simp⟩, Below.refl _ _⟩
  case round =>
    obtain ⟨j, rfl, hj, ⟨l, rfl, HL⟩, hbel⟩ := hrel
    by_cases h0 : 0 < j
    · have h0i : (0 : Int) < (j : Int) := by omega
      have HL2 : Hid (digs (j / 10) ++ (UInt8.ofNat (48 + j % 10) :: l) = digs k) := by
        have := HL.out; rw [digs_step j h0] at this; show _ = _; rw [← this]; simp
      have hlen : l.length ≤ 1073741824 := by have h1 := congrArg List.length HL.out; have h2 := hdl.out; simp at h1; omega
      have hd : ((UInt8.ofNat (48 + j % 10)).toNat : Int) = 48 + (j : Int) % 10 := by
        rw [UInt8.toNat_ofNat']; omega
      have hconv : (convert 22 9 (.slice (some ⟨wr.heap.size, 0, none⟩) 1 1)).run Try.prog (wr.alloc (.cells #[.int .u8 (48 + (j : Int) % 10)] 5)) = .ok (.string ⟨[UInt8.ofNat (48 + j % 10)].toArray⟩) (wr.alloc (.cells #[.int .u8 (48 + (j : Int) % 10)] 5)) :=
        run_convert_bytes_back _ 22 9 5 ⟨wr.heap.size, 0, none⟩ 1 [UInt8.ofNat (48 + j % 10)] Try.underlying22 Try.underlying5 Try.underlying9 (fun q hq => by
          have : q = 0 := by simp at hq; omega
          subst this
          rw [show ([UInt8.ofNat (48 + j % 10)][0]'hq) = UInt8.ofNat (48 + j % 10) from rfl, hd]
          simp [Addr.add])
      have hadd : ∀ W, (Op.stringOp .add ⟨[UInt8.ofNat (48 + j % 10)].toArray⟩ ⟨l.toArray⟩).run Try.prog W = .ok (.string ⟨(UInt8.ofNat (48 + j % 10) :: l).toArray⟩) W := fun W =>
        str_add W _ _ [UInt8.ofNat (48 + j % 10)] l (by simp) (by simp) (by simp; omega)
      have hbel2 : Below w.heap.size w (wr.alloc (.cells #[.int .u8 (48 + (j : Int) % 10)] 5)) := hbel.alloc hbel.size _
      have HB2 := Lib.hid hbel2
      have HHd := Lib.hid hd
      clear hd hlen hbel2 hbel
      generalize UInt8.ofNat (48 + j % 10) = d at *
      go_wp2_with fail
      go_roundw
      case rel => exact ⟨j / 10, by go_num, by omega, ⟨_, rfl, HL2⟩, HB2.out⟩
      case measure => simp [RowKit.intOf]; omega
    · have : j = 0 := by omega
      subst this
      have hl : l = digs k := by have := HL.out; rw [digs_zero] at this; simpa using this
      have HLe := Lib.hid hdl.out
      have hadd : ∀ W, (Op.stringOp .add ⟨#[109]⟩ ⟨l.toArray⟩).run Try.prog W = .ok (.string ⟨(markL k).toArray⟩) W := fun W => by
        rw [hl]; exact str_add W _ _ [109] (digs k) (by simp) (by simp) (by have := hdl.out; simp; omega)
      clear hl hdl
      go_wp2_with fail
      go_ret
      exact ⟨rfl, hbel⟩
end Go.Proofs.Ytfgkfdkdjegaiaa
