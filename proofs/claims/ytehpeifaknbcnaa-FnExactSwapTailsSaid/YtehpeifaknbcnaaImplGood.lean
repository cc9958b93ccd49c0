import Derived.Test.YtehpeifaknbcnaaGood
import Derived.Test.YtehpeifaknbcnaaSet
import Derived.StringKeys
namespace Go.Proofs.Ytehpeifaknbcnaa
open Go.RowKit Go.Maps
set_option linter.unusedVariables false

theorem low_of {c : Int} (h : c < 97 ∨ 122 < c) (s : UInt8) (hs : (s.toNat : Int) = c) : lowB s = false := by
  rw [Bool.eq_false_iff]; intro g; rw [lowB_iff] at g; omega
theorem dig_of {c : Int} (h : c < 48 ∨ 57 < c) (s : UInt8) (hs : (s.toNat : Int) = c) : digB s = false := by
  rw [Bool.eq_false_iff]; intro g; rw [digB_iff] at g; omega

theorem isName_any (s : ByteArray) (w : World) (hs : s.size ≤ maxLen) :
    Calls Try.prog 120 #[.string s] w fun e w' => e = .returned (.bool (nameB s)) ∧ w = w' := by
  unfold maxLen at hs
  by_cases hsz : 1 ≤ s.size ∧ s.size ≤ 8
  · obtain ⟨g1, g2⟩ := hsz
    go_enter Try.func120, Try.ntmps120
    go_wp2
    go_loop [16] (fun i => ∃ k : Nat, k ≤ s.size ∧ i = .int .i64 k ∧ Hid (NameTo s k)) (fun i => s.size - (RowKit.intOf i).toNat)
    case atStart => exact ⟨0, Nat.zero_le _, rfl, fun j hj h => by omega⟩
    case round =>
      obtain ⟨k, hk, rfl, HT⟩ := hrel
      by_cases hlt : k < s.size
      · have HB := Lib.hid (byte_ways (s[k].toNat : Int))
        by_cases hk0 : k = 0
        · subst hk0
          rcases HB.out with hb | ⟨hb, hb'⟩ | ⟨hb, hb'⟩ | ⟨hb, hb'⟩ | hb
          all_goals clear HB
          · have HN : Hid (¬ NameOk s) := no_name 0 hlt (low_of (by omega) _ rfl) (.inl rfl)
            have d0 : decide (97 ≤ (s[0].toNat : Int)) = false := decide_eq_false (by omega)
            have d1 : decide ((s[0].toNat : Int) ≤ 122) = true := decide_eq_true (by omega)
            have d2 : decide (48 ≤ (s[0].toNat : Int)) = false := decide_eq_false (by omega)
            have d3 : decide ((s[0].toNat : Int) ≤ 57) = true := decide_eq_true (by omega)
            go_wp2
            go_ret
            exact ⟨by rw [nameB_no HN.out]; rfl, rfl⟩
          · have HN : Hid (¬ NameOk s) := no_name 0 hlt (low_of (by omega) _ rfl) (.inl rfl)
            have d0 : decide (97 ≤ (s[0].toNat : Int)) = false := decide_eq_false (by omega)
            have d1 : decide ((s[0].toNat : Int) ≤ 122) = true := decide_eq_true (by omega)
            have d2 : decide (48 ≤ (s[0].toNat : Int)) = true := decide_eq_true (by omega)
            have d3 : decide ((s[0].toNat : Int) ≤ 57) = true := decide_eq_true (by omega)
            go_wp2
            go_ret
            exact ⟨by rw [nameB_no HN.out]; rfl, rfl⟩
          · have HN : Hid (¬ NameOk s) := no_name 0 hlt (low_of (by omega) _ rfl) (.inl rfl)
            have d0 : decide (97 ≤ (s[0].toNat : Int)) = false := decide_eq_false (by omega)
            have d1 : decide ((s[0].toNat : Int) ≤ 122) = true := decide_eq_true (by omega)
            have d2 : decide (48 ≤ (s[0].toNat : Int)) = true := decide_eq_true (by omega)
            have d3 : decide ((s[0].toNat : Int) ≤ 57) = false := decide_eq_false (by omega)
            go_wp2
            go_ret
            exact ⟨by rw [nameB_no HN.out]; rfl, rfl⟩
          · have HN : Hid (NameTo s (0 + 1)) := nameTo_succ hlt HT.out (.inl ((lowB_iff _).2 ⟨hb, hb'⟩))
            have d0 : decide (97 ≤ (s[0].toNat : Int)) = true := decide_eq_true (by omega)
            have d1 : decide ((s[0].toNat : Int) ≤ 122) = true := decide_eq_true (by omega)
            have d2 : decide (48 ≤ (s[0].toNat : Int)) = true := decide_eq_true (by omega)
            have d3 : decide ((s[0].toNat : Int) ≤ 57) = false := decide_eq_false (by omega)
            go_wp2
            all_goals exact ⟨⟨0 + 1, by omega, by go_num, HN⟩, by simp [RowKit.intOf]; omega⟩
          · have HN : Hid (¬ NameOk s) := no_name 0 hlt (low_of (by omega) _ rfl) (.inl rfl)
            have d0 : decide (97 ≤ (s[0].toNat : Int)) = true := decide_eq_true (by omega)
            have d1 : decide ((s[0].toNat : Int) ≤ 122) = false := decide_eq_false (by omega)
            have d2 : decide (48 ≤ (s[0].toNat : Int)) = true := decide_eq_true (by omega)
            have d3 : decide ((s[0].toNat : Int) ≤ 57) = false := decide_eq_false (by omega)
            go_wp2
            go_ret
            exact ⟨by rw [nameB_no HN.out]; rfl, rfl⟩
        · have hk1 : ((k : Int) == 0) = false := by rw [beq_eq_false_iff_ne]; omega
          have HK := Lib.hid hk0
          clear hk0
          rcases HB.out with hb | ⟨hb, hb'⟩ | ⟨hb, hb'⟩ | ⟨hb, hb'⟩ | hb
          all_goals clear HB
          · have HN : Hid (¬ NameOk s) := no_name k hlt (low_of (by omega) _ rfl) (.inr (dig_of (by omega) _ rfl))
            have d0 : decide (97 ≤ (s[k].toNat : Int)) = false := decide_eq_false (by omega)
            have d1 : decide ((s[k].toNat : Int) ≤ 122) = true := decide_eq_true (by omega)
            have d2 : decide (48 ≤ (s[k].toNat : Int)) = false := decide_eq_false (by omega)
            have d3 : decide ((s[k].toNat : Int) ≤ 57) = true := decide_eq_true (by omega)
            go_wp2
            go_ret
            exact ⟨by rw [nameB_no HN.out]; rfl, rfl⟩
          · have HN : Hid (NameTo s (k + 1)) := nameTo_succ hlt HT.out (.inr ⟨HK.out, (digB_iff _).2 ⟨hb, hb'⟩⟩)
            have d0 : decide (97 ≤ (s[k].toNat : Int)) = false := decide_eq_false (by omega)
            have d1 : decide ((s[k].toNat : Int) ≤ 122) = true := decide_eq_true (by omega)
            have d2 : decide (48 ≤ (s[k].toNat : Int)) = true := decide_eq_true (by omega)
            have d3 : decide ((s[k].toNat : Int) ≤ 57) = true := decide_eq_true (by omega)
            go_wp2
            all_goals exact ⟨⟨k + 1, by omega, by go_num, HN⟩, by simp [RowKit.intOf]; omega⟩
          · have HN : Hid (¬ NameOk s) := no_name k hlt (low_of (by omega) _ rfl) (.inr (dig_of (by omega) _ rfl))
            have d0 : decide (97 ≤ (s[k].toNat : Int)) = false := decide_eq_false (by omega)
            have d1 : decide ((s[k].toNat : Int) ≤ 122) = true := decide_eq_true (by omega)
            have d2 : decide (48 ≤ (s[k].toNat : Int)) = true := decide_eq_true (by omega)
            have d3 : decide ((s[k].toNat : Int) ≤ 57) = false := decide_eq_false (by omega)
            go_wp2
            go_ret
            exact ⟨by rw [nameB_no HN.out]; rfl, rfl⟩
          · have HN : Hid (NameTo s (k + 1)) := nameTo_succ hlt HT.out (.inl ((lowB_iff _).2 ⟨hb, hb'⟩))
            have d0 : decide (97 ≤ (s[k].toNat : Int)) = true := decide_eq_true (by omega)
            have d1 : decide ((s[k].toNat : Int) ≤ 122) = true := decide_eq_true (by omega)
            have d2 : decide (48 ≤ (s[k].toNat : Int)) = true := decide_eq_true (by omega)
            have d3 : decide ((s[k].toNat : Int) ≤ 57) = false := decide_eq_false (by omega)
            go_wp2
            all_goals exact ⟨⟨k + 1, by omega, by go_num, HN⟩, by simp [RowKit.intOf]; omega⟩
          · have HN : Hid (¬ NameOk s) := no_name k hlt (low_of (by omega) _ rfl) (.inr (dig_of (by omega) _ rfl))
            have d0 : decide (97 ≤ (s[k].toNat : Int)) = true := decide_eq_true (by omega)
            have d1 : decide ((s[k].toNat : Int) ≤ 122) = false := decide_eq_false (by omega)
            have d2 : decide (48 ≤ (s[k].toNat : Int)) = true := decide_eq_true (by omega)
            have d3 : decide ((s[k].toNat : Int) ≤ 57) = false := decide_eq_false (by omega)
            go_wp2
            go_ret
            exact ⟨by rw [nameB_no HN.out]; rfl, rfl⟩
      · have HN : Hid (NameOk s) := ⟨g1, g2, fun j hj => HT.out j hj (by omega)⟩
        go_wp2
        go_ret
        exact ⟨by rw [nameB_yes HN.out]; rfl, rfl⟩
  · have HN : Hid (¬ NameOk s) := fun h => hsz ⟨h.1, h.2.1⟩
    by_cases h1 : s.size < 1
    · clear hsz
      go_enter Try.func120, Try.ntmps120
      go_wp2
      go_ret
      exact ⟨by rw [nameB_no HN.out]; rfl, rfl⟩
    · have h2 : 8 < s.size := by omega
      clear hsz
      go_enter Try.func120, Try.ntmps120
      go_wp2
      go_ret
      exact ⟨by rw [nameB_no HN.out]; rfl, rfl⟩

def NameSet (b : Nat) (S : List ByteArray) (w : World) : Prop := SetOf Try.prog 9 4 sLit b S w
def IntSet (b : Nat) (S : List Int) (w : World) : Prop := SetOf Try.prog 3 4 iLit b S w
theorem zeroBool (W : World) : (zeroValue 4).run Try.prog W = .ok (.bool false) W := by kernel_rfl
theorem keyS {s : ByteArray} (hs : s.size ≤ maxLen) : keyOf Try.prog 9 (.string s) = some (sLit s) := WideMaps.keyOf_string_mk Try.underlying9 hs
theorem keyI {n : Int} (hn : (Lit.int .i64 n).wf = true) : keyOf Try.prog 3 (.int .i64 n) = some (iLit n) := keyOf_int_mk Try.underlying3 hn
theorem NameSet.look {b : Nat} {S : List ByteArray} {w : World} (h : NameSet b S w) {s : ByteArray} (hs : s.size ≤ maxLen) : (Instr.lookup 121 (.map (some b)) (.string s) false).run Try.prog w = .ok (.bool (memB s S)) w :=
  SetOf.look h (string_keyed Try.underlying9) Try.underlying121 Try.underlying4 (zeroBool w) (keyS hs)
theorem NameSet.put {b : Nat} {S : List ByteArray} {w : World} (h : NameSet b S w) {s : ByteArray} (hs : s.size ≤ maxLen) (hn : S.length < maxLen) : ∃ w', (Instr.mapUpdate 121 (.map (some b)) (.string s) (.bool true)).run Try.prog w = .ok () w' ∧ NameSet b (S ++ [s]) w' ∧ w.grownBy w' (some b) :=
  SetOf.put h (string_keyed Try.underlying9) Try.underlying121 Try.underlying4 sLit_inj hn (keyS hs)
theorem IntSet.look {b : Nat} {S : List Int} {w : World} (h : IntSet b S w) {n : Int} (hs : (Lit.int .i64 n).wf = true) : (Instr.lookup 146 (.map (some b)) (.int .i64 n) false).run Try.prog w = .ok (.bool (memB n S)) w :=
  SetOf.look h (int_keyed Try.underlying3) Try.underlying146 Try.underlying4 (zeroBool w) (keyI hs)
theorem IntSet.put {b : Nat} {S : List Int} {w : World} (h : IntSet b S w) {n : Int} (hs : (Lit.int .i64 n).wf = true) (hn : S.length < maxLen) : ∃ w', (Instr.mapUpdate 146 (.map (some b)) (.int .i64 n) (.bool true)).run Try.prog w = .ok () w' ∧ IntSet b (S ++ [n]) w' ∧ w.grownBy w' (some b) :=
  SetOf.put h (int_keyed Try.underlying3) Try.underlying146 Try.underlying4 iLit_inj hn (keyI hs)

theorem takeName_no (b : Nat) (S : List ByteArray) (s : ByteArray) (w : World) (hs : s.size ≤ maxLen) (h : NameSet b S w) (hno : ¬ NameOk s ∨ s ∈ S) :
    Calls Try.prog 94 #[.map (some b), .string s] w fun e w' => e = .returned (.bool false) ∧ w = w' := by
  have HN := Lib.hid (fun W => isName_any s W hs)
  by_cases hnm : NameOk s
  · have hin : s ∈ S := by rcases hno with h | h; exact absurd hnm h; exact h
    have hl := h.look hs
    rw [memB_yes hin] at hl
    rw [nameB_yes hnm] at HN
    clear hno hnm hin h
    go_enter Try.func94, Try.ntmps94
    go_wp2_with (go_at_call 120; refine (HN.out _).mono ?_; rintro e w' ⟨rfl, rfl⟩)
    go_ret
    exact ⟨rfl, rfl⟩
  · rw [nameB_no hnm] at HN
    clear hno hnm h
    go_enter Try.func94, Try.ntmps94
    go_wp2_with (go_at_call 120; refine (HN.out _).mono ?_; rintro e w' ⟨rfl, rfl⟩)
    go_ret
    exact ⟨rfl, rfl⟩
theorem takeName_yes (b : Nat) (S : List ByteArray) (s : ByteArray) (w : World) (hs : s.size ≤ maxLen) (h : NameSet b S w) (hnm : NameOk s) (hin : s ∉ S) (hn : S.length < maxLen) :
    Calls Try.prog 94 #[.map (some b), .string s] w fun e w' => e = .returned (.bool true) ∧ NameSet b (S ++ [s]) w' ∧ w.grownBy w' (some b) := by
  have HN := Lib.hid (fun W => isName_any s W hs)
  have hl := h.look hs
  rw [memB_no hin] at hl
  rw [nameB_yes hnm] at HN
  obtain ⟨w1, hput, hs1, hg1⟩ := h.put hs hn
  have HS := Lib.hid hs1
  have HG := Lib.hid hg1
  clear hnm hin h hs1 hg1
  go_enter Try.func94, Try.ntmps94
  go_wp2_with (go_at_call 120; refine (HN.out _).mono ?_; rintro e w' ⟨rfl, rfl⟩)
  go_ret
  exact ⟨rfl, HS.out, HG.out⟩
end Go.Proofs.Ytehpeifaknbcnaa
