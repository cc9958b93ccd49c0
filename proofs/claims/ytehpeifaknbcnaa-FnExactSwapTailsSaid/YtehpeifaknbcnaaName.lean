import Derived.Test.YtehpeifaknbcnaaRows
import Derived.Test.YtehpeifaknbcnaaMk01
import Derived.Test.YtehpeifaknbcnaaMk14
import Derived.WalkLawsBesides
import Derived.LoopTactic
import Derived.Lib.Hide
namespace Go.Proofs.Ytehpeifaknbcnaa
open Go.RowKit
set_option linter.unusedVariables false

def NameTo (s : ByteArray) (k : Nat) : Prop := ∀ j (h : j < s.size), j < k → lowB s[j] = true ∨ (j ≠ 0 ∧ digB s[j] = true)
theorem nameTo_succ {s : ByteArray} {k : Nat} (hk : k < s.size) (h : NameTo s k) (hc : lowB s[k] = true ∨ (k ≠ 0 ∧ digB s[k] = true)) : NameTo s (k + 1) := by
  intro j hj hjk
  by_cases e : j = k
  · subst e; exact hc
  · exact h j hj (by omega)
theorem lowB_iff (c : UInt8) : lowB c = true ↔ 97 ≤ (c.toNat : Int) ∧ (c.toNat : Int) ≤ 122 := by simp [lowB]
theorem digB_iff (c : UInt8) : digB c = true ↔ 48 ≤ (c.toNat : Int) ∧ (c.toNat : Int) ≤ 57 := by simp [digB]
theorem no_name {s : ByteArray} (k : Nat) (hk : k < s.size) (h1 : lowB s[k] = false) (h2 : k = 0 ∨ digB s[k] = false) : ¬ NameOk s := by
  rintro ⟨_, _, h⟩
  rcases h k hk with g | ⟨g1, g2⟩
  · rw [h1] at g; cases g
  · rcases h2 with e | e
    · exact g1 e
    · rw [e] at g2; cases g2

theorem byte_ways (c : Int) : c < 48 ∨ (48 ≤ c ∧ c ≤ 57) ∨ (57 < c ∧ c < 97) ∨ (97 ≤ c ∧ c ≤ 122) ∨ 122 < c := by omega

theorem l2Name_any (s : ByteArray) (w : World) (hs : s.size ≤ maxLen) :
    Calls Try.prog 116 #[.string s] w fun e w' => e = .returned (.bool (nameB s)) ∧ w = w' := by
  unfold maxLen at hs
  by_cases hsz : 1 ≤ (s.size : Int) ∧ (s.size : Int) ≤ 8
  · by_cases h0 : 97 ≤ (s[0].toNat : Int) ∧ (s[0].toNat : Int) ≤ 122
    · obtain ⟨g1, g2⟩ := hsz
      obtain ⟨h1, h2⟩ := h0
      have HL := Lib.hid ((lowB_iff s[0]).2 ⟨h1, h2⟩)
      go_enter Try.func116, Try.ntmps116
      go_wp2_with (go_at_call 92; refine (l1In_yes _ _ _ _ ⟨g1, g2⟩).mono ?_; rintro e w' ⟨rfl, rfl⟩)
      go_loop [3] (fun i => ∃ k : Nat, k ≤ s.size ∧ i = .int .i64 k ∧ Hid (NameTo s k)) (fun i => s.size - (RowKit.intOf i).toNat)
      case atStart => exact ⟨0, Nat.zero_le _, rfl, fun j hj h => by omega⟩
      case round =>
        obtain ⟨k, hk, rfl, HT⟩ := hrel
        by_cases hlt : k < s.size
        · have HB := Lib.hid (byte_ways (s[k].toNat : Int))
          rcases HB.out with hb | ⟨hb, hb'⟩ | ⟨hb, hb'⟩ | ⟨hb, hb'⟩ | hb
          all_goals clear HB
          · have HN : Hid (¬ NameOk s) := by
              by_cases e : k = 0
              · subst e; exact absurd h1 (by omega)
              · exact no_name k hlt (by rw [Bool.eq_false_iff]; intro g; rw [lowB_iff] at g; omega) (.inr (by rw [Bool.eq_false_iff]; intro g; rw [digB_iff] at g; omega))
            go_wp2
            go_ret
            exact ⟨by rw [nameB_no HN.out]; rfl, rfl⟩
          · have HN : Hid (NameTo s (k + 1)) := nameTo_succ hlt HT.out (.inr ⟨by intro e; subst e; omega, (digB_iff _).2 ⟨hb, hb'⟩⟩)
            go_wp2
            go_round
            case rel => exact ⟨k + 1, by omega, by go_num, HN⟩
            case measure => simp [RowKit.intOf]; omega
          · have HN : Hid (¬ NameOk s) := by
              by_cases e : k = 0
              · subst e; exact absurd h1 (by omega)
              · exact no_name k hlt (by rw [Bool.eq_false_iff]; intro g; rw [lowB_iff] at g; omega) (.inr (by rw [Bool.eq_false_iff]; intro g; rw [digB_iff] at g; omega))
            go_wp2
            go_ret
            exact ⟨by rw [nameB_no HN.out]; rfl, rfl⟩
          · have HN : Hid (NameTo s (k + 1)) := nameTo_succ hlt HT.out (.inl ((lowB_iff _).2 ⟨hb, hb'⟩))
            go_wp2
            go_round
            case rel => exact ⟨k + 1, by omega, by go_num, HN⟩
            case measure => simp [RowKit.intOf]; omega
          · have HN : Hid (¬ NameOk s) := by
              by_cases e : k = 0
              · subst e; exact absurd h2 (by omega)
              · exact no_name k hlt (by rw [Bool.eq_false_iff]; intro g; rw [lowB_iff] at g; omega) (.inr (by rw [Bool.eq_false_iff]; intro g; rw [digB_iff] at g; omega))
            go_wp2
            go_ret
            exact ⟨by rw [nameB_no HN.out]; rfl, rfl⟩
        · have HN : Hid (NameOk s) := ⟨by omega, by omega, fun j hj => HT.out j hj (by omega)⟩
          go_wp2
          go_ret
          exact ⟨by rw [nameB_yes HN.out]; rfl, rfl⟩
    · have HN : Hid (¬ NameOk s) := no_name 0 (by omega) (by rw [Bool.eq_false_iff]; intro g; rw [lowB_iff] at g; exact h0 g) (.inl rfl)
      obtain ⟨g1, g2⟩ := hsz
      have h0' : (s[0].toNat : Int) < 97 ∨ 122 < (s[0].toNat : Int) := by omega
      clear h0
      rcases h0' with h0 | h0
      all_goals
        go_enter Try.func116, Try.ntmps116
        go_wp2_with (go_at_call 92; refine (l1In_yes _ _ _ _ ⟨g1, g2⟩).mono ?_; rintro e w' ⟨rfl, rfl⟩)
        go_ret
        exact ⟨by rw [nameB_no HN.out]; rfl, rfl⟩
  · have HN : Hid (¬ NameOk s) := fun h => hsz ⟨by have := h.1; omega, by have := h.2.1; omega⟩
    have HI := Lib.hid hsz
    clear hsz
    go_enter Try.func116, Try.ntmps116
    go_wp2_with (go_at_call 92; refine (l1In_no _ _ _ _ HI.out).mono ?_; rintro e w' ⟨rfl, rfl⟩)
    go_ret
    exact ⟨by rw [nameB_no HN.out]; rfl, rfl⟩
end Go.Proofs.Ytehpeifaknbcnaa
