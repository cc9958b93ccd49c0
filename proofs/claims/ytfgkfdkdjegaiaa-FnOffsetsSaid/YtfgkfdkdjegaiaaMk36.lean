/-
  JOINED TEXTS, each under its own namespace line: EvenTimes, RInts, GapsFact.
-/
import Derived.Test.YtfgkfdkdjegaiaaDoubleWait
import Derived.Test.YtfgkfdkdjegaiaaSquares
import Derived.Test.YtfgkfdkdjegaiaaMk27
namespace Go.Proofs.Ytfgkfdkdjegaiaa
open Go.RowKit
set_option linter.unusedVariables false
set_option linter.unusedSimpArgs false

theorem evB_iff {c p : Int} : evB c p = true ↔ (1 ≤ p ∧ p ≤ 60) ∧ (1 ≤ c ∧ c ≤ p) := by unfold evB; simp
theorem evB_no {c p : Int} (h : ¬ ((1 ≤ p ∧ p ≤ 60) ∧ (1 ≤ c ∧ c ≤ p))) : evB c p = false := by
  cases hb : evB c p with
  | false => rfl
  | true => exact absurd (evB_iff.1 hb) h
theorem evF_yes {c : Nat} {p : Int} (h : evB (c : Int) p = true) : evF (c : Int) p = evenL c p := by unfold evF; rw [h]; rfl
theorem evF_no {c p : Int} (h : evB c p = false) : evF c p = [] := by unfold evF; rw [h]; rfl
theorem even_nat {c : Nat} {p : Int} (h : 1 ≤ p ∧ p ≤ 60) {i : Nat} (hi : i < c) (hc : (c : Int) ≤ p) : (i : Int) * p ≤ 3600 ∧ 0 ≤ (i : Int) * p := by
  have h1 : (i : Int) * p ≤ 60 * 60 := Int.mul_le_mul (by omega) h.2 (by omega) (by omega)
  exact ⟨by omega, Int.mul_nonneg (by omega) (by omega)⟩

set_option maxRecDepth 100000 in
set_option maxHeartbeats 4000000 in
theorem l10Even_any (c : Nat) (p : Int) (w : World) (hp : 1 ≤ p ∧ p ≤ 60) (hcp : (c : Int) ≤ p) :
    Calls Try.prog 68 #[.int .i64 c, .int .i64 p] w fun e w' => (∃ v', e = .returned v' ∧ w'.ownsRow w.heap.size 3 1 v' (evenL c p).length (ints (evenL c p))) ∧ Below w.heap.size w w' := by
  obtain ⟨i0, hi0, hz0, hz1, hz2⟩ := info_parts infoInt
  have HRow := Lib.hid (row_new w w.heap.size (Nat.le_refl _))
  go_enter Try.func68, Try.ntmps68
  go_wp2_with fail
  go_loopw [5, 6] (fun o q wr => ∃ k : Nat, k ≤ c ∧ q = .int .i64 k ∧ Hid (o.ownBlock ≠ none ∧ wr.ownsRow w.heap.size 3 1 o k (ints (evenK c p k))) ∧ Hid (Below w.heap.size w wr))
    (fun _ q _ => c - (RowKit.intOf q).toNat)
  case atStart => exact ⟨0, Nat.zero_le _, rfl, ⟨by simp [Value.ownBlock], HRow.out⟩, (Below.refl _ _).alloc (Nat.le_refl _) _⟩
  case round =>
    obtain ⟨k, hk, rfl, HOwn, HB⟩ := hrel
    obtain ⟨og, oc, rfl, hoc, hom, hogl, hogb, -⟩ := own_open HOwn.out.2 HOwn.out.1
    have hz := HB.out.size
    by_cases hlt : k < c
    · have hk1 : (k : Int) < (c : Int) := by omega
      have HSucc := Lib.hid (evenK_succ c p k)
      have hb := even_nat hp hlt hcp
      have hc0 : ¬ (c : Int) = 0 := by omega
      have hc1 : ((c : Int) == 0) = false := by simp; omega
      have hbe := evenI_in (c := c) (p := p) (by omega) hlt
      have htd : ((k : Int) * p).tdiv (c : Int) = evenI c p k := Int.tdiv_eq_ediv_of_nonneg hb.2
      have hw1 : IntKind.i64.wrap ((k : Int) * p) = (k : Int) * p := IntWalk.i64_in _ (by omega)
      generalize evenI c p k = x at *
      have hw2 : IntKind.i64.wrap x = x := IntWalk.i64_in _ (by omega)
      go_wp2_with (at_builtin; refine wpList_append_own _ rfl _ _ 31 rfl w.heap.size 3 i0 (.int .i64 0) 1 8 Try.underlying31 hi0 hz0 hz1 hz2 rfl (by decide) _ _ _ rfl (HOwn.out.2.alloc _) ⟨wr.heap.size, 0, none⟩ 1 1 [.int .i64 x] rfl rfl ?c1 ?c2 ?c3 ?c4 ?c5 ?_)
      try (case c1 => exact one_newN _ _ _ (by simp))
      case c2 => first | rfl | (intro u hu; simp at hu; subst hu; rfl)
      case c3 => first | omega | (unfold maxLen; omega)
      case c4 => omega
      case c5 => first | omega | (simp; omega)
      intro v' w3 hown' hgrow _
      have HB3 : Hid (Below w.heap.size w w3) := (HB.out.alloc hz _).grown hgrow (by simp; omega) (fun g hg => by have := (HOwn.out.2.lt g hg).1; omega)
      have HR : Hid (v'.ownBlock ≠ none ∧ w3.ownsRow w.heap.size 3 1 v' (k + 1) (ints (evenK c p (k + 1)))) := by
        refine ⟨own_someE hown' (by omega), ?_⟩
        rw [HSucc.out]; simpa [ints] using hown'
      clear hown' hgrow
      go_wp2_with fail
      go_roundw
      case rel => exact ⟨k + 1, by omega, by go_num, HR, HB3⟩
      case measure => simp [RowKit.intOf]; omega
    · obtain rfl : k = c := by omega
      have HX : Hid (wr.ownsRow w.heap.size 3 1 (.slice (some ⟨og, 0, none⟩) k oc) (evenL k p).length (ints (evenL k p))) := by
        show World.ownsRow _ _ _ _ _ _ _
        rw [evenL_len]; exact HOwn.out.2
      clear HOwn
      go_wp2_with fail
      go_ret
      exact ⟨⟨_, rfl, HX.out⟩, HB.out⟩

set_option maxRecDepth 100000 in
set_option maxHeartbeats 4000000 in
theorem specEvenTimes_any (c p : Int) (w : World) :
    Calls Try.prog 39 #[.int .i64 c, .int .i64 p] w fun e w' => StAns w.heap.size (evF c p) (evB c p) e w' ∧ Below w.heap.size w w' := by
  by_cases hp : 1 ≤ p ∧ p ≤ 60
  · have HP := Lib.hid (fun W => l1In_yes p 1 60 W hp)
    by_cases hc : 1 ≤ c ∧ c ≤ p
    · have HC := Lib.hid (fun W => l1In_yes c 1 p W hc)
      obtain ⟨c, rfl⟩ := Int.eq_ofNat_of_zero_le (show 0 ≤ c by omega)
      have hb : evB (c : Int) p = true := evB_iff.2 ⟨hp, hc⟩
      rw [evF_yes hb, hb]
      have HE := Lib.hid (l10Even_any c p w hp hc.2)
      clear hb hp hc
      go_enter Try.func39, Try.ntmps39
      go_wp2_with fail
      go_at_call 66
      refine (HP.out _).mono ?_
      rintro e w2 ⟨rfl, rfl⟩
      go_wp2_with fail
      go_at_call 66
      refine (HC.out _).mono ?_
      rintro e w2 ⟨rfl, rfl⟩
      go_wp2_with fail
      go_at_call 68
      refine HE.out.mono ?_
      rintro e w2 ⟨⟨v2, rfl, ho2⟩, hb2⟩
      have HX := Lib.hid ho2
      have HB2 := Lib.hid hb2
      clear ho2 hb2
      go_wp2_with fail
      go_ret2
      exact ⟨⟨_, rfl, HX.out⟩, HB2.out⟩
    · have HC := Lib.hid (fun W => l1In_no c 1 p W hc)
      have hb : evB c p = false := evB_no (fun h => hc h.2)
      rw [evF_no hb, hb]
      clear hb hp hc
      go_enter Try.func39, Try.ntmps39
      go_wp2_with fail
      go_at_call 66
      refine (HP.out _).mono ?_
      rintro e w2 ⟨rfl, rfl⟩
      go_wp2_with fail
      go_at_call 66
      refine (HC.out _).mono ?_
      rintro e w2 ⟨rfl, rfl⟩
      go_wp2_with fail
      go_ret2
      exact ⟨empty_st _ (Nat.le_refl _), (Below.refl _ _).alloc (Nat.le_refl _) _⟩
  · have HP := Lib.hid (fun W => l1In_no p 1 60 W hp)
    have hb : evB c p = false := evB_no (fun h => hp h.1)
    rw [evF_no hb, hb]
    clear hb hp
    go_enter Try.func39, Try.ntmps39
    go_wp2_with fail
    go_at_call 66
    refine (HP.out _).mono ?_
    rintro e w2 ⟨rfl, rfl⟩
    go_wp2_with fail
    go_ret2
    exact ⟨empty_st _ (Nat.le_refl _), (Below.refl _ _).alloc (Nat.le_refl _) _⟩

set_option maxRecDepth 100000 in
set_option maxHeartbeats 4000000 in
theorem implEvenTimes_any (c p : Int) (w : World) :
    Calls Try.prog 38 #[.int .i64 c, .int .i64 p] w fun e w' => StAns w.heap.size (evF c p) (evB c p) e w' ∧ Below w.heap.size w w' := by
  have HRow := Lib.hid (row_new w w.heap.size (Nat.le_refl _))
  have HP := Lib.hid (fun W => isPeriod_any p W)
  by_cases hp : 1 ≤ p ∧ p ≤ 60
  · rw [show perB p = true from decide_eq_true hp] at HP
    by_cases hc0 : c < 1
    · have hd0 : decide (c < 1) = true := decide_eq_true hc0
      have hb : evB c p = false := evB_no (fun h => by omega)
      rw [evF_no hb, hb]
      clear hb hp hc0
      go_enter Try.func38, Try.ntmps38
      go_wp2_with fail
      go_at_call 61
      refine (HP.out _).mono ?_
      rintro e w2 ⟨rfl, rfl⟩
      go_wp2_with fail
      go_ret2
      exact ⟨⟨_, rfl, HRow.out⟩, (Below.refl _ _).alloc (Nat.le_refl _) _⟩
    · have hd0 : decide (c < 1) = false := decide_eq_false hc0
      by_cases hc1 : p < c
      · have hd1 : decide (p < c) = true := decide_eq_true hc1
        have hb : evB c p = false := evB_no (fun h => by omega)
        rw [evF_no hb, hb]
        clear hb hp hc0 hc1
        go_enter Try.func38, Try.ntmps38
        go_wp2_with fail
        go_at_call 61
        refine (HP.out _).mono ?_
        rintro e w2 ⟨rfl, rfl⟩
        go_wp2_with fail
        go_ret2
        exact ⟨⟨_, rfl, HRow.out⟩, (Below.refl _ _).alloc (Nat.le_refl _) _⟩
      · have hd1 : decide (p < c) = false := decide_eq_false hc1
        obtain ⟨c, rfl⟩ := Int.eq_ofNat_of_zero_le (show 0 ≤ c by omega)
        have hb : evB (c : Int) p = true := evB_iff.2 ⟨hp, by omega, by omega⟩
        have hcp : (c : Int) ≤ p := by omega
        rw [evF_yes hb, hb]
        clear hb
        obtain ⟨i0, hi0, hz0, hz1, hz2⟩ := info_parts infoInt
        go_enter Try.func38, Try.ntmps38
        go_wp2_with fail
        go_at_call 61
        refine (HP.out _).mono ?_
        rintro e w2 ⟨rfl, rfl⟩
        go_wp2_with fail
        go_loopw [6, 23] (fun o q wr => ∃ k : Nat, k ≤ c ∧ q = .int .i64 k ∧ Hid (o.ownBlock ≠ none ∧ wr.ownsRow w.heap.size 3 1 o k (ints (evenK c p k))) ∧ Hid (Below w.heap.size w wr))
          (fun _ q _ => c - (RowKit.intOf q).toNat)
        case atStart => exact ⟨0, Nat.zero_le _, rfl, ⟨by simp [Value.ownBlock], HRow.out⟩, (Below.refl _ _).alloc (Nat.le_refl _) _⟩
        case round =>
          obtain ⟨k, hk, rfl, HOwn, HB⟩ := hrel
          obtain ⟨og, oc, rfl, hoc, hom, hogl, hogb, -⟩ := own_open HOwn.out.2 HOwn.out.1
          have hz := HB.out.size
          by_cases hlt : k < c
          · have hk1 : (k : Int) < (c : Int) := by omega
            have HSucc := Lib.hid (evenK_succ c p k)
            have hb := even_nat hp hlt hcp
            have hc0 : ¬ (c : Int) = 0 := by omega
            have hc1 : ((c : Int) == 0) = false := by simp; omega
            have hbe := evenI_in (c := c) (p := p) (by omega) hlt
            have htd : ((k : Int) * p).tdiv (c : Int) = evenI c p k := Int.tdiv_eq_ediv_of_nonneg hb.2
            have hw1 : IntKind.i64.wrap ((k : Int) * p) = (k : Int) * p := IntWalk.i64_in _ (by omega)
            generalize evenI c p k = x at *
            have hw2 : IntKind.i64.wrap x = x := IntWalk.i64_in _ (by omega)
            go_wp2_with (at_builtin; refine wpList_append_own _ rfl _ _ 31 rfl w.heap.size 3 i0 (.int .i64 0) 1 8 Try.underlying31 hi0 hz0 hz1 hz2 rfl (by decide) _ _ _ rfl (HOwn.out.2.alloc _) ⟨wr.heap.size, 0, none⟩ 1 1 [.int .i64 x] rfl rfl ?c1 ?c2 ?c3 ?c4 ?c5 ?_)
            try (case c1 => exact one_newN _ _ _ (by simp))
            case c2 => first | rfl | (intro u hu; simp at hu; subst hu; rfl)
            case c3 => first | omega | (unfold maxLen; omega)
            case c4 => omega
            case c5 => first | omega | (simp; omega)
            intro v' w3 hown' hgrow _
            have HB3 : Hid (Below w.heap.size w w3) := (HB.out.alloc hz _).grown hgrow (by simp; omega) (fun g hg => by have := (HOwn.out.2.lt g hg).1; omega)
            have HR : Hid (v'.ownBlock ≠ none ∧ w3.ownsRow w.heap.size 3 1 v' (k + 1) (ints (evenK c p (k + 1)))) := by
              refine ⟨own_someE hown' (by omega), ?_⟩
              rw [HSucc.out]; simpa [ints] using hown'
            clear hown' hgrow
            go_wp2_with fail
            go_roundw
            case rel => exact ⟨k + 1, by omega, by go_num, HR, HB3⟩
            case measure => simp [RowKit.intOf]; omega
          · obtain rfl : k = c := by omega
            have HX : Hid (wr.ownsRow w.heap.size 3 1 (.slice (some ⟨og, 0, none⟩) k oc) (evenL k p).length (ints (evenL k p))) := by
              show World.ownsRow _ _ _ _ _ _ _
              rw [evenL_len]; exact HOwn.out.2
            clear HOwn
            go_wp2_with fail
            go_ret2
            exact ⟨⟨_, rfl, HX.out⟩, HB.out⟩
  · rw [show perB p = false from decide_eq_false hp] at HP
    have hb : evB c p = false := evB_no (fun h => hp h.1)
    rw [evF_no hb, hb]
    clear hb hp
    go_enter Try.func38, Try.ntmps38
    go_wp2_with fail
    go_at_call 61
    refine (HP.out _).mono ?_
    rintro e w2 ⟨rfl, rfl⟩
    go_wp2_with fail
    go_ret2
    exact ⟨⟨_, rfl, HRow.out⟩, (Below.refl _ _).alloc (Nat.le_refl _) _⟩

end Go.Proofs.Ytfgkfdkdjegaiaa

namespace Go.Proofs.Ytfgkfdkdjegaiaa
open Go.RowKit
set_option linter.unusedVariables false
set_option linter.unusedSimpArgs false

set_option maxRecDepth 100000 in
theorem rBig_any (a : Option Addr) (n c : Nat) (w : World) (hn : n ≤ maxLen) :
    (65536 < n → Calls Try.prog 15 #[.slice a n c] w fun e w' => e = .returned (.bool true) ∧ w = w') ∧
    (n ≤ 65536 → Calls Try.prog 15 #[.slice a n c] w fun e w' => e = .returned (.bool false) ∧ w = w') := by
  unfold maxLen at hn
  constructor
  · intro h
    have hd : decide ((65536 : Int) < (n : Int)) = true := by simp; omega
    go_enter Try.func15, Try.ntmps15
    go_wp2
    go_ret
    exact ⟨by simp, rfl⟩
  · intro h
    have hd : decide ((65536 : Int) < (n : Int)) = false := by simp; omega
    go_enter Try.func15, Try.ntmps15
    go_wp2
    go_ret
    exact ⟨by simp, rfl⟩

set_option maxRecDepth 100000 in
set_option maxHeartbeats 2000000 in
theorem rInts_any (v u : Value) (xs : List Int) (w : World) (hv : RowAt w v (ints xs)) (hu : RowAt w u (ints xs)) :
    Calls Try.prog 19 #[v, u] w fun e w' => e = .returned (.bool true) ∧ Below w.heap.size w w' := by
  obtain ⟨a, c, rfl, hl1, hl2, HX⟩ := ints_open hv
  obtain ⟨a2, c2, rfl, _, _, HY⟩ := ints_open hu
  have hl : xs.length ≤ 9223372036854775807 := by omega
  clear hv hu hl1 hl2
  go_enter Try.func19, Try.ntmps19
  go_wp2_with fail
  go_loopw [5] (fun i wr => ∃ k : Nat, k ≤ xs.length ∧ i = .int .i64 (k : Int) ∧ Hid (Below w.heap.size w wr)) (fun i _ => xs.length - (RowKit.intOf i).toNat)
  case atStart => exact ⟨0, Nat.zero_le _, rfl, Below.refl _ _⟩
  case round =>
    obtain ⟨k, hk, rfl, HB⟩ := hrel
    by_cases hlt : k < xs.length
    · obtain ⟨b, off, rfl, hbl, y0⟩ := HX.out k hlt
      have hx0 := bkeep HB.out y0
      obtain ⟨b2, off2, rfl, hbl2, z0⟩ := HY.out k hlt
      have hy0 := bkeep HB.out z0
      clear y0 z0
      generalize xs[k] = y at *
      go_wp2_with (go_quiet (fail))
      go_roundw
      case rel => exact ⟨k + 1, by omega, by go_num, below_drewN HB.out _⟩
      case measure => simp [RowKit.intOf]; omega
    · have hkl : k = xs.length := by omega
      subst hkl
      go_wp2_with fail
      go_ret
      exact ⟨rfl, HB.out⟩

end Go.Proofs.Ytfgkfdkdjegaiaa

namespace Go.Proofs.Ytfgkfdkdjegaiaa
open Go.RowKit
set_option linter.unusedVariables false
set_option linter.unusedSimpArgs false

theorem lineTot_le : ∀ (ls : List LineD), (∀ l ∈ ls, AnyLn l) → lineTot ls ≤ 36 * ls.length
  | [], _ => by simp [lineTot]
  | l :: ls, h => by
    have h1 := h l (by simp)
    have h2 := lineTot_le ls (fun x hx => h x (by simp [hx]))
    have h3 : lineSz l ≤ 36 := by have := h1.1; have := h1.2.1; have := h1.2.2.1; unfold lineSz; omega
    unfold lineTot at *
    simp only [List.map_cons, List.sum_cons, List.length_cons]
    omega
theorem any_fits {d : NetD} (h1 : d.stops.length ≤ 8 ∧ ∀ s ∈ d.stops, s.size ≤ 20) (h2 : d.lines.length ≤ 12) (h3 : ∀ l ∈ d.lines, AnyLn l) : NetFits d ∧ NetSmall d := by
  refine ⟨⟨fun s hs => by have := h1.2 s hs; unfold maxLen; omega, fun l hl => anyLn_fits (h3 l hl)⟩, by omega, by omega, fun l hl => ?_, ?_⟩
  · have h := h3 l hl
    have := h.1; have := h.2.1; have := h.2.2.1
    unfold LineSmall; omega
  · have := lineTot_le d.lines h3; omega

end Go.Proofs.Ytfgkfdkdjegaiaa
