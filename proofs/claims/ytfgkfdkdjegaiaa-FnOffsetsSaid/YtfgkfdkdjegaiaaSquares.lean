import Derived.Test.YtfgkfdkdjegaiaaPassing
import Derived.RegionTactic
import Derived.BigRegion
namespace Go.Proofs.Ytfgkfdkdjegaiaa
open Go.RowKit
set_option linter.unusedVariables false
set_option linter.unusedSimpArgs false

def mxI (xs : List Int) (j : Nat) : Int := xs.getD (bigI xs j) 0
theorem mxI_yes {xs : List Int} {j : Nat} (h : j + 1 < xs.length) (hc : mxI xs j < xs[j + 1]) : mxI xs (j + 1) = xs[j + 1] ∧ bigI xs (j + 1) = j + 1 := by
  have e : xs.getD (j + 1) 0 = xs[j + 1] := by simp [List.getD, h]
  have e2 : bigI xs (j + 1) = j + 1 := by unfold bigI; rw [if_pos]; unfold mxI at hc; rw [e]; exact hc
  exact ⟨by unfold mxI; rw [e2, e], e2⟩
theorem mxI_no {xs : List Int} {j : Nat} (h : j + 1 < xs.length) (hc : ¬ mxI xs j < xs[j + 1]) : mxI xs (j + 1) = mxI xs j ∧ bigI xs (j + 1) = bigI xs j := by
  have e : xs.getD (j + 1) 0 = xs[j + 1] := by simp [List.getD, h]
  have e2 : bigI xs (j + 1) = bigI xs j := by
    conv => lhs; unfold bigI
    rw [if_neg]; unfold mxI at hc; rw [e]; exact hc
  exact ⟨by unfold mxI; rw [e2], e2⟩
theorem mxI_get {xs : List Int} {j : Nat} (h : j < xs.length) : xs[bigI xs j]'(Nat.lt_of_le_of_lt (bigI_le xs j) h) = mxI xs j := by
  have := Nat.lt_of_le_of_lt (bigI_le xs j) h
  unfold mxI; simp [List.getD, this]
theorem mxI_last {xs : List Int} {j : Nat} (h : j + 1 = xs.length) : mxI xs j = lgV xs ∧ bigI xs j = lgI xs := by
  have e : xs.length - 1 = j := by omega
  unfold mxI lgV lgI; rw [e]; exact ⟨rfl, rfl⟩
set_option maxRecDepth 100000 in
set_option maxHeartbeats 4000000 in
theorem maxInt_any (v : Value) (xs : List Int) (w : World) (hr : RowAt w v (ints xs)) (hn : 0 < xs.length) :
    Calls Try.prog 97 #[v] w fun e w' => e = .returned (.int .i64 (lgV xs)) ∧ w = w' := by
  obtain ⟨a, c, rfl, hc, hm, HC⟩ := ints_open hr
  clear hr
  obtain ⟨b, off, rfl, hbl, hc0⟩ := HC.out 0 hn
  have hm0 : xs[0] = mxI xs 0 := by unfold mxI; simp [bigI, List.getD, hn]
  rw [hm0, Nat.add_zero] at hc0
  clear hm0
  have hn1 : ¬ (xs.length : Int) < 1 := by omega
  have hn2 : (0 : Int) < (xs.length : Int) := by omega
  go_enter Try.func97, Try.ntmps97
  go_wp2_with fail
  go_loop [3, 4] (fun s q => ∃ k : Nat, k < xs.length ∧ q = .int .i64 ((k + 1 : Nat) : Int) ∧ s = .int .i64 (mxI xs k)) (fun _ q => xs.length + 1 - (RowKit.intOf q).toNat)
  case atStart => exact ⟨0, hn, rfl, rfl⟩
  case round =>
    obtain ⟨k, hk, rfl, rfl⟩ := hrel
    by_cases hlt : k + 1 < xs.length
    · obtain ⟨_, _, he, -, hcx⟩ := HC.out (k + 1) hlt
      simp at he
      obtain ⟨rfl, rfl⟩ := he
      have hcx' := hcx
      rw [← Nat.add_assoc] at hcx'
      have hk1 : (k : Int) + 1 < (xs.length : Int) := by omega
      have hk0 : (0 : Int) ≤ (k : Int) + 1 := by omega
      have HY := Lib.hid (fun h => (mxI_yes hlt h).1)
      have HN := Lib.hid (fun h => (mxI_no hlt h).1)
      have HM : Hid (mxI xs (k + 1) = max (mxI xs k) xs[k + 1]) := by
        show _ = _
        by_cases h : mxI xs k < xs[k + 1]
        · rw [HY.out h]; omega
        · rw [HN.out h]; omega
      clear HY HN
      generalize mxI xs k = m at *
      generalize xs[k + 1]'hlt = x at *
      go_wp2_with fail
      go_round
      case rel => exact ⟨k + 1, by omega, by go_num, by rw [HM.out]⟩
      case measure => simp [RowKit.intOf]; omega
    · have hk1 : ¬ (k : Int) + 1 < (xs.length : Int) := by omega
      have HS := Lib.hid (mxI_last (xs := xs) (j := k) (by omega)).1
      go_wp2_with fail
      go_ret
      exact ⟨ret_int HS.out, rfl⟩

set_option maxRecDepth 100000 in
set_option maxHeartbeats 4000000 in
theorem l10Largest_any (v : Value) (xs : List Int) (w : World) (hr : RowAt w v (ints xs)) (hn : 0 < xs.length) :
    Calls Try.prog 74 #[v] w fun e w' => e = .returned (.tuple #[.int .i64 (lgV xs), .int .i64 (lgI xs : Int)]) ∧ Below w.heap.size w w' := by
  obtain ⟨a, c, rfl, hc, hm, HC⟩ := ints_open hr
  clear hr
  go_enter Try.func74, Try.ntmps74
  go_wp2_with fail
  go_loopw [4, 5] (fun s q wr => ∃ k : Nat, k < xs.length ∧ q = .int .i64 ((k + 1 : Nat) : Int) ∧ s = .int .i64 (bigI xs k : Int) ∧ Hid (Below w.heap.size w wr)) (fun _ q _ => xs.length + 1 - (RowKit.intOf q).toNat)
  case atStart => exact ⟨0, hn, rfl, rfl, Below.refl _ _⟩
  case round =>
    obtain ⟨k, hk, rfl, rfl, HB⟩ := hrel
    have hbl := bigI_le xs k
    obtain ⟨b, off, rfl, hbl2, hcb0⟩ := HC.out (bigI xs k) (by omega)
    have hcb := bkeep HB.out hcb0
    rw [mxI_get hk] at hcb
    clear hcb0
    by_cases hlt : k + 1 < xs.length
    · obtain ⟨_, _, he, -, hcx⟩ := HC.out (k + 1) hlt
      simp at he
      obtain ⟨rfl, rfl⟩ := he
      have hcx := bkeep HB.out hcx
      have hcx' := hcx
      rw [← Nat.add_assoc] at hcx'
      have hk1 : (k : Int) + 1 < (xs.length : Int) := by omega
      have hk0 : (0 : Int) ≤ (k : Int) + 1 := by omega
      have HY := Lib.hid (fun h => (mxI_yes hlt h).2)
      have HN := Lib.hid (fun h => (mxI_no hlt h).2)
      by_cases hcmp : mxI xs k < xs[k + 1]
      · have HS := Lib.hid (HY.out hcmp)
        have hd : decide (mxI xs k < xs[k + 1]) = true := decide_eq_true hcmp
        clear HY HN
        generalize mxI xs k = m at *
        generalize xs[k + 1]'hlt = x at *
        generalize hbi : bigI xs k = bi at *
        have hbi1 : (bi : Int) < (xs.length : Int) := by omega
        clear hbi
        go_wp2_with fail
        go_quiet (fail)
        go_wp2_with fail
        go_roundw
        case rel => exact ⟨k + 1, by omega, by go_num, by rw [HS.out], below_drewN HB.out _⟩
        case measure => simp [RowKit.intOf]; omega
      · have HS := Lib.hid (HN.out hcmp)
        have hd : decide (mxI xs k < xs[k + 1]) = false := decide_eq_false hcmp
        clear HY HN
        generalize mxI xs k = m at *
        generalize xs[k + 1]'hlt = x at *
        generalize hbi : bigI xs k = bi at *
        have hbi1 : (bi : Int) < (xs.length : Int) := by omega
        clear hbi
        go_wp2_with fail
        go_quiet (fail)
        go_wp2_with fail
        go_roundw
        case rel => exact ⟨k + 1, by omega, by go_num, by rw [HS.out], below_drewN HB.out _⟩
        case measure => simp [RowKit.intOf]; omega
    · have hk1 : ¬ (k : Int) + 1 < (xs.length : Int) := by omega
      have HS := Lib.hid (mxI_last (xs := xs) (j := k) (by omega))
      generalize mxI xs k = m at *
      generalize hbi : bigI xs k = bi at *
      have hbi1 : (bi : Int) < (xs.length : Int) := by omega
      clear hbi
      go_wp2_with fail
      go_ret2
      exact ⟨by rw [← HS.out.1, ← HS.out.2]; rfl, HB.out⟩

set_option maxRecDepth 100000 in
set_option maxHeartbeats 4000000 in
theorem largestGap_any (v : Value) (L : List Int) (p : Int) (w : World) (hr : RowAt w v (ints L)) (hn : 0 < L.length) (hl : L.length ≤ 1000) (hb : ∀ x ∈ L, 0 ≤ x ∧ x ≤ 60) (hp : 0 < L.length → 0 ≤ p ∧ p ≤ 60) :
    Calls Try.prog 64 #[v, .int .i64 p] w fun e w' => e = .returned (.tuple #[.int .i64 (lgV (gaps L p)), .int .i64 (L.getD (lgI (gaps L p)) 0)]) ∧ Below w.heap.size w w' := by
  have HG := Lib.hid (gapsOf_any v L p w hr hl hb hp)
  have hlg := gaps_len L p
  have hn2 : 0 < (gaps L p).length := by omega
  have hfst := lgI_fst hn2
  have hlt := lgI_lt hn2
  have hlt2 : lgI (gaps L p) < L.length := by omega
  obtain ⟨a, c, rfl, hc, hm, HC⟩ := ints_open hr
  obtain ⟨b, off, rfl, hbl, hcx⟩ := HC.out _ hlt2
  rw [show L[lgI (gaps L p)]'hlt2 = L.getD (lgI (gaps L p)) 0 by simp [List.getD, hlt2]] at hcx
  have HMx := Lib.hid (fun v W (h : RowAt W v (ints (gaps L p))) => maxInt_any v (gaps L p) W h hn2)
  have HIx := Lib.hid (fun v W (h : RowAt W v (ints (gaps L p))) => indexInt_any v (gaps L p) (lgV (gaps L p)) W h)
  rw [hfst] at HIx
  clear hr HC hb hp hlg hn2 hfst hlt
  generalize L.getD (lgI (gaps L p)) 0 = r at *
  generalize lgI (gaps L p) = i at *
  generalize lgV (gaps L p) = g at *
  generalize gaps L p = xs at *
  have hi0 : (0 : Int) ≤ (i : Int) := by omega
  have hi1 : (i : Int) < (L.length : Int) := by omega
  go_enter Try.func64, Try.ntmps64
  go_wp2_with fail
  go_at_call 56
  refine HG.out.mono ?_
  rintro e w2 ⟨⟨v2, rfl, ho2⟩, hb2⟩
  have HM2 := Lib.hid (HMx.out v2 w2 (rowAt_own ho2))
  have HI2 : Hid (∀ W, Below w2.heap.size w2 W → Calls Try.prog 98 #[v2, .int .i64 g] W fun e w' => e = .returned (.int .i64 i) ∧ W = w') := fun W h => HIx.out v2 W ((rowAt_own ho2).below rfl h)
  obtain ⟨_, _, rfl⟩ := own_shape ho2
  have hcx := bkeep hb2 hcx
  have HB2 := Lib.hid hb2
  clear hb2 ho2 HMx HIx HG
  go_wp2_with fail
  go_at_call 97
  refine HM2.out.mono ?_
  rintro e w3 ⟨rfl, rfl⟩
  clear HM2
  go_wp2_with fail
  go_quiet ((go_at_call 98; exact quietL (HI2.out _ (Dr.below ⟨_, rfl⟩))))
  go_wp2_with fail
  go_ret2
  exact ⟨rfl, below_drewN HB2.out _⟩
end Go.Proofs.Ytfgkfdkdjegaiaa
