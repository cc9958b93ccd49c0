/-
  JOINED TEXTS, each under its own namespace line: Find, Cmp, Leg.
-/
import Derived.Test.YtemejcbilhcebaaRows
import Derived.Test.YtemejcbilhcebaaMk06
import Derived.WalkLawsBesides
import Derived.LoopTactic
import Derived.Lib.Hide
import Derived.Test.YtemejcbilhcebaaSlices
import Derived.Test.YtemejcbilhcebaaMk04
import Derived.BigQuiet
import Derived.Deep.RegionHeld3
import Derived.Deep.QuietTactic
import Derived.WalkKit
namespace Go.Proofs.Ytemejcbilhcebaa
open Go.RowKit
set_option linter.unusedVariables false

theorem lines_at {w : World} {a : Option Addr} {ls : List LineD} (h : ∀ k l, ls[k]? = some l → ∃ b off, a = some ⟨b, off, none⟩ ∧ b < w.heap.size ∧ LineAt w b (off + k * 3) l) (k : Nat) (hk : k < ls.length) :
    ∃ b off, a = some ⟨b, off, none⟩ ∧ b < w.heap.size ∧ LineAt w b (off + k * 3) (ls[k]'hk) := h k _ (by simp [List.getElem?_eq_getElem hk])

theorem lines_open {w : World} {v : Value} {ls : List LineD} (h : LinesAt w v ls) : ∃ a c, v = .slice a ls.length c ∧ ls.length ≤ c ∧ c ≤ 9223372036854775807 ∧
    Hid (∀ k (hk : k < ls.length), ∃ b off, a = some ⟨b, off, none⟩ ∧ b < w.heap.size ∧ LineAt w b (off + k * 3) (ls[k]'hk)) := by
  obtain ⟨a, c, rfl, h1, h2, h3⟩ := h
  exact ⟨a, c, rfl, h1, h2, lines_at h3⟩

theorem net_open {w : World} {v : Value} {n : NetD} (h : NetAt w v n) : ∃ a c a' c', v = .agg #[.slice a n.stops.length c, .slice a' n.lines.length c'] ∧ RowAt w (.slice a n.stops.length c) (strs n.stops) ∧ LinesAt w (.slice a' n.lines.length c') n.lines := by
  obtain ⟨sv, lv, rfl, hss, hll⟩ := h
  obtain ⟨a, c, rfl, _⟩ := strs_open hss
  obtain ⟨a', c', rfl, _⟩ := lines_open hll
  exact ⟨a, c, a', c', rfl, hss, hll⟩

theorem l2Find_any (v : Value) (xs : List ByteArray) (name : ByteArray) (w : World) (hr : RowAt w v (strs xs)) :
    Calls Try.prog 96 #[v, .string name] w fun e w' => e = .returned (.int .i64 (fstIdx name xs)) ∧ w = w' := by
  obtain ⟨a, c, rfl, hc, hm, hcell⟩ := hr
  rw [strs_len] at *
  unfold maxLen at hm
  have HC := Lib.hid hcell
  clear hcell
  go_enter Try.func96, Try.ntmps96
  go_wp2
  go_loop [5] (fun i => ∃ k : Nat, k ≤ xs.length ∧ i = .int .i64 k ∧ Hid (name ∉ xs.take k)) (fun i => xs.length - (RowKit.intOf i).toNat)
  case atStart => exact ⟨0, Nat.zero_le _, rfl, by show _ ∉ _; simp⟩
  case round =>
    obtain ⟨k, hk, rfl, HN⟩ := hrel
    by_cases hlt : k < xs.length
    · obtain ⟨b, off, rfl, _, hcx⟩ := strs_at HC.out k hlt
      by_cases he : xs[k] = name
      · have HF := Lib.hid (fstIdx_hit k hlt he HN.out)
        have hb : (xs[k].toList == name.toList) = true := by rw [bytes_eq]; simp [he]
        clear he
        generalize xs[k] = y at *
        go_wp2
        go_ret
        exact ⟨ret_int HF.out.symm, rfl⟩
      · have HN2 := Lib.hid (not_take_succ hlt HN.out he)
        have hb : (xs[k].toList == name.toList) = false := by rw [bytes_eq]; simp [he]
        clear he
        generalize xs[k] = y at *
        go_wp2
        go_round
        case rel => exact ⟨k + 1, by omega, by go_num, HN2⟩
        case measure => simp [RowKit.intOf]; omega
    · have HF := Lib.hid (fstIdx_none (not_take_all (by omega) HN.out))
      go_wp2
      go_ret
      exact ⟨ret_int HF.out.symm, rfl⟩

theorem l2Place_any (v : Value) (l : LineD) (stop : Int) (w : World) (hr : LineV w v l) :
    Calls Try.prog 114 #[v, .int .i64 stop] w fun e w' => e = .returned (.int .i64 (fstIdx stop l.stops)) ∧ Below w.heap.size w w' := by
  obtain ⟨sv, rv, rfl, hs, _⟩ := hr
  obtain ⟨a, c, rfl, hc, hm, hcell⟩ := hs
  rw [ints_len] at *
  unfold maxLen at hm
  have HC := Lib.hid hcell
  clear hcell
  generalize l.stops = xs at *
  generalize l.name = nm at *
  go_enter Try.func114, Try.ntmps114
  go_wp2
  go_loop [5] (fun i => ∃ k : Nat, k ≤ xs.length ∧ i = .int .i64 k ∧ Hid (stop ∉ xs.take k)) (fun i => xs.length - (RowKit.intOf i).toNat)
  case atStart => exact ⟨0, Nat.zero_le _, rfl, by show _ ∉ _; simp⟩
  case round =>
    obtain ⟨k, hk, rfl, HN⟩ := hrel
    by_cases hlt : k < xs.length
    · obtain ⟨b, off, rfl, hbl, hcx⟩ := ints_at HC.out k hlt
      by_cases he : xs[k] = stop
      · have HF := Lib.hid (fstIdx_hit k hlt he HN.out)
        have hb : (xs[k] == stop) = true := by simp [he]
        clear he
        generalize xs[k] = y at *
        go_wp2
        go_ret
        exact ⟨ret_int HF.out.symm, (Below.refl _ _).alloc (Nat.le_refl _) _⟩
      · have HN2 := Lib.hid (not_take_succ hlt HN.out he)
        have hb : (xs[k] == stop) = false := by simp [he]
        clear he
        generalize xs[k] = y at *
        go_wp2
        go_round
        case rel => exact ⟨k + 1, by omega, by go_num, HN2⟩
        case measure => simp [RowKit.intOf]; omega
    · have HF := Lib.hid (fstIdx_none (not_take_all (by omega) HN.out))
      go_wp2
      go_ret
      exact ⟨ret_int HF.out.symm, (Below.refl _ _).alloc (Nat.le_refl _) _⟩

theorem l2LineNamed_any (v : Value) (n : NetD) (name : ByteArray) (w : World) (hr : NetAt w v n) :
    Calls Try.prog 98 #[v, .string name] w fun e w' => e = .returned (.int .i64 (fstIdx name (n.lines.map (·.name)))) ∧ Below w.heap.size w w' := by
  obtain ⟨sv, lv, rfl, _, hs⟩ := hr
  obtain ⟨a, c, rfl, hc, hm, hcell⟩ := hs
  unfold maxLen at hm
  have HC := Lib.hid hcell
  clear hcell
  generalize n.lines = ls at *
  go_enter Try.func98, Try.ntmps98
  go_wp2
  go_loop [5] (fun i => ∃ k : Nat, k ≤ ls.length ∧ i = .int .i64 k ∧ Hid (name ∉ (ls.map (·.name)).take k)) (fun i => ls.length - (RowKit.intOf i).toNat)
  case atStart => exact ⟨0, Nat.zero_le _, rfl, by show _ ∉ _; simp⟩
  case round =>
    obtain ⟨k, hk, rfl, HN⟩ := hrel
    by_cases hlt : k < ls.length
    · obtain ⟨b, off, rfl, hbl, _, _, hcx, _⟩ := lines_at HC.out k hlt
      have hlt' : k < (ls.map (·.name)).length := by simpa using hlt
      have hget : (ls.map (·.name))[k]'hlt' = ls[k].name := by simp
      by_cases he : ls[k].name = name
      · have HF := Lib.hid (fstIdx_hit k hlt' (hget.trans he) HN.out)
        have hb : (ls[k].name.toList == name.toList) = true := by rw [bytes_eq]; simp [he]
        clear he hget
        generalize ls[k].name = y at *
        go_wp2
        go_ret
        exact ⟨ret_int HF.out.symm, (Below.refl _ _).alloc (Nat.le_refl _) _⟩
      · have HN2 := Lib.hid (not_take_succ hlt' HN.out (by rw [hget]; exact he))
        have hb : (ls[k].name.toList == name.toList) = false := by rw [bytes_eq]; simp [he]
        clear he hget
        generalize ls[k].name = y at *
        go_wp2
        go_round
        case rel => exact ⟨k + 1, by omega, by go_num, HN2⟩
        case measure => simp [RowKit.intOf]; omega
    · have HF := Lib.hid (fstIdx_none (not_take_all (by simp; omega) HN.out))
      go_wp2
      go_ret
      exact ⟨ret_int HF.out.symm, (Below.refl _ _).alloc (Nat.le_refl _) _⟩
end Go.Proofs.Ytemejcbilhcebaa

namespace Go.Proofs.Ytemejcbilhcebaa
open Go.RowKit
set_option linter.unusedVariables false

def cmpI (a b : Int) : Int := if a < b then -1 else if b < a then 1 else 0
theorem isNaN_any (a : Int) (w : World) : Calls Try.prog 121 #[.int .i64 a] w fun e w' => e = .returned (.bool false) ∧ w = w' := by
  go_enter Try.func121, Try.ntmps121
  go_wp2
  go_ret
  exact ⟨by simp, rfl⟩
theorem cmpInt_any (a b : Int) (w : World) : Calls Try.prog 113 #[.int .i64 a, .int .i64 b] w fun e w' => e = .returned (.int .i64 (cmpI a b)) ∧ w = w' := by
  have h : a < b ∨ b < a ∨ a = b := by omega
  unfold cmpI
  rcases h with h | h | h
  · rw [if_pos h]
    go_enter Try.func113, Try.ntmps113
    go_wp2_with (go_at_call 121; refine (isNaN_any _ _).mono ?_; rintro e w' ⟨rfl, rfl⟩)
    go_ret
    exact ⟨rfl, rfl⟩
  · rw [if_neg (by omega), if_pos h]
    go_enter Try.func113, Try.ntmps113
    go_wp2_with (go_at_call 121; refine (isNaN_any _ _).mono ?_; rintro e w' ⟨rfl, rfl⟩)
    go_ret
    exact ⟨rfl, rfl⟩
  · subst h
    rw [if_neg (by omega), if_neg (by omega)]
    go_enter Try.func113, Try.ntmps113
    go_wp2_with (go_at_call 121; refine (isNaN_any _ _).mono ?_; rintro e w' ⟨rfl, rfl⟩)
    go_ret
    exact ⟨rfl, rfl⟩

def orI (x y : Int) : Int := if x = 0 then y else x
theorem cmpOr_any (x y : Int) (b : Nat) (w : World) (h0 : w.cell? ⟨b, 0, none⟩ = some (.int .i64 x)) (h1 : w.cell? ⟨b, 1, none⟩ = some (.int .i64 y)) :
    Calls Try.prog 112 #[.slice (some ⟨b, 0, none⟩) 2 2] w fun e w' => e = .returned (.int .i64 (orI x y)) ∧ w = w' := by
  by_cases ex : x = 0
  · have hr : orI x y = y := if_pos ex
    rw [hr]
    subst ex
    clear hr
    by_cases ey : y = 0
    · subst ey
      go_enter Try.func112, Try.ntmps112
      go_wp2_with fail
      go_loop [8] (fun i => ∃ k : Nat, k ≤ 2 ∧ i = .int .i64 k) (fun i => 2 - (RowKit.intOf i).toNat)
      case atStart => exact ⟨0, by omega, rfl⟩
      case round =>
        obtain ⟨k, hk, rfl⟩ := hrel
        by_cases hlt : k < 2
        · have hk1 : (k : Int) < 2 := by omega
          have hc : w.cell? ⟨b, k, none⟩ = some (.int .i64 0) := by
            obtain rfl | rfl : k = 0 ∨ k = 1 := by omega
            · exact h0
            · exact h1
          clear h0 h1
          go_wp2_with fail
          go_round
          case rel => exact ⟨k + 1, by omega, by go_num⟩
          case measure => simp [RowKit.intOf]; omega
        · obtain rfl : k = 2 := by omega
          clear h0 h1
          go_wp2_with fail
          go_ret
          exact ⟨rfl, rfl⟩
    · have hd : (y != 0) = true := by simpa using ey
      go_enter Try.func112, Try.ntmps112
      go_wp2_with fail
      go_loop [8] (fun i => ∃ k : Nat, k ≤ 1 ∧ i = .int .i64 k) (fun i => 2 - (RowKit.intOf i).toNat)
      case atStart => exact ⟨0, by omega, rfl⟩
      case round =>
        obtain ⟨k, hk, rfl⟩ := hrel
        obtain rfl | rfl : k = 0 ∨ k = 1 := by omega
        · go_wp2_with fail
          go_round
          case rel => exact ⟨1, by omega, by go_num⟩
          case measure => simp [RowKit.intOf]
        · go_wp2_with fail
          go_ret
          exact ⟨rfl, rfl⟩
  · have hr : orI x y = x := if_neg ex
    rw [hr]
    clear hr
    have hd : (x != 0) = true := by simpa using ex
    go_enter Try.func112, Try.ntmps112
    go_wp2_with fail
    go_loop [8] (fun i => i = .int .i64 0) (fun i => 2 - (RowKit.intOf i).toNat)
    case atStart => exact rfl
    case round =>
      obtain rfl := hrel
      go_wp2_with fail
      go_ret
      exact ⟨rfl, rfl⟩
end Go.Proofs.Ytemejcbilhcebaa

namespace Go.Proofs.Ytemejcbilhcebaa
open Go.RowKit Go.ChangeShapes Go.WideShapes Go.ChangeAt Go.Deep Go.Joins
set_option linter.unusedVariables false

structure LegD where
  trip : Int
  frm : Int
  dst : Int
  dep : Int
  arr : Int
deriving DecidableEq
section
variable {H : Type} {enc : TypeId × Value → H} {P : Program} {w : World} {base : Nat} {spare : Nat → Bool} {held : Bool}

end
end Go.Proofs.Ytemejcbilhcebaa
