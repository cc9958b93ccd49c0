/-
  JOINED TEXTS, each under its own namespace line: Find, Cmp, Leg.
-/
import Derived.Test.YtfgkfdkdjegaiaaRows
import Derived.Test.YtfgkfdkdjegaiaaMk04
import Derived.WalkLawsBesides
import Derived.LoopTactic
import Derived.Lib.Hide
import Derived.Test.YtfgkfdkdjegaiaaMk01
import Derived.Test.YtfgkfdkdjegaiaaInts
import Derived.BigQuiet
import Derived.Deep.RegionHeld3
import Derived.Deep.QuietTactic
import Derived.WalkKit
namespace Go.Proofs.Ytfgkfdkdjegaiaa
open Go.RowKit
set_option linter.unusedVariables false

theorem lines_at {w : World} {a : Option Addr} {ls : List LineD} (h : ∀ k l, ls[k]? = some l → ∃ b off, a = some ⟨b, off, none⟩ ∧ b < w.heap.size ∧ LineAt w b (off + k * 3) l) (k : Nat) (hk : k < ls.length) :
    ∃ b off, a = some ⟨b, off, none⟩ ∧ b < w.heap.size ∧ LineAt w b (off + k * 3) (ls[k]'hk) := h k _ (by simp [List.getElem?_eq_getElem hk])

theorem lines_open {w : World} {v : Value} {ls : List LineD} (h : LinesAt w v ls) : ∃ a c, v = .slice a ls.length c ∧ ls.length ≤ c ∧ c ≤ 9223372036854775807 ∧
    Hid (∀ k (hk : k < ls.length), ∃ b off, a = some ⟨b, off, none⟩ ∧ b < w.heap.size ∧ LineAt w b (off + k * 3) (ls[k]'hk)) := by
  obtain ⟨a, c, rfl, h1, h2, h3⟩ := h
  exact ⟨a, c, rfl, h1, h2, lines_at h3⟩

theorem net_open {w : World} {v : Value} {n : NetD} (h : NetAt w v n) : ∃ a c a' c', v = .agg #[.slice a n.stops.length c, .slice a' n.lines.length c'] ∧ RowAt w (.slice a n.stops.length c) (strs n.stops) ∧ LinesAt w (.slice a' n.lines.length c') n.lines := by
  obtain ⟨sv, lv, rfl, hss, hll⟩ := h
  obtain ⟨a, c, rfl, _⟩ := strs_open hss
  obtain ⟨a', c', rfl, _⟩ := lines_open hll
  exact ⟨a, c, a', c', rfl, hss, hll⟩

theorem l2Find_any (v : Value) (xs : List ByteArray) (name : ByteArray) (w : World) (hr : RowAt w v (strs xs)) :
    Calls Try.prog 119 #[v, .string name] w fun e w' => e = .returned (.int .i64 (fstIdx name xs)) ∧ w = w' := by
  obtain ⟨a, c, rfl, hc, hm, hcell⟩ := hr
  rw [strs_len] at *
  unfold maxLen at hm
  have HC := Lib.hid hcell
  clear hcell
  go_enter Try.func119, Try.ntmps119
  go_wp2
  go_loop [5] (fun i => ∃ k : Nat, k ≤ xs.length ∧ i = .int .i64 k ∧ Hid (name ∉ xs.take k)) (fun i => xs.length - (RowKit.intOf i).toNat)
  case atStart => exact ⟨0, Nat.zero_le _, rfl, by show _ ∉ _; simp⟩
  case round =>
    obtain ⟨k, hk, rfl, HN⟩ := hrel
    by_cases hlt : k < xs.length
    · obtain ⟨b, off, rfl, _, hcx⟩ := strs_at HC.out k hlt
      by_cases he : xs[k] = name
      · have HF := Lib.hid (fstIdx_hit k hlt he HN.out)
        have hb : (xs[k].toList == name.toList) = true := by rw [bytes_eq]; simp [he]
        clear he
        generalize xs[k] = y at *
        go_wp2
        go_ret
        exact ⟨ret_int HF.out.symm, rfl⟩
      · have HN2 := Lib.hid (not_take_succ hlt HN.out he)
        have hb : (xs[k].toList == name.toList) = false := by rw [bytes_eq]; simp [he]
        clear he
        generalize xs[k] = y at *
        go_wp2
        go_round
        case rel => exact ⟨k + 1, by omega, by go_num, HN2⟩
        case measure => simp [RowKit.intOf]; omega
    · have HF := Lib.hid (fstIdx_none (not_take_all (by omega) HN.out))
      go_wp2
      go_ret
      exact ⟨ret_int HF.out.symm, rfl⟩

theorem l2Place_any (v : Value) (l : LineD) (stop : Int) (w : World) (hr : LineV w v l) :
    Calls Try.prog 81 #[v, .int .i64 stop] w fun e w' => e = .returned (.int .i64 (fstIdx stop l.stops)) ∧ Below w.heap.size w w' := by
  obtain ⟨sv, rv, rfl, hs, _⟩ := hr
  obtain ⟨a, c, rfl, hc, hm, hcell⟩ := hs
  rw [ints_len] at *
  unfold maxLen at hm
  have HC := Lib.hid hcell
  clear hcell
  generalize l.stops = xs at *
  generalize l.name = nm at *
  go_enter Try.func81, Try.ntmps81
  go_wp2
  go_loop [5] (fun i => ∃ k : Nat, k ≤ xs.length ∧ i = .int .i64 k ∧ Hid (stop ∉ xs.take k)) (fun i => xs.length - (RowKit.intOf i).toNat)
  case atStart => exact ⟨0, Nat.zero_le _, rfl, by show _ ∉ _; simp⟩
  case round =>
    obtain ⟨k, hk, rfl, HN⟩ := hrel
    by_cases hlt : k < xs.length
    · obtain ⟨b, off, rfl, hbl, hcx⟩ := ints_at HC.out k hlt
      by_cases he : xs[k] = stop
      · have HF := Lib.hid (fstIdx_hit k hlt he HN.out)
        have hb : (xs[k] == stop) = true := by simp [he]
        clear he
        generalize xs[k] = y at *
        go_wp2
        go_ret
        exact ⟨ret_int HF.out.symm, (Below.refl _ _).alloc (Nat.le_refl _) _⟩
      · have HN2 := Lib.hid (not_take_succ hlt HN.out he)
        have hb : (xs[k] == stop) = false := by simp [he]
        clear he
        generalize xs[k] = y at *
        go_wp2
        go_round
        case rel => exact ⟨k + 1, by omega, by go_num, HN2⟩
        case measure => simp [RowKit.intOf]; omega
    · have HF := Lib.hid (fstIdx_none (not_take_all (by omega) HN.out))
      go_wp2
      go_ret
      exact ⟨ret_int HF.out.symm, (Below.refl _ _).alloc (Nat.le_refl _) _⟩

theorem l2LineNamed_any (v : Value) (n : NetD) (name : ByteArray) (w : World) (hr : NetAt w v n) :
    Calls Try.prog 121 #[v, .string name] w fun e w' => e = .returned (.int .i64 (fstIdx name (n.lines.map (·.name)))) ∧ Below w.heap.size w w' := by
  obtain ⟨sv, lv, rfl, _, hs⟩ := hr
  obtain ⟨a, c, rfl, hc, hm, hcell⟩ := hs
  unfold maxLen at hm
  have HC := Lib.hid hcell
  clear hcell
  generalize n.lines = ls at *
  go_enter Try.func121, Try.ntmps121
  go_wp2
  go_loop [5] (fun i => ∃ k : Nat, k ≤ ls.length ∧ i = .int .i64 k ∧ Hid (name ∉ (ls.map (·.name)).take k)) (fun i => ls.length - (RowKit.intOf i).toNat)
  case atStart => exact ⟨0, Nat.zero_le _, rfl, by show _ ∉ _; simp⟩
  case round =>
    obtain ⟨k, hk, rfl, HN⟩ := hrel
    by_cases hlt : k < ls.length
    · obtain ⟨b, off, rfl, hbl, _, _, hcx, _⟩ := lines_at HC.out k hlt
      have hlt' : k < (ls.map (·.name)).length := by simpa using hlt
      have hget : (ls.map (·.name))[k]'hlt' = ls[k].name := by simp
      by_cases he : ls[k].name = name
      · have HF := Lib.hid (fstIdx_hit k hlt' (hget.trans he) HN.out)
        have hb : (ls[k].name.toList == name.toList) = true := by rw [bytes_eq]; simp [he]
        clear he hget
        generalize ls[k].name = y at *
        go_wp2
        go_ret
        exact ⟨ret_int HF.out.symm, (Below.refl _ _).alloc (Nat.le_refl _) _⟩
      · have HN2 := Lib.hid (not_take_succ hlt' HN.out (by rw [hget]; exact he))
        have hb : (ls[k].name.toList == name.toList) = false := by rw [bytes_eq]; simp [he]
        clear he hget
        generalize ls[k].name = y at *
        go_wp2
        go_round
        case rel => exact ⟨k + 1, by omega, by go_num, HN2⟩
        case measure => simp [RowKit.intOf]; omega
    · have HF := Lib.hid (fstIdx_none (not_take_all (by simp; omega) HN.out))
      go_wp2
      go_ret
      exact ⟨ret_int HF.out.symm, (Below.refl _ _).alloc (Nat.le_refl _) _⟩
end Go.Proofs.Ytfgkfdkdjegaiaa

namespace Go.Proofs.Ytfgkfdkdjegaiaa
open Go.RowKit
set_option linter.unusedVariables false

def cmpI (a b : Int) : Int := if a < b then -1 else if b < a then 1 else 0
theorem cmpI_zero (a b : Int) : cmpI a b = 0 ↔ a = b := by
  unfold cmpI
  by_cases h1 : a < b
  · rw [if_pos h1]; constructor <;> intro h <;> omega
  · rw [if_neg h1]
    by_cases h2 : b < a
    · rw [if_pos h2]; constructor <;> intro h <;> omega
    · rw [if_neg h2]; constructor <;> intro h <;> omega
theorem isNaN_any (a : Int) (w : World) : Calls Try.prog 142 #[.int .i64 a] w fun e w' => e = .returned (.bool false) ∧ w = w' := by
  go_enter Try.func142, Try.ntmps142
  go_wp2
  go_ret
  exact ⟨by simp, rfl⟩
def orI (x y : Int) : Int := if x = 0 then y else x
end Go.Proofs.Ytfgkfdkdjegaiaa

namespace Go.Proofs.Ytfgkfdkdjegaiaa
open Go.RowKit Go.ChangeShapes Go.WideShapes Go.ChangeAt Go.Deep Go.Joins
set_option linter.unusedVariables false

structure LegD where
  trip : Int
  frm : Int
  dst : Int
  dep : Int
  arr : Int
deriving DecidableEq
def legV (s : LegD) : Value := .agg #[.int .i64 s.trip, .int .i64 s.frm, .int .i64 s.dst, .int .i64 s.dep, .int .i64 s.arr]
def LegWf (s : LegD) : Prop := (Lit.int .i64 s.trip).wf = true ∧ (Lit.int .i64 s.frm).wf = true ∧ (Lit.int .i64 s.dst).wf = true ∧ (Lit.int .i64 s.dep).wf = true ∧ (Lit.int .i64 s.arr).wf = true
def LegsAt (w : World) (v : Value) (xs : List LegD) : Prop :=
  ∃ a c, v = .slice a xs.length c ∧ xs.length ≤ c ∧ c ≤ maxLen ∧ ∀ k (hk : k < xs.length), ∃ b off, a = some ⟨b, off, none⟩ ∧ b < w.heap.size ∧ w.cell? ⟨b, off + k * 5, none⟩ = some (.int .i64 xs[k].trip) ∧ w.cell? ⟨b, off + k * 5 + 1, none⟩ = some (.int .i64 xs[k].frm) ∧ w.cell? ⟨b, off + k * 5 + 2, none⟩ = some (.int .i64 xs[k].dst) ∧ w.cell? ⟨b, off + k * 5 + 3, none⟩ = some (.int .i64 xs[k].dep) ∧ w.cell? ⟨b, off + k * 5 + 4, none⟩ = some (.int .i64 xs[k].arr)
theorem LegsAt.below {w w' : World} {v : Value} {xs : List LegD} (h : LegsAt w v xs) {B : Nat} (hB : B = w.heap.size) (hb : Below B w w') : LegsAt w' v xs := by
  subst hB
  obtain ⟨a, c, hv, h1, h2, h3⟩ := h
  refine ⟨a, c, hv, h1, h2, fun k hk => ?_⟩
  obtain ⟨b, off, ha, hlt, c0, c1, c2, c3, c4⟩ := h3 k hk
  exact ⟨b, off, ha, Nat.lt_of_lt_of_le hlt hb.size, bkeep hb c0, bkeep hb c1, bkeep hb c2, bkeep hb c3, bkeep hb c4⟩
theorem legs_open {w : World} {v : Value} {xs : List LegD} (h : LegsAt w v xs) : ∃ a c, v = .slice a xs.length c ∧ xs.length ≤ c ∧ c ≤ 9223372036854775807 ∧
    Hid (∀ k (hk : k < xs.length), ∃ b off, a = some ⟨b, off, none⟩ ∧ b < w.heap.size ∧ w.cell? ⟨b, off + k * 5, none⟩ = some (.int .i64 xs[k].trip) ∧ w.cell? ⟨b, off + k * 5 + 1, none⟩ = some (.int .i64 xs[k].frm) ∧ w.cell? ⟨b, off + k * 5 + 2, none⟩ = some (.int .i64 xs[k].dst) ∧ w.cell? ⟨b, off + k * 5 + 3, none⟩ = some (.int .i64 xs[k].dep) ∧ w.cell? ⟨b, off + k * 5 + 4, none⟩ = some (.int .i64 xs[k].arr)) := by
  obtain ⟨a, c, rfl, h1, h2, h3⟩ := h
  exact ⟨a, c, rfl, h1, h2, h3⟩
theorem LegS_open {w : World} {v : Value} {xs : List LegD} (h : LegsAt w v xs) : ∃ a c, v = .slice a xs.length c := by
  obtain ⟨a, c, rfl, _⟩ := h; exact ⟨a, c, rfl⟩
theorem leg_at {w : World} {b : Option Addr} {d : Nat} {xs : List LegD} (h : LegsAt w (.slice b xs.length d) xs) (i : Nat) (hi : i < xs.length) :
    ∃ g off, b = some ⟨g, off, none⟩ ∧ g < w.heap.size ∧ w.cell? ⟨g, off + i * 5, none⟩ = some (.int .i64 xs[i].trip) ∧ w.cell? ⟨g, off + i * 5 + 1, none⟩ = some (.int .i64 xs[i].frm) ∧ w.cell? ⟨g, off + i * 5 + 2, none⟩ = some (.int .i64 xs[i].dst) ∧ w.cell? ⟨g, off + i * 5 + 3, none⟩ = some (.int .i64 xs[i].dep) ∧ w.cell? ⟨g, off + i * 5 + 4, none⟩ = some (.int .i64 xs[i].arr) := by
  obtain ⟨a, c, he, _, _, HC⟩ := legs_open h
  simp at he
  obtain ⟨rfl, rfl⟩ := he
  exact HC.out i hi

def legC : List LegD → List Value
  | [] => []
  | s :: xs => .int .i64 s.trip :: .int .i64 s.frm :: .int .i64 s.dst :: .int .i64 s.dep :: .int .i64 s.arr :: legC xs
theorem legC_len : ∀ xs : List LegD, (legC xs).length = xs.length * 5
  | [] => rfl
  | s :: xs => by simp only [legC, List.length_cons]; rw [legC_len xs]; omega
theorem legC_append : ∀ xs ys : List LegD, legC (xs ++ ys) = legC xs ++ legC ys
  | [], ys => rfl
  | s :: xs, ys => by simp only [legC, List.cons_append]; rw [legC_append xs ys]
theorem legC_get0 : ∀ (xs : List LegD) (k : Nat) (hk : k < xs.length), (legC xs)[k * 5]? = some (.int .i64 xs[k].trip)
  | s :: xs, 0, _ => rfl
  | s :: xs, k + 1, hk => by
    have := legC_get0 xs k (by simpa using hk)
    rw [show (k + 1) * 5 = k * 5 + 1 + 1 + 1 + 1 + 1 by omega]
    simpa [legC] using this
theorem legC_get1 : ∀ (xs : List LegD) (k : Nat) (hk : k < xs.length), (legC xs)[k * 5 + 1]? = some (.int .i64 xs[k].frm)
  | s :: xs, 0, _ => rfl
  | s :: xs, k + 1, hk => by
    have := legC_get1 xs k (by simpa using hk)
    rw [show (k + 1) * 5 + 1 = k * 5 + 1 + 1 + 1 + 1 + 1 + 1 by omega]
    simpa [legC] using this
theorem legC_get2 : ∀ (xs : List LegD) (k : Nat) (hk : k < xs.length), (legC xs)[k * 5 + 2]? = some (.int .i64 xs[k].dst)
  | s :: xs, 0, _ => rfl
  | s :: xs, k + 1, hk => by
    have := legC_get2 xs k (by simpa using hk)
    rw [show (k + 1) * 5 + 2 = k * 5 + 2 + 1 + 1 + 1 + 1 + 1 by omega]
    simpa [legC] using this
theorem legC_get3 : ∀ (xs : List LegD) (k : Nat) (hk : k < xs.length), (legC xs)[k * 5 + 3]? = some (.int .i64 xs[k].dep)
  | s :: xs, 0, _ => rfl
  | s :: xs, k + 1, hk => by
    have := legC_get3 xs k (by simpa using hk)
    rw [show (k + 1) * 5 + 3 = k * 5 + 3 + 1 + 1 + 1 + 1 + 1 by omega]
    simpa [legC] using this
theorem legC_get4 : ∀ (xs : List LegD) (k : Nat) (hk : k < xs.length), (legC xs)[k * 5 + 4]? = some (.int .i64 xs[k].arr)
  | s :: xs, 0, _ => rfl
  | s :: xs, k + 1, hk => by
    have := legC_get4 xs k (by simpa using hk)
    rw [show (k + 1) * 5 + 4 = k * 5 + 4 + 1 + 1 + 1 + 1 + 1 by omega]
    simpa [legC] using this
theorem legC_set : ∀ (xs : List LegD) (k : Nat) (s : LegD) (hk : k < xs.length), ((((((legC xs).set (k * 5) (.int .i64 s.trip)).set (k * 5 + 1) (.int .i64 s.frm)).set (k * 5 + 2) (.int .i64 s.dst)).set (k * 5 + 3) (.int .i64 s.dep)).set (k * 5 + 4) (.int .i64 s.arr)) = legC (xs.set k s)
  | x :: xs, 0, s, _ => rfl
  | x :: xs, k + 1, s, hk => by
    have := legC_set xs k s (by simpa using hk)
    have e0 : (k + 1) * 5 = k * 5 + 1 + 1 + 1 + 1 + 1 := by omega
    have e1 : (k + 1) * 5 + 1 = k * 5 + 1 + 1 + 1 + 1 + 1 + 1 := by omega
    have e2 : (k + 1) * 5 + 2 = k * 5 + 2 + 1 + 1 + 1 + 1 + 1 := by omega
    have e3 : (k + 1) * 5 + 3 = k * 5 + 3 + 1 + 1 + 1 + 1 + 1 := by omega
    have e4 : (k + 1) * 5 + 4 = k * 5 + 4 + 1 + 1 + 1 + 1 + 1 := by omega
    rw [e4, e3, e2, e1, e0]
    simpa [legC] using this
theorem legC_one : ∀ (w : World) (s : LegD) (t : TypeId), ∀ j x, (legC [s])[j]? = some x → (w.alloc (.cells #[.int .i64 s.trip, .int .i64 s.frm, .int .i64 s.dst, .int .i64 s.dep, .int .i64 s.arr] t)).cell? ((⟨w.heap.size, 0, none⟩ : Addr).add j) = some x := by
  intro w s t j x hx
  rw [addr_add, Nat.zero_add]
  match j, hx with
  | 0, hx => simp [legC] at hx; subst hx; simp
  | 1, hx => simp [legC] at hx; subst hx; simp
  | 2, hx => simp [legC] at hx; subst hx; simp
  | 3, hx => simp [legC] at hx; subst hx; simp
  | 4, hx => simp [legC] at hx; subst hx; simp
  | j + 5, hx => simp [legC] at hx
theorem legC_cells (xs : List LegD) : ∀ u ∈ legC xs, u.oneCell' = true := by
  induction xs with
  | nil => simp [legC]
  | cons s xs ih =>
    intro u hu
    simp only [legC, List.mem_cons] at hu
    rcases hu with rfl | rfl | rfl | rfl | rfl | hu
    · rfl
    · rfl
    · rfl
    · rfl
    · rfl
    · exact ih u hu

theorem legsAt_own {w : World} {B : Nat} {e : TypeId} {v : Value} {xs : List LegD} (h : w.ownsRow B e 5 v xs.length (legC xs)) : LegsAt w v xs := by
  have hc := fun g hg => h.cells (g := g) hg
  have hl := h.lt
  obtain ⟨hn, h2⟩ := h
  rcases h2 with ⟨hv, h0⟩ | ⟨g, cap, cur, hv, hg, hh, h1, h3, h4, h5⟩
  · have : xs = [] := List.eq_nil_of_length_eq_zero h0
    subst this
    exact ⟨none, 0, hv, Nat.le_refl _, by decide, fun k hk => by simp at hk⟩
  · refine ⟨_, cap, hv, h1, h3, fun k hk => ⟨g, 0, rfl, (hl g (by rw [hv]; rfl)).2, ?_, ?_, ?_, ?_, ?_⟩⟩
    · have := hc g (by rw [hv]; rfl) (k * 5) _ (legC_get0 xs k hk)
      rw [addr_add] at this; exact this
    · have := hc g (by rw [hv]; rfl) (k * 5 + 1) _ (legC_get1 xs k hk)
      rw [addr_add] at this; exact this
    · have := hc g (by rw [hv]; rfl) (k * 5 + 2) _ (legC_get2 xs k hk)
      rw [addr_add] at this; exact this
    · have := hc g (by rw [hv]; rfl) (k * 5 + 3) _ (legC_get3 xs k hk)
      rw [addr_add] at this; exact this
    · have := hc g (by rw [hv]; rfl) (k * 5 + 4) _ (legC_get4 xs k hk)
      rw [addr_add] at this; exact this
section
variable {H : Type} {enc : TypeId × Value → H} {P : Program} {w : World} {base : Nat} {spare : Nat → Bool} {held : Bool}

theorem legs_trod {t e : TypeId} {f0 f1 f2 f3 f4 : Field} {n : Nat} {v : Value} {x : DataW H × List MemPlace} (ht : P.underlying t = some (.slice e)) (he : P.underlying e = some (.struct #[f0, f1, f2, f3, f4]))
    (hone : oneCellFields P #[f0, f1, f2, f3, f4] = true) (hc : P.cellsOf e = 5) (h0 : P.underlying f0.type = some (.int .i64)) (h1 : P.underlying f1.type = some (.int .i64)) (h2 : P.underlying f2.type = some (.int .i64)) (h3 : P.underlying f3.type = some (.int .i64)) (h4 : P.underlying f4.type = some (.int .i64))
    (h : DataW.trod enc P w base spare held n t [v] = some x) : ∃ ls : List LegD, LegsAt w v ls ∧ ∀ l ∈ ls, LegWf l := by
  rcases open_slice ht h with ⟨hcs, _⟩ | ⟨a, len, cap, m, n', D, Pl, hcs, _, hl, hm, hmm, _, hel⟩
  · simp at hcs; subst hcs
    exact ⟨[], ⟨none, 0, rfl, Nat.le_refl _, by decide, fun k hk => by simp at hk⟩, fun x hx => by simp at hx⟩
  · simp at hcs; subst hcs
    have hml : len ≤ m := by rw [hmm]; split <;> omega
    have hsp : ∀ k, k < len → a.spot = none := fun k hk => by
      obtain ⟨cs', hcc, htt⟩ := hel 0 (by omega)
      obtain ⟨_, hcl, hat⟩ := World.cells?_some hcc
      have := hat 0 (by omega)
      have hq : cs'[0]? = some (cs'[0]'(by omega)) := List.getElem?_eq_getElem _
      rw [hq] at this
      have := World.cell?_spot this
      simpa [Addr.add] using this
    have each : ∀ k, k < len → ∃ l : LegD, (w.cell? ⟨a.block, a.off + k * 5, none⟩ = some (.int .i64 l.trip) ∧ w.cell? ⟨a.block, a.off + k * 5 + 1, none⟩ = some (.int .i64 l.frm) ∧ w.cell? ⟨a.block, a.off + k * 5 + 2, none⟩ = some (.int .i64 l.dst) ∧ w.cell? ⟨a.block, a.off + k * 5 + 3, none⟩ = some (.int .i64 l.dep) ∧ w.cell? ⟨a.block, a.off + k * 5 + 4, none⟩ = some (.int .i64 l.arr)) ∧ LegWf l := fun k hk => by
      obtain ⟨cs', hcc, htt⟩ := hel k (by omega)
      obtain ⟨_, hcl, hat⟩ := World.cells?_some hcc
      obtain ⟨ys, n2, _, _, _, hylen, hg⟩ := DataW.trod_struct he htt
      have hs := hsp k hk
      obtain ⟨b, off, sp⟩ := a
      simp only at hs
      subst hs
      rw [hc] at hcl hat
      match cs', hcl with
      | [c0, c1, c2, c3, c4], _ =>
        obtain ⟨o0, k0⟩ := hone_of hone 0 f0 rfl
        obtain ⟨o1, k1⟩ := hone_of hone 1 f1 rfl
        obtain ⟨o2, k2⟩ := hone_of hone 2 f2 rfl
        obtain ⟨o3, k3⟩ := hone_of hone 3 f3 rfl
        obtain ⟨o4, k4⟩ := hone_of hone 4 f4 rfl
        have g0 := hg 0 f0 rfl
        have g1 := hg 1 f1 rfl
        have g2 := hg 2 f2 rfl
        have g3 := hg 3 f3 rfl
        have g4 := hg 4 f4 rfl
        rw [o0, k0] at g0
        rw [o1, k1] at g1
        rw [o2, k2] at g2
        rw [o3, k3] at g3
        rw [o4, k4] at g4
        simp only [List.drop_zero, List.drop_succ_cons, List.take_succ_cons, List.take_zero] at g0 g1 g2 g3 g4
        have hy : ys.length = 5 := hylen
        rw [List.getElem?_eq_getElem (by omega)] at g0 g1 g2 g3 g4
        obtain ⟨p0, hp0, _, hw0⟩ := DataW.trod_int h0 g0
        obtain ⟨p1, hp1, _, hw1⟩ := DataW.trod_int h1 g1
        obtain ⟨p2, hp2, _, hw2⟩ := DataW.trod_int h2 g2
        obtain ⟨p3, hp3, _, hw3⟩ := DataW.trod_int h3 g3
        obtain ⟨p4, hp4, _, hw4⟩ := DataW.trod_int h4 g4
        simp at hp0 hp1 hp2 hp3 hp4
        subst hp0 hp1 hp2 hp3 hp4
        refine ⟨⟨p0, p1, p2, p3, p4⟩, ⟨?_, ?_, ?_, ?_, ?_⟩, hw0, hw1, hw2, hw3, hw4⟩
        · have := hat 0 (by omega); rw [addr_add, addr_add] at this; simpa [hc] using this
        · have := hat 1 (by omega); rw [addr_add, addr_add] at this; simpa [hc] using this
        · have := hat 2 (by omega); rw [addr_add, addr_add] at this; simpa [hc] using this
        · have := hat 3 (by omega); rw [addr_add, addr_add] at this; simpa [hc] using this
        · have := hat 4 (by omega); rw [addr_add, addr_add] at this; simpa [hc] using this
    have fam : ∃ F : Nat → LegD, ∀ k, k < len → (w.cell? ⟨a.block, a.off + k * 5, none⟩ = some (.int .i64 (F k).trip) ∧ w.cell? ⟨a.block, a.off + k * 5 + 1, none⟩ = some (.int .i64 (F k).frm) ∧ w.cell? ⟨a.block, a.off + k * 5 + 2, none⟩ = some (.int .i64 (F k).dst) ∧ w.cell? ⟨a.block, a.off + k * 5 + 3, none⟩ = some (.int .i64 (F k).dep) ∧ w.cell? ⟨a.block, a.off + k * 5 + 4, none⟩ = some (.int .i64 (F k).arr)) ∧ LegWf (F k) :=
      ⟨fun k => if hk : k < len then Classical.choose (each k hk) else ⟨0, 0, 0, 0, 0⟩, fun k hk => by simp only [dif_pos hk]; exact Classical.choose_spec (each k hk)⟩
    obtain ⟨F, hF⟩ := fam
    refine ⟨(List.range len).map F, ⟨some a, cap, by simp, by simp; omega, hm, fun k hk => ?_⟩, fun l hl => ?_⟩
    · have hk' : k < len := by simpa using hk
      have e : ((List.range len).map F)[k] = F k := by simp
      have hs := hsp k hk'
      have h3 := hF k hk'
      rw [e]
      obtain ⟨b, off, sp⟩ := a
      simp only at hs
      subst hs
      exact ⟨b, off, rfl, World.block_lt_of_cell? w _ h3.1.1, h3.1⟩
    · obtain ⟨k, hk, rfl⟩ := List.mem_map.1 hl
      exact (hF k (List.mem_range.1 hk)).2
end
theorem legsAt_of {H : Type} {enc : TypeId × Value → H} {P : Program} {W : World} {base base' : Nat} {spare : Nat → Bool} {held : Bool} {t e : TypeId} {f0 f1 f2 f3 f4 : Field} {v : Value} {d : DataW H} {p : List MemPlace} (ht : P.underlying t = some (.slice e)) (he : P.underlying e = some (.struct #[f0, f1, f2, f3, f4]))
    (hone : oneCellFields P #[f0, f1, f2, f3, f4] = true) (hc : P.cellsOf e = 5) (h0 : P.underlying f0.type = some (.int .i64)) (h1 : P.underlying f1.type = some (.int .i64)) (h2 : P.underlying f2.type = some (.int .i64)) (h3 : P.underlying f3.type = some (.int .i64)) (h4 : P.underlying f4.type = some (.int .i64))
    (hv : Value.okWide P W .any base t v) (h : DataW.Trod enc P W base' spare held t v d p) : ∃ xs : List LegD, LegsAt W v xs ∧ ∀ z ∈ xs, LegWf z := by
  obtain ⟨a, len, cap, rfl⟩ := okWide_slice ht hv
  obtain ⟨fuel, hf⟩ := h
  exact legs_trod ht he hone hc h0 h1 h2 h3 h4 (by simpa [Value.cells] using hf)
end Go.Proofs.Ytfgkfdkdjegaiaa
