/-
  THE LAWS' MARKS on calendars (markCalendar, heldCalendar): a mark writes into the two rows and into nothing else.
-/
import Derived.Test.YtbbcjponeiphaaaCalX
namespace Go.Proofs.Ytbbcjponeiphaaa
open Go.RowKit
set_option linter.unusedVariables false

theorem own_grown {w w' : World} {B : Nat} {e : TypeId} {sz : Nat} {v : Value} {n : Nat} {xs : List Value} {row : Option Nat} (h : w.ownsRow B e sz v n xs) (hg : w.grownBy w' row) (hne : v.ownBlock = none ∨ row ≠ v.ownBlock) : w'.ownsRow B e sz v n xs :=
  own_block h (fun g hgg => hg.block g (h.lt g hgg).2 (fun e => by
    rcases hne with h0 | h0
    · rw [h0] at hgg; cases hgg
    · exact h0 (by rw [hgg, e])))

/-- a calendar that holds marks from k on -/
def CalMk (k : Int) (w : World) (v : Value) (c : CalD) : Prop :=
  ∃ av rv, v = .agg #[.int .i64 c.frm, .int .i64 c.too, .int .i64 c.wd, av, rv] ∧ IntsMk k w av c.added ∧ IntsMk (k + (c.added.length : Int)) w rv c.removed
theorem CalMk.later {k : Int} {w w' : World} {v : Value} {c : CalD} (h : CalMk k w v c) (hb : Below w.heap.size w w') : CalMk k w' v c := by
  obtain ⟨av, rv, hv, h1, h2⟩ := h
  exact ⟨av, rv, hv, h1.later hb, h2.later hb⟩

set_option maxHeartbeats 1000000 in
theorem markCalendar_x (v : Value) (c : CalD) (k : Int) (l u : Nat) (w : World) (hr : CalIn l u w v c) (hl : l ≤ w.heap.size) (hu : u ≤ w.heap.size) (hs : CalSmall c) (hk0 : 0 ≤ k) (hk : k ≤ 536870912) :
    Calls Try.prog 31 #[v, .int .i64 k] w fun e w' => e = .returned (.int .i64 (k + (c.added.length : Int) + (c.removed.length : Int))) ∧ CalMk k w' v c ∧ Out l u w w' := by
  obtain ⟨av, rv, rfl, ha, hrm, hap⟩ := hr
  have hsA : c.added.length ≤ 1048576 := by unfold CalSmall at hs; omega
  have hsR : c.removed.length ≤ 1048576 := by unfold CalSmall at hs; omega
  obtain ⟨a, ca, rfl⟩ := IntS_open ha.at
  obtain ⟨b, cb, rfl⟩ := IntS_open hrm.at
  have HA := Lib.hid ha
  have HR := Lib.hid hrm
  have HAp := Lib.hid hap
  clear ha hrm hap hs
  have k1 : 0 ≤ k + (c.added.length : Int) := by omega
  have k2 : k + (c.added.length : Int) ≤ 1073741824 := by omega
  have hB0 : Below w.heap.size w (w.alloc (.cells #[.int .i64 c.frm, .int .i64 c.too, .int .i64 c.wd, .slice a c.added.length ca, .slice b c.removed.length cb] 27)) := (Below.refl _ _).alloc (Nat.le_refl _) _
  have HB0 := Lib.hid hB0
  clear hB0
  go_enter Try.func31, Try.ntmps31
  go_wp2_with fail
  go_at_call 36
  refine (markIntS_own _ c.added k l _ (own_later HA.out.1 HB0.out) hsA hk0 (by omega)).mono ?_
  rintro e w1 ⟨rfl, ho1, hg1⟩
  have HO1 := Lib.hid ho1
  have HG1 := Lib.hid hg1
  have HR1 := Lib.hid (own_grown (own_later HR.out.1 HB0.out) hg1 (by
    rcases HAp.out with h | h
    · by_cases hb : (Value.slice b c.removed.length cb).ownBlock = none
      · exact .inl hb
      · exact .inr (by rw [h]; exact fun e => hb e.symm)
    · exact .inr h))
  have p4 : w1.cell? ⟨w.heap.size, 4, none⟩ = some (.slice b c.removed.length cb) := by
    rw [World.cell?_of_block (w := w.alloc (.cells #[.int .i64 c.frm, .int .i64 c.too, .int .i64 c.wd, .slice a c.added.length ca, .slice b c.removed.length cb] 27)) (hg1.block w.heap.size (by simp) (fun e => by have := HA.out.2 _ e.symm; omega))]
    go_simp
  clear ho1 hg1
  go_wp2_with fail
  go_at_call 36
  refine (markIntS_own _ c.removed (k + (c.added.length : Int)) l _ HR1.out hsR k1 k2).mono ?_
  rintro e w2 ⟨rfl, ho2, hg2⟩
  have HO2 := Lib.hid ho2
  have HG2 := Lib.hid hg2
  have HA2 := Lib.hid (own_grown HO1.out hg2 (by
    rcases HAp.out with h | h
    · exact .inl h
    · exact .inr h.symm))
  clear ho2 hg2
  go_wp2_with fail
  go_ret
  refine ⟨rfl, ⟨_, _, rfl, rowAt_own (n := c.added.length) HA2.out, rowAt_own (n := c.removed.length) HO2.out⟩, ?_⟩
  have o1 : Out l u w (w.alloc (.cells #[.int .i64 c.frm, .int .i64 c.too, .int .i64 c.wd, .slice a c.added.length ca, .slice b c.removed.length cb] 27)) := Out.of_below HB0.out hl
  have o2 := Out.of_grown (lo := l) (hi := u) HG1.out (by simp; omega) (fun g hg => ⟨HA.out.lo g hg, HA.out.2 g hg⟩)
  have o3 := Out.of_grown (lo := l) (hi := u) HG2.out (by have := HG1.out.size; simp at this; omega) (fun g hg => ⟨HR.out.lo g hg, HR.out.2 g hg⟩)
  exact (o1.trans o2).trans o3

set_option maxHeartbeats 1000000 in
theorem heldCalendar_x (v : Value) (c : CalD) (k : Int) (w : World) (hr : CalMk k w v c) (hs : CalSmall c) (hk0 : 0 ≤ k) (hk : k ≤ 536870912) :
    Calls Try.prog 32 #[v, .int .i64 k] w fun e w' => e = .returned (.int .i64 (k + (c.added.length : Int) + (c.removed.length : Int))) ∧ Below w.heap.size w w' := by
  obtain ⟨av, rv, rfl, ha, hrm⟩ := hr
  have hsA : c.added.length ≤ 1048576 := by unfold CalSmall at hs; omega
  have hsR : c.removed.length ≤ 1048576 := by unfold CalSmall at hs; omega
  have HS := Lib.hid (fun W (hW : Below w.heap.size w W) => heldIntS_x av c.added k W (ha.later hW) hsA hk0 (by omega))
  have HR := Lib.hid (fun W (hW : Below w.heap.size w W) => heldIntS_x rv c.removed (k + (c.added.length : Int)) W (hrm.later hW) hsR (by omega) (by omega))
  obtain ⟨a, ca, rfl, _⟩ := ints_open ha
  obtain ⟨b, cb, rfl, _⟩ := ints_open hrm
  simp only [countUp_len] at *
  clear ha hrm hs
  go_enter Try.func32, Try.ntmps32
  go_wp2_with fail
  go_at_call 37
  refine (HS.out _ ((Below.refl _ _).alloc (Nat.le_refl _) _)).mono ?_
  rintro e w1 ⟨rfl, hb1⟩
  have HB1 : Hid (Below w.heap.size w w1) := ((Below.refl _ _).alloc (Nat.le_refl _) _).trans (hb1.mono (by simp))
  have p4 : w1.cell? ⟨w.heap.size, 4, none⟩ = some (.slice b c.removed.length cb) := bkeep hb1 (by go_simp)
  clear hb1
  go_wp2_with fail
  go_at_call 37
  refine (HR.out _ HB1.out).mono ?_
  rintro e w2 ⟨rfl, hb2⟩
  go_wp2_with fail
  go_ret
  exact ⟨rfl, HB1.out.trans (hb2.mono HB1.out.size)⟩
end Go.Proofs.Ytbbcjponeiphaaa
