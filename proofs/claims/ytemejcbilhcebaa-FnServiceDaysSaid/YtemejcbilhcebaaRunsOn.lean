import Derived.Test.YtemejcbilhcebaaCalValid
import Derived.Test.YtemejcbilhcebaaIntsLaw
import Derived.Test.YtemejcbilhcebaaCal
namespace Go.Proofs.Ytemejcbilhcebaa
open Go.RowKit
set_option linter.unusedVariables false

def okB (c : CalD) (d : Int) : Bool := decide (CalGood c ∧ 0 ≤ d ∧ d ≤ 3650)
theorem okB_yes {c : CalD} {d : Int} (h : CalGood c ∧ 0 ≤ d ∧ d ≤ 3650) : okB c d = true := decide_eq_true h
theorem okB_no {c : CalD} {d : Int} (h : ¬ (CalGood c ∧ 0 ≤ d ∧ d ≤ 3650)) : okB c d = false := decide_eq_false h
def onB (c : CalD) (d : Int) : Bool := okB c d && runsB c d
theorem onB_no {c : CalD} {d : Int} (h : okB c d = false) : onB c d = false := by simp [onB, h]
theorem onB_yes {c : CalD} {d : Int} (h : okB c d = true) : onB c d = runsB c d := by simp [onB, h]

theorem implRunsOn_any (v : Value) (c : CalD) (d : Int) (w : World) (hr : CalAt w v c) :
    Calls Try.prog 24 #[v, .int .i64 d] w fun e w' => e = .returned (.tuple #[.bool (onB c d), .bool (okB c d)]) ∧ Below w.heap.size w w' := by
  have HG := Lib.hid (fun W (h : Below w.heap.size w W) => implValidCal_any v c W (hr.below rfl h))
  have HR := Lib.hid (fun W (h : Below w.heap.size w W) (hg : CalGood c) => doesRun_any v c d W (hr.below rfl h) hg.1)
  obtain ⟨a1, c1, a2, c2, rfl⟩ := Calendar_open hr
  clear hr
  go_enter Try.func24, Try.ntmps24
  go_wp2_with fail
  go_at_call 23
  refine (HG.out _ ((Below.refl _ _).alloc (Nat.le_refl _) _)).mono ?_
  rintro e w1 ⟨rfl, hb1⟩
  have HB1 : Hid (Below w.heap.size w w1) := ((Below.refl _ _).alloc (Nat.le_refl _) _).trans (hb1.mono (by simp))
  obtain ⟨c0, c1', c2', c3, c4⟩ := (calBox_new w c (.slice a1 c.added.length c1) (.slice a2 c.removed.length c2) _).keep hb1
  clear hb1
  by_cases hg : CalGood c
  rotate_left
  · have HN : Hid (okB c d = false) := okB_no fun h => hg h.1
    have HN2 : Hid (onB c d = false) := onB_no HN.out
    rw [calB_no hg]
    clear hg
    go_wp2_with fail
    go_ret2
    rw [HN.out, HN2.out]
    exact ⟨rfl, HB1.out⟩
  rw [calB_yes hg]
  have HGd := Lib.hid hg
  clear hg
  go_wp2_with fail
  go_at_call 78
  refine (isDay_any d _).mono ?_
  rintro e w' ⟨rfl, rfl⟩
  by_cases hd : 0 ≤ d ∧ d ≤ 3650
  rotate_left
  · have HN : Hid (okB c d = false) := okB_no fun h => hd h.2
    have HN2 : Hid (onB c d = false) := onB_no HN.out
    rw [dayB_no hd]
    clear hd
    go_wp2_with fail
    go_ret2
    rw [HN.out, HN2.out]
    exact ⟨rfl, HB1.out⟩
  rw [dayB_yes hd]
  have HN : Hid (okB c d = true) := okB_yes ⟨HGd.out, hd⟩
  have HN2 : Hid (onB c d = runsB c d) := onB_yes HN.out
  clear hd
  go_wp2_with fail
  go_at_call 79
  refine (HR.out _ HB1.out HGd.out).mono ?_
  rintro e w2 ⟨rfl, hb2⟩
  go_wp2_with fail
  go_ret2
  rw [HN.out, HN2.out]
  exact ⟨rfl, HB1.out.trans (hb2.mono HB1.out.size)⟩

end Go.Proofs.Ytemejcbilhcebaa
