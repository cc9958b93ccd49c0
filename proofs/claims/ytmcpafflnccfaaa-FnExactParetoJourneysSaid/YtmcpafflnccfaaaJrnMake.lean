/-
  CONTRACTS of impl.journeysTo and impl.earliestArrival.
-/
import Derived.Test.YtmcpafflnccfaaaJourneysTo
import Derived.Test.YtmcpafflnccfaaaStopOf
import Derived.Test.YtmcpafflnccfaaaMa
import Derived.Laws.EntriesVeiled
namespace Go.Proofs.Ytmcpafflnccfaaa
open Go.RowKit Go.Maps Jrn
set_option linter.unusedVariables false
set_option linter.unusedSimpArgs false

theorem legsOk_of {t : TTD} (hg : TTGood t) {ch : Int} (h0 : 0 ≤ ch) (h1 : ch ≤ 30) (too : Int) : LegsOk (allLegs (rides t)) ch too := by
  refine ⟨h0, h1, fun l hl => ?_, allLegs_len12 hg⟩
  have h8 := hg.1.1.2.1
  have := legs_bound hg l hl
  omega
set_option maxRecDepth 100000 in
set_option maxHeartbeats 4000000 in
theorem journeysTo_any {lo bL : Nat} {No : Nat → Prop} {L : List LegD} {ch too : Int} (w : World) (h : LegMap lo bL No w L) :
    Calls Try.prog 56 #[.map (some bL), .int .i64 ch, .int .i64 too] w fun e w' => e = .returned (.func (.func fnFind) #[] #[.pointer (some ⟨w.heap.size + 4, 0, none⟩), .pointer (some ⟨w.heap.size, 0, none⟩), .pointer (some ⟨w.heap.size + 6, 0, none⟩)]) ∧ JEnv w.heap.size bL L ch too 0 w' ∧ Below w.heap.size w w' := by
  have hbl : bL < w.heap.size := by
    obtain ⟨_, n, f, p, _, hm, _⟩ := h
    exact hm.lt
  have HM := Lib.hid (h.reno (No' := fun g => w.heap.size ≤ g) (fun g hg => .inr hg))
  have hmm := @run_makeMap Try.prog
  clear h
  unfold fnFind
  go_enter Try.func56, Try.ntmps56
  go_wp2_with fail
  go_ret
  have hb : Below w.heap.size w (((((((w.alloc (Obj.cells #[Value.map (some bL)] 90)).alloc (Obj.cells #[Value.int IntKind.i64 ch] 3)).alloc (Obj.cells #[Value.int IntKind.i64 too] 3)).alloc (Obj.map #[] 0)).alloc (Obj.cells #[Value.map (some (w.heap.size + 1 + 1 + 1))] 139)).alloc (Obj.cells #[Value.func (Fn.func 100) #[] #[Value.pointer (some { block := w.heap.size + 1 + 1 + 1 + 1, off := 0 }), Value.pointer (some { block := w.heap.size, off := 0 }), Value.pointer (some { block := w.heap.size + 1 + 1 + 1 + 1 + 1 + 1, off := 0 })]] 88)).alloc
      (Obj.cells #[Value.func (Fn.func 99) #[] #[Value.pointer (some { block := w.heap.size + 1 + 1, off := 0 }), Value.pointer (some { block := w.heap.size + 1 + 1 + 1 + 1 + 1, off := 0 }), Value.pointer (some { block := w.heap.size + 1, off := 0 })]] 140)) := ((((((((Below.refl _ _).alloc (Nat.le_refl _) _).alloc (by simp) _).alloc (by simp <;> omega) _).alloc (by simp <;> omega) _).alloc (by simp <;> omega) _).alloc (by simp <;> omega) _).alloc (by simp <;> omega) _)
  refine ⟨rfl, ⟨by go_simp, by go_simp, by go_simp, by go_simp, by go_simp, by go_simp, by simp, ⟨hbl, lo, HM.out.later hb⟩, fun _ => .slice none 0 0, fun _ => false, ?_, fun s t k kl hk hp => by cases hp⟩, hb⟩
  have hm := HdrMap.made (((w.alloc (Obj.cells #[Value.map (some bL)] 90)).alloc (Obj.cells #[Value.int IntKind.i64 ch] 3)).alloc (Obj.cells #[Value.int IntKind.i64 too] 3)) Try.prog 93 (.slice none 0 0)
  simp only [World.size_alloc] at hm
  refine hm.later ?_
  exact (((Below.refl _ _).alloc (Nat.le_refl _) _).alloc (by simp) _).alloc (by simp <;> omega) _
end Go.Proofs.Ytmcpafflnccfaaa
