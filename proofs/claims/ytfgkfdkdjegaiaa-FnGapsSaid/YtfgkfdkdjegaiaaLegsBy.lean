/-
  CONTRACT of impl.legsByStop: the legs of all trips, by the stops at which they begin.
-/
import Derived.Test.YtfgkfdkdjegaiaaLegMap
import Derived.Test.YtfgkfdkdjegaiaaJrnTT
import Derived.Test.YtfgkfdkdjegaiaaStopTimesOf
import Derived.Test.YtfgkfdkdjegaiaaStepRun
import Derived.Test.YtfgkfdkdjegaiaaStepMap
import Derived.OrdersHeld
import Derived.Deep.RegionHeld
namespace Go.Proofs.Ytfgkfdkdjegaiaa
open Go.RowKit Go.Maps Jrn
set_option linter.unusedVariables false
set_option linter.unusedSimpArgs false

theorem wfI {a : Int} (h0 : 0 ≤ a) (h1 : a ≤ 1000000) : (Lit.int .i64 a).wf = true := by
  simp [Lit.wf, IntKind.bits, IntKind.signed, IntKind.min, IntKind.max]
  omega
theorem ownI_at {B : Nat} {w : World} {a : Option Addr} {c n : Nat} {R : List Int} (h : w.ownsRow B 3 1 (.slice a n c) n (ints R)) (hn : 0 < n) (hR : R.length = n) :
    ∃ g, a = some ⟨g, 0, none⟩ ∧ B ≤ g ∧ g < w.heap.size ∧ ∀ k, k < n → w.cell? ⟨g, k, none⟩ = some (.int .i64 (R.getD k 0)) := by
  obtain ⟨g, rfl⟩ : ∃ g, a = some ⟨g, 0, none⟩ := by
    obtain ⟨_, h2⟩ := h
    rcases h2 with ⟨hv, h0⟩ | ⟨g, cap, cur, hv, hg, hblk, h3, h4, h5, h6⟩
    · omega
    · simp at hv; exact ⟨g, hv.1⟩
  refine ⟨g, rfl, (h.lt g rfl).1, (h.lt g rfl).2, fun k hk => ?_⟩
  rw [h.cellAt k (by omega)]
  unfold ints
  rw [List.getElem?_map, List.getElem?_eq_getElem (by omega), List.getD_eq_getElem?_getD, List.getElem?_eq_getElem (by omega)]
  rfl
theorem rowI_at {w : World} {a : Option Addr} {c : Nat} {R : List Int} (h : RowAt w (.slice a R.length c) (ints R)) (hn : 0 < R.length) :
    ∃ g q, a = some ⟨g, q, none⟩ ∧ g < w.heap.size ∧ ∀ k, k < R.length → w.cell? ⟨g, q + k, none⟩ = some (.int .i64 (R.getD k 0)) := by
  obtain ⟨a', c', he, _, _, HC⟩ := ints_open h
  simp at he
  obtain ⟨rfl, rfl⟩ := he
  obtain ⟨g, q, rfl, hg, _⟩ := HC.out 0 hn
  refine ⟨g, q, rfl, hg, fun k hk => ?_⟩
  obtain ⟨g', q', he, _, h2⟩ := HC.out k hk
  simp at he
  obtain ⟨rfl, rfl⟩ := he
  rw [h2, List.getD_eq_getElem?_getD, List.getElem?_eq_getElem hk]
  rfl

end Go.Proofs.Ytfgkfdkdjegaiaa
