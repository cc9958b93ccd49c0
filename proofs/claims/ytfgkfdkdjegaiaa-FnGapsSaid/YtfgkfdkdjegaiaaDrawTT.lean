/-
  CONTRACT of the draw of a timetable (spec.l1Cur.timetable): a valid network and some trips, in memory of the call's own.
-/
import Derived.Test.YtfgkfdkdjegaiaaDrawNet
import Derived.Test.YtfgkfdkdjegaiaaNetL
import Derived.Test.YtfgkfdkdjegaiaaTTX
namespace Go.Proofs.Ytfgkfdkdjegaiaa
open Go.RowKit
set_option linter.unusedVariables false
set_option linter.unusedSimpArgs false

theorem wfB {z : Int} (h0 : -1000000 ≤ z) (h1 : z ≤ 1000000) : (Lit.int .i64 z).wf = true := by
  simp [Lit.wf, IntKind.bits, IntKind.signed, IntKind.min, IntKind.max]; omega
section
variable {w : World} {b n m : Nat} {v : Value} {xb : Nat} {d : NetD} {gS cS : Nat} {oa : Option Addr} {oc : Nat} {ts : List TripD} {tv : Value} {W W' : World}
end
/-- a network of the call's own reads as one as long as its blocks stay -/
theorem netL_own {l B gS cS : Nat} {oa : Option Addr} {oc : Nat} {w : World} {d : NetD} (ho : w.ownsRow l 9 1 (.slice (some ⟨gS, 0, none⟩) d.stops.length cS) d.stops.length (strs d.stops)) (hl : OwnLs B w (.slice oa d.lines.length oc) d.lines) (hB : l ≤ B) : NetL l w.heap.size w (.agg #[.slice (some ⟨gS, 0, none⟩) d.stops.length cS, .slice oa d.lines.length oc]) d :=
  fun W hz hW => ⟨_, _, rfl, rowAt_own (own_block ho (fun g hg => hW g (ho.lt g hg).1 (ho.lt g hg).2 (ho.lt g hg).2)), (hl.keep (fun q h1 h2 => hW q (by omega) h2 h2)).at⟩

end Go.Proofs.Ytfgkfdkdjegaiaa
