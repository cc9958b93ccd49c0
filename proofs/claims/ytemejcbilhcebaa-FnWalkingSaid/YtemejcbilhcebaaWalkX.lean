import Derived.Test.YtemejcbilhcebaaRows
import Derived.Test.YtemejcbilhcebaaWalk
import Derived.LoopTactic
import Derived.WalkLawsBesides
import Derived.BigQuiet
import Derived.Deep.RegionHeld3
import Derived.Deep.QuietTactic
import Derived.Laws.Entries
namespace Go.Proofs.Ytemejcbilhcebaa
open Go.RowKit
set_option linter.unusedVariables false

theorem infoWalk : (Try.prog.info? 67).map (fun i => (i.zero, i.size, i.bytes)) = some (some (.agg #[.int .i64 0, .int .i64 0, .int .i64 0]), 3, 24) := by kernel_rfl
def WalksFit (xs : List WlkD) : Prop := ∀ s ∈ xs, WalkWf s

end Go.Proofs.Ytemejcbilhcebaa
