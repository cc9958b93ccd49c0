/-
  CONTRACT of spec.DrawAppendChecksum: a text of at most 4000 bytes; nothing that was in memory turns.
-/
import Derived.Test.YtffcgblionlhhaaDraw1
import Derived.Laws.BytesArg
namespace Go.Proofs.Ytffcgblionlhhaa
open Go.RowKit
open Go.Lib
set_option linter.unusedVariables false

theorem infoByte : (Try.prog.info? 5).map (fun i => (i.zero, i.size, i.bytes)) = some (some (.int .u8 0), 1, 1) := by kernel_rfl

end Go.Proofs.Ytffcgblionlhhaa
