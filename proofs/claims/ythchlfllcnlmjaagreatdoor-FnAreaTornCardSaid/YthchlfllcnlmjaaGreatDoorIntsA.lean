/-
  The row of int64.
-/
import Derived.Test.YthchlfllcnlmjaaGreatDoorBase2
import Derived.BigQuiet
import Derived.Deep.QuietTactic
namespace Go.Proofs.YthchlfllcnlmjaaGreatDoor
open Go.ChangeShapes Go.WideShapes Go.ChangeAt Go.RowKit


theorem infoI64 : (Tryz.prog.info? 2).map (fun i => (i.zero, i.size, i.bytes)) = some (some (.int .i64 0), 1, 8) := by kernel_rfl

end Go.Proofs.YthchlfllcnlmjaaGreatDoor
