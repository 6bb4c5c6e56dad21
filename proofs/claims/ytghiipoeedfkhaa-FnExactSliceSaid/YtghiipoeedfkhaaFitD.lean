/-
  A doc as a walk wants it; contracts of DocRight over it.
-/
import Derived.Test.YtghiipoeedfkhaaSDoc
import Derived.Test.YtghiipoeedfkhaaIDoc
import Derived.Test.YtghiipoeedfkhaaEqDoc
namespace Go.Proofs.Ytghiipoeedfkhaa
set_option linter.unusedSimpArgs false
set_option linter.unusedVariables false
open Go.ChangeShapes Go.WideShapes Go.ChangeAt Go.RowKit

/-- Lists and texts as a walk wants them. -/
def Fit (d : Dc) : Prop := (d.X.length ≤ 140737488351232 ∧ d.P.length ≤ 140737488351232 ∧ d.H.length ≤ 140737488351232) ∧ (∀ x ∈ d.X, x.t.size ≤ maxLen) ∧ ∀ x ∈ d.P, x.t.size ≤ maxLen
theorem spec_docF (v : Value) (d : Dc) (w : World) (hv : DcAt w w.heap.size v d) (hf : Fit d) : Calls Try.prog 63 #[v] w (Tell (docB d) w) := spec_doc v d w hv hf.1.1 hf.1.2.1 hf.1.2.2 hf.2
theorem eq_docF (v1 v2 : Value) (d : Dc) (w : World) (h1 : DcAt w w.heap.size v1 d) (h2 : DcAt w w.heap.size v2 d) (hf : Fit d) : Calls Try.prog 22 #[v1, v2] w (Yes w) := eq_doc v1 v2 d w h1 h2 hf.1.1 hf.1.2.1 hf.1.2.2
theorem impl_docF (v : Value) (d : Dc) (w : World) (hv : DcAt w w.heap.size v d) (hf : Fit d) : Calls Try.prog 41 #[v] w (Tell (docB d) w) := impl_doc v d w hv hf.1.1 hf.1.2.1 hf.1.2.2 hf.2

end Go.Proofs.Ytghiipoeedfkhaa
