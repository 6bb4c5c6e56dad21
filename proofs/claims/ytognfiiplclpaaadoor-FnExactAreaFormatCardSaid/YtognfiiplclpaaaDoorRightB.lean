/-
  Contracts of both DiskRight, at a right disk and at one that is not.
-/
import Derived.Test.YtognfiiplclpaaaDoorRight
namespace Go.Proofs.YtognfiiplclpaaaDoor
open Go.ChangeShapes Go.WideShapes Go.ChangeAt Go.RowKit

/-- It says b, and nothing that was there has turned. -/
def Says (w : World) (b : Bool) (e : Ending) (w' : World) : Prop := e = .returned (.bool b) ∧ Below w.heap.size w w'
theorem spec_right_yes (v : Value) (d : Dk) (w : World) (hv : DkAt w w.heap.size v d) (hS : d.S.length ≤ 1048576) (hP : d.P.length ≤ 1048576) (h : Right d) :
    Calls Tryd.prog 18 #[v] w (Says w true) := (spec_right v d w hv (by omega) (by omega)).mono fun e w' ⟨h1, h2⟩ => ⟨by rw [h1, rightB_yes h], h2⟩
theorem spec_right_no (v : Value) (d : Dk) (w : World) (hv : DkAt w w.heap.size v d) (hS : d.S.length ≤ 1048576) (hP : d.P.length ≤ 1048576) (h : ¬ Right d) :
    Calls Tryd.prog 18 #[v] w (Says w false) := (spec_right v d w hv (by omega) (by omega)).mono fun e w' ⟨h1, h2⟩ => ⟨by rw [h1, rightB_no h], h2⟩
theorem impl_right_yes (v : Value) (d : Dk) (w : World) (hv : DkAt w w.heap.size v d) (hS : d.S.length ≤ 1048576) (hP : d.P.length ≤ 1048576) (h : Right d) :
    Calls Tryd.prog 25 #[v] w (Says w true) := (impl_right v d w hv (by omega) (by omega)).mono fun e w' ⟨h1, h2⟩ => ⟨by rw [h1, rightB_yes h], h2⟩
theorem impl_right_no (v : Value) (d : Dk) (w : World) (hv : DkAt w w.heap.size v d) (hS : d.S.length ≤ 1048576) (hP : d.P.length ≤ 1048576) (h : ¬ Right d) :
    Calls Tryd.prog 25 #[v] w (Says w false) := (impl_right v d w hv (by omega) (by omega)).mono fun e w' ⟨h1, h2⟩ => ⟨by rw [h1, rightB_no h], h2⟩

end Go.Proofs.YtognfiiplclpaaaDoor
