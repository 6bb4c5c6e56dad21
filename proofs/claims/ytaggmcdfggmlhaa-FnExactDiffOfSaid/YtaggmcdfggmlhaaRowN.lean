/-
  The names of marks, items, names; a name asked by an interface.
-/
import Derived.Test.YtaggmcdfggmlhaaRow
import Derived.Test.YtaggmcdfggmlhaaIDoc
import Derived.Test.YtaggmcdfggmlhaaEqDoc
namespace Go.Proofs.Ytaggmcdfggmlhaa
set_option linter.unusedSimpArgs false
set_option linter.unusedVariables false
open Go.ChangeShapes Go.WideShapes Go.ChangeAt Go.RowKit

/-- The name of a mark. -/
@[reducible] def nmK (n : Nm) : Nm := ⟨n.c, 0⟩
@[reducible] def nmI (n : Nm) : Nm := n
@[go_sem] theorem name_mark (v : Value) (w : World) : (method 337 113 v "loop.example/g00576/impl.name").run Try.prog w = .ok (138, v) w := by kernel_rfl
@[go_sem] theorem name_item (v : Value) (w : World) : (method 337 91 v "loop.example/g00576/impl.name").run Try.prog w = .ok (223, v) w := by kernel_rfl
@[go_sem] theorem name_id (v : Value) (w : World) : (method 337 89 v "loop.example/g00576/impl.name").run Try.prog w = .ok (222, v) w := by kernel_rfl

theorem impl_nmK (n : Nm) (w : World) : Calls Try.prog 138 #[vN n] w (Back (vN (nmK n)) w) := by
  go_enter Try.func138, Try.ntmps138
  go_wp2
  refine bodyPost_ret (v := vN (nmK n)) (by simp [results, Try.results138, go_sem]) rfl ⟨rfl, ?_⟩
  (repeat (first | with_reducible refine bset ?_ _ (by omega) | with_reducible refine ball ?_ _ (by first | exact Nat.le_refl _ | (simp only [World.size_alloc, World.size_setCell]; omega)) | with_reducible exact Below.refl _ _ | with_reducible refine Below.drew ?_))
theorem impl_nmI (n : Nm) (w : World) : Calls Try.prog 222 #[vN n] w (Back (vN (nmI n)) w) := by
  go_enter Try.func222, Try.ntmps222
  go_wp2
  refine bodyPost_ret (v := vN n) (by simp [results, Try.results222, go_sem]) rfl ⟨rfl, ?_⟩
  (repeat (first | with_reducible refine bset ?_ _ (by omega) | with_reducible refine ball ?_ _ (by first | exact Nat.le_refl _ | (simp only [World.size_alloc, World.size_setCell]; omega)) | with_reducible exact Below.refl _ _ | with_reducible refine Below.drew ?_))
theorem impl_nmM (x : Im) (w : World) : Calls Try.prog 223 #[vM x] w (Back (vN x.i) w) := by
  go_enter Try.func223, Try.ntmps223
  go_wp2
  refine bodyPost_ret (v := vN x.i) (by simp [results, Try.results223, go_sem]) rfl ⟨rfl, ?_⟩
  (repeat (first | with_reducible refine bset ?_ _ (by omega) | with_reducible refine ball ?_ _ (by first | exact Nat.le_refl _ | (simp only [World.size_alloc, World.size_setCell]; omega)) | with_reducible exact Below.refl _ _ | with_reducible refine Below.drew ?_))

end Go.Proofs.Ytaggmcdfggmlhaa
