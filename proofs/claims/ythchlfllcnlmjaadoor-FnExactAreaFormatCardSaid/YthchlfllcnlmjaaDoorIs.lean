/-
  errors.Is at a target of errors.New's make, by its contracts: of that very error it says yes; of another one of that make, no; of the program's own error type (a struct of one number), no.
-/
import Derived.Test.YthchlfllcnlmjaaDoorProg
import Derived.WalkKit
import Derived.LaidEql
import Derived.Stop.Asserts
import Derived.RowKitTokens
namespace Go.Proofs.YthchlfllcnlmjaaDoor
open Go.RowKit Go.Extern.Stop Go.Stop Go.Extern

theorem ei_typeOf (v : Value) (w : World) : (Extern.ReflectliteType.typeOf #[.iface 127 v]).run Tryd.prog w = .ok (.iface 111 (.agg #[.pointer (some ⟨5, 127, none⟩)])) w := by kernel_rfl
/-- What 'Comparable' is called by, as a letter. -/
theorem ei_comparable : ∃ F : Array Value → Sem Value, (∀ w, (F #[.agg #[.pointer (some ⟨5, 127, none⟩)]]).run Tryd.prog w = .ok (.bool true) w) ∧ ∀ (args : Array Value) (w : World), (callFunc 96 args).run Tryd.prog w = ((F args).run Tryd.prog w).andThen fun v w' => .ok (Next.value v) w' :=
  ⟨_, fun w => by kernel_rfl, @run_callFunc_extern Tryd.prog 96 _ (Extern.ReflectliteType.method fun t => do Rtype.noPackHeld "Comparable" t; pure (.bool (← typeInfo t).comparable)) Tryd.func96 (by kernel_rfl) (by kernel_rfl) (by kernel_rfl) (by kernel_rfl)⟩
theorem ei_methodComparable (v : Value) (w : World) : (Go.method 258 111 v "Comparable").run Tryd.prog w = .ok (96, v) w := by kernel_rfl
theorem ei_comp : (Tryd.prog.info? 127).map (·.comparable) = some true := by kernel_rfl
theorem ei_size : (Tryd.prog.info? 146).map (·.size) = some 1 := by kernel_rfl
theorem ei_noIs (v : Value) (xT : TypeId) (w : World) : (Instr.typeAssert (.iface 127 v) xT 113 true).run Tryd.prog w = .ok (.tuple #[.nilIface, .bool false]) w := run_typeAssert_lacksB Tryd.underlying113 (by kernel_rfl) (by kernel_rfl) v xT w
theorem ei_noUnwrap (v : Value) (xT : TypeId) (w : World) : (Instr.typeAssert (.iface 127 v) xT 116 true).run Tryd.prog w = .ok (.tuple #[.nilIface, .bool false]) w := run_typeAssert_lacksB Tryd.underlying116 (by kernel_rfl) (by kernel_rfl) v xT w
theorem ei_noUnwraps (v : Value) (xT : TypeId) (w : World) : (Instr.typeAssert (.iface 127 v) xT 118 true).run Tryd.prog w = .ok (.tuple #[.nilIface, .bool false]) w := run_typeAssert_lacksB Tryd.underlying118 (by kernel_rfl) (by kernel_rfl) v xT w
theorem ei_noIsF (v : Value) (xT : TypeId) (w : World) : (Instr.typeAssert (.iface 85 v) xT 113 true).run Tryd.prog w = .ok (.tuple #[.nilIface, .bool false]) w := run_typeAssert_lacksB Tryd.underlying113 (by kernel_rfl) (by kernel_rfl) v xT w
theorem ei_noUnwrapF (v : Value) (xT : TypeId) (w : World) : (Instr.typeAssert (.iface 85 v) xT 116 true).run Tryd.prog w = .ok (.tuple #[.nilIface, .bool false]) w := run_typeAssert_lacksB Tryd.underlying116 (by kernel_rfl) (by kernel_rfl) v xT w
theorem ei_noUnwrapsF (v : Value) (xT : TypeId) (w : World) : (Instr.typeAssert (.iface 85 v) xT 118 true).run Tryd.prog w = .ok (.tuple #[.nilIface, .bool false]) w := run_typeAssert_lacksB Tryd.underlying118 (by kernel_rfl) (by kernel_rfl) v xT w

/-- The error itself. -/
theorem is_same (a : Addr) (w : World) :
    Calls Tryd.prog 56 #[.iface 127 (.pointer (some a)), .iface 127 (.pointer (some a))] w fun e w' => e = .returned (.bool true) ∧ w = w' := by
  obtain ⟨i, hi, hcmp⟩ := Option.map_eq_some_iff.1 ei_comp
  obtain ⟨j, hj, hjs⟩ := Option.map_eq_some_iff.1 ei_size
  have h8 := @run_callFunc_extern Tryd.prog 61 _ Extern.ReflectliteType.typeOf Tryd.func61 (by kernel_rfl) (by kernel_rfl) (by kernel_rfl) (by kernel_rfl)
  obtain ⟨F, cT, h32⟩ := ei_comparable
  have tT := ei_typeOf
  have mR := ei_methodComparable
  have heq := run_eql_iface_ptr_same (P := Tryd.prog) w a Tryd.underlying52 Tryd.underlying127 hi hcmp hj
  go_enter Tryd.func56, Tryd.ntmps56
  go_wp2
  refine wp_loop_rounds 1 ?_
  rw [rounds_succ]
  go_wp2
  go_ret
  exact ⟨rfl, rfl⟩

/-- Another error of that make. -/
theorem is_other (a b : Addr) (ca cb : Array Value) (ta tb : TypeId) (w : World) (hne : a ≠ b) (ha : w.heap[a.block]? = some (.cells ca ta (0, 0))) (hb : w.heap[b.block]? = some (.cells cb tb (0, 0))) :
    Calls Tryd.prog 56 #[.iface 127 (.pointer (some a)), .iface 127 (.pointer (some b))] w fun e w' => e = .returned (.bool false) ∧ w = w' := by
  obtain ⟨i, hi, hcmp⟩ := Option.map_eq_some_iff.1 ei_comp
  obtain ⟨j, hj, hjs⟩ := Option.map_eq_some_iff.1 ei_size
  have h8 := @run_callFunc_extern Tryd.prog 61 _ Extern.ReflectliteType.typeOf Tryd.func61 (by kernel_rfl) (by kernel_rfl) (by kernel_rfl) (by kernel_rfl)
  obtain ⟨F, cT, h32⟩ := ei_comparable
  have tT := ei_typeOf
  have mR := ei_methodComparable
  have nE := ei_noIs
  have uE := ei_noUnwrap
  have vE := ei_noUnwraps
  have heq := run_eql_iface_ptr_other (P := Tryd.prog) w Tryd.underlying52 Tryd.underlying127 hi hcmp hj (by rw [hjs]; decide) hne ha hb
  go_enter Tryd.func56, Tryd.ntmps56
  go_wp2
  refine wp_loop_rounds 1 ?_
  rw [rounds_succ]
  go_wp2
  go_ret
  exact ⟨rfl, rfl⟩

/-- An error of the program's own type. -/
theorem is_fault (v : Value) (b : Addr) (w : World) :
    Calls Tryd.prog 56 #[.iface 85 v, .iface 127 (.pointer (some b))] w fun e w' => e = .returned (.bool false) ∧ w = w' := by
  have h8 := @run_callFunc_extern Tryd.prog 61 _ Extern.ReflectliteType.typeOf Tryd.func61 (by kernel_rfl) (by kernel_rfl) (by kernel_rfl) (by kernel_rfl)
  obtain ⟨F, cT, h32⟩ := ei_comparable
  have tT := ei_typeOf
  have mR := ei_methodComparable
  have nE := ei_noIsF
  have uE := ei_noUnwrapF
  have vE := ei_noUnwrapsF
  have hty := run_eql_iface_types (P := Tryd.prog) 85 127 v (.pointer (some b)) Tryd.underlying52 (by decide) w
  go_enter Tryd.func56, Tryd.ntmps56
  go_wp2
  refine wp_loop_rounds 1 ?_
  rw [rounds_succ]
  go_wp2
  go_ret
  exact ⟨rfl, rfl⟩

end Go.Proofs.YthchlfllcnlmjaaDoor
