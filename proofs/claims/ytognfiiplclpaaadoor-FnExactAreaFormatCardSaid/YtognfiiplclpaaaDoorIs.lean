/-
  errors.Is at a target of errors.New's make, by its contracts: of that very error it says yes; of another one of that make, no; of the program's own error type (a struct of one number), no.
-/
import Derived.Test.YtognfiiplclpaaaDoorProg
import Derived.WalkKit
import Derived.LaidEql
import Derived.Stop.Asserts
import Derived.RowKitTokens
namespace Go.Proofs.YtognfiiplclpaaaDoor
open Go.RowKit Go.Extern.Stop Go.Stop Go.Extern

theorem ei_typeOf (v : Value) (w : World) : (Extern.ReflectliteType.typeOf #[.iface 157 v]).run Tryd.prog w = .ok (.iface 141 (.agg #[.pointer (some ⟨5, 157, none⟩)])) w := by kernel_rfl
/-- What 'Comparable' is called by, as a letter. -/
theorem ei_comparable : ∃ F : Array Value → Sem Value, (∀ w, (F #[.agg #[.pointer (some ⟨5, 157, none⟩)]]).run Tryd.prog w = .ok (.bool true) w) ∧ ∀ (args : Array Value) (w : World), (callFunc 121 args).run Tryd.prog w = ((F args).run Tryd.prog w).andThen fun v w' => .ok (Next.value v) w' :=
  ⟨_, fun w => by kernel_rfl, @run_callFunc_extern Tryd.prog 121 _ (Extern.ReflectliteType.method fun t => do Rtype.noPackHeld "Comparable" t; pure (.bool (← typeInfo t).comparable)) Tryd.func121 (by kernel_rfl) (by kernel_rfl) (by kernel_rfl) (by kernel_rfl)⟩
theorem ei_methodComparable (v : Value) (w : World) : (Go.method 287 141 v "Comparable").run Tryd.prog w = .ok (121, v) w := by kernel_rfl
theorem ei_comp : (Tryd.prog.info? 157).map (·.comparable) = some true := by kernel_rfl
theorem ei_size : (Tryd.prog.info? 175).map (·.size) = some 1 := by kernel_rfl
theorem ei_noIs (v : Value) (xT : TypeId) (w : World) : (Instr.typeAssert (.iface 157 v) xT 143 true).run Tryd.prog w = .ok (.tuple #[.nilIface, .bool false]) w := run_typeAssert_lacksB Tryd.underlying143 (by kernel_rfl) (by kernel_rfl) v xT w
theorem ei_noUnwrap (v : Value) (xT : TypeId) (w : World) : (Instr.typeAssert (.iface 157 v) xT 146 true).run Tryd.prog w = .ok (.tuple #[.nilIface, .bool false]) w := run_typeAssert_lacksB Tryd.underlying146 (by kernel_rfl) (by kernel_rfl) v xT w
theorem ei_noUnwraps (v : Value) (xT : TypeId) (w : World) : (Instr.typeAssert (.iface 157 v) xT 148 true).run Tryd.prog w = .ok (.tuple #[.nilIface, .bool false]) w := run_typeAssert_lacksB Tryd.underlying148 (by kernel_rfl) (by kernel_rfl) v xT w
theorem ei_noIsF (v : Value) (xT : TypeId) (w : World) : (Instr.typeAssert (.iface 96 v) xT 143 true).run Tryd.prog w = .ok (.tuple #[.nilIface, .bool false]) w := run_typeAssert_lacksB Tryd.underlying143 (by kernel_rfl) (by kernel_rfl) v xT w
theorem ei_noUnwrapF (v : Value) (xT : TypeId) (w : World) : (Instr.typeAssert (.iface 96 v) xT 146 true).run Tryd.prog w = .ok (.tuple #[.nilIface, .bool false]) w := run_typeAssert_lacksB Tryd.underlying146 (by kernel_rfl) (by kernel_rfl) v xT w
theorem ei_noUnwrapsF (v : Value) (xT : TypeId) (w : World) : (Instr.typeAssert (.iface 96 v) xT 148 true).run Tryd.prog w = .ok (.tuple #[.nilIface, .bool false]) w := run_typeAssert_lacksB Tryd.underlying148 (by kernel_rfl) (by kernel_rfl) v xT w

/-- The error itself. -/
theorem is_same (a : Addr) (w : World) :
    Calls Tryd.prog 76 #[.iface 157 (.pointer (some a)), .iface 157 (.pointer (some a))] w fun e w' => e = .returned (.bool true) ∧ w = w' := by
  obtain ⟨i, hi, hcmp⟩ := Option.map_eq_some_iff.1 ei_comp
  obtain ⟨j, hj, hjs⟩ := Option.map_eq_some_iff.1 ei_size
  have h8 := @run_callFunc_extern Tryd.prog 83 _ Extern.ReflectliteType.typeOf Tryd.func83 (by kernel_rfl) (by kernel_rfl) (by kernel_rfl) (by kernel_rfl)
  obtain ⟨F, cT, h32⟩ := ei_comparable
  have tT := ei_typeOf
  have mR := ei_methodComparable
  have heq := run_eql_iface_ptr_same (P := Tryd.prog) w a Tryd.underlying52 Tryd.underlying157 hi hcmp hj
  go_enter Tryd.func76, Tryd.ntmps76
  go_wp2
  refine wp_loop_rounds 1 ?_
  rw [rounds_succ]
  go_wp2
  go_ret
  exact ⟨rfl, rfl⟩

/-- Another error of that make. -/
theorem is_other (a b : Addr) (ca cb : Array Value) (ta tb : TypeId) (w : World) (hne : a ≠ b) (ha : w.heap[a.block]? = some (.cells ca ta (0, 0))) (hb : w.heap[b.block]? = some (.cells cb tb (0, 0))) :
    Calls Tryd.prog 76 #[.iface 157 (.pointer (some a)), .iface 157 (.pointer (some b))] w fun e w' => e = .returned (.bool false) ∧ w = w' := by
  obtain ⟨i, hi, hcmp⟩ := Option.map_eq_some_iff.1 ei_comp
  obtain ⟨j, hj, hjs⟩ := Option.map_eq_some_iff.1 ei_size
  have h8 := @run_callFunc_extern Tryd.prog 83 _ Extern.ReflectliteType.typeOf Tryd.func83 (by kernel_rfl) (by kernel_rfl) (by kernel_rfl) (by kernel_rfl)
  obtain ⟨F, cT, h32⟩ := ei_comparable
  have tT := ei_typeOf
  have mR := ei_methodComparable
  have nE := ei_noIs
  have uE := ei_noUnwrap
  have vE := ei_noUnwraps
  have heq := run_eql_iface_ptr_other (P := Tryd.prog) w Tryd.underlying52 Tryd.underlying157 hi hcmp hj (by rw [hjs]; decide) hne ha hb
  go_enter Tryd.func76, Tryd.ntmps76
  go_wp2
  refine wp_loop_rounds 1 ?_
  rw [rounds_succ]
  go_wp2
  go_ret
  exact ⟨rfl, rfl⟩

/-- An error of the program's own type. -/
theorem is_fault (v : Value) (b : Addr) (w : World) :
    Calls Tryd.prog 76 #[.iface 96 v, .iface 157 (.pointer (some b))] w fun e w' => e = .returned (.bool false) ∧ w = w' := by
  have h8 := @run_callFunc_extern Tryd.prog 83 _ Extern.ReflectliteType.typeOf Tryd.func83 (by kernel_rfl) (by kernel_rfl) (by kernel_rfl) (by kernel_rfl)
  obtain ⟨F, cT, h32⟩ := ei_comparable
  have tT := ei_typeOf
  have mR := ei_methodComparable
  have nE := ei_noIsF
  have uE := ei_noUnwrapF
  have vE := ei_noUnwrapsF
  have hty := run_eql_iface_types (P := Tryd.prog) 96 157 v (.pointer (some b)) Tryd.underlying52 (by decide) w
  go_enter Tryd.func76, Tryd.ntmps76
  go_wp2
  refine wp_loop_rounds 1 ?_
  rw [rounds_succ]
  go_wp2
  go_ret
  exact ⟨rfl, rfl⟩

end Go.Proofs.YtognfiiplclpaaaDoor
