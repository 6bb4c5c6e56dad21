/-
  errors.Is at a target of errors.New's make, by its contracts: of that very error it says yes; of another one of that make, no; of the program's own error type (a struct of one number), no.
-/
import Derived.Test.YthchlfllcnlmjaaGreatDoorProg
import Derived.WalkKit
import Derived.LaidEql
import Derived.Stop.Asserts
import Derived.RowKitTokens
namespace Go.Proofs.YthchlfllcnlmjaaGreatDoor
open Go.RowKit Go.Extern.Stop Go.Stop Go.Extern

theorem ei_typeOf (v : Value) (w : World) : (Extern.ReflectliteType.typeOf #[.iface 179 v]).run Tryz.prog w = .ok (.iface 163 (.agg #[.pointer (some ⟨5, 179, none⟩)])) w := by kernel_rfl
/-- What 'Comparable' is called by, as a letter. -/
theorem ei_comparable : ∃ F : Array Value → Sem Value, (∀ w, (F #[.agg #[.pointer (some ⟨5, 179, none⟩)]]).run Tryz.prog w = .ok (.bool true) w) ∧ ∀ (args : Array Value) (w : World), (callFunc 149 args).run Tryz.prog w = ((F args).run Tryz.prog w).andThen fun v w' => .ok (Next.value v) w' :=
  ⟨_, fun w => by kernel_rfl, @run_callFunc_extern Tryz.prog 149 _ (Extern.ReflectliteType.method fun t => do Rtype.noPackHeld "Comparable" t; pure (.bool (← typeInfo t).comparable)) Tryz.func149 (by kernel_rfl) (by kernel_rfl) (by kernel_rfl) (by kernel_rfl)⟩
theorem ei_methodComparable (v : Value) (w : World) : (Go.method 311 163 v "Comparable").run Tryz.prog w = .ok (149, v) w := by kernel_rfl
theorem ei_comp : (Tryz.prog.info? 179).map (·.comparable) = some true := by kernel_rfl
theorem ei_size : (Tryz.prog.info? 199).map (·.size) = some 1 := by kernel_rfl
theorem ei_noIs (v : Value) (xT : TypeId) (w : World) : (Instr.typeAssert (.iface 179 v) xT 165 true).run Tryz.prog w = .ok (.tuple #[.nilIface, .bool false]) w := run_typeAssert_lacksB Tryz.underlying165 (by kernel_rfl) (by kernel_rfl) v xT w
theorem ei_noUnwrap (v : Value) (xT : TypeId) (w : World) : (Instr.typeAssert (.iface 179 v) xT 168 true).run Tryz.prog w = .ok (.tuple #[.nilIface, .bool false]) w := run_typeAssert_lacksB Tryz.underlying168 (by kernel_rfl) (by kernel_rfl) v xT w
theorem ei_noUnwraps (v : Value) (xT : TypeId) (w : World) : (Instr.typeAssert (.iface 179 v) xT 170 true).run Tryz.prog w = .ok (.tuple #[.nilIface, .bool false]) w := run_typeAssert_lacksB Tryz.underlying170 (by kernel_rfl) (by kernel_rfl) v xT w
theorem ei_noIsF (v : Value) (xT : TypeId) (w : World) : (Instr.typeAssert (.iface 106 v) xT 165 true).run Tryz.prog w = .ok (.tuple #[.nilIface, .bool false]) w := run_typeAssert_lacksB Tryz.underlying165 (by kernel_rfl) (by kernel_rfl) v xT w
theorem ei_noUnwrapF (v : Value) (xT : TypeId) (w : World) : (Instr.typeAssert (.iface 106 v) xT 168 true).run Tryz.prog w = .ok (.tuple #[.nilIface, .bool false]) w := run_typeAssert_lacksB Tryz.underlying168 (by kernel_rfl) (by kernel_rfl) v xT w
theorem ei_noUnwrapsF (v : Value) (xT : TypeId) (w : World) : (Instr.typeAssert (.iface 106 v) xT 170 true).run Tryz.prog w = .ok (.tuple #[.nilIface, .bool false]) w := run_typeAssert_lacksB Tryz.underlying170 (by kernel_rfl) (by kernel_rfl) v xT w

/-- The error itself. -/
theorem is_same (a : Addr) (w : World) :
    Calls Tryz.prog 102 #[.iface 179 (.pointer (some a)), .iface 179 (.pointer (some a))] w fun e w' => e = .returned (.bool true) ∧ w = w' := by
  obtain ⟨i, hi, hcmp⟩ := Option.map_eq_some_iff.1 ei_comp
  obtain ⟨j, hj, hjs⟩ := Option.map_eq_some_iff.1 ei_size
  have h8 := @run_callFunc_extern Tryz.prog 113 _ Extern.ReflectliteType.typeOf Tryz.func113 (by kernel_rfl) (by kernel_rfl) (by kernel_rfl) (by kernel_rfl)
  obtain ⟨F, cT, h32⟩ := ei_comparable
  have tT := ei_typeOf
  have mR := ei_methodComparable
  have heq := run_eql_iface_ptr_same (P := Tryz.prog) w a Tryz.underlying60 Tryz.underlying179 hi hcmp hj
  go_enter Tryz.func102, Tryz.ntmps102
  go_wp2
  refine wp_loop_rounds 1 ?_
  rw [rounds_succ]
  go_wp2
  go_ret
  exact ⟨rfl, rfl⟩

/-- Another error of that make. -/
theorem is_other (a b : Addr) (ca cb : Array Value) (ta tb : TypeId) (w : World) (hne : a ≠ b) (ha : w.heap[a.block]? = some (.cells ca ta (0, 0))) (hb : w.heap[b.block]? = some (.cells cb tb (0, 0))) :
    Calls Tryz.prog 102 #[.iface 179 (.pointer (some a)), .iface 179 (.pointer (some b))] w fun e w' => e = .returned (.bool false) ∧ w = w' := by
  obtain ⟨i, hi, hcmp⟩ := Option.map_eq_some_iff.1 ei_comp
  obtain ⟨j, hj, hjs⟩ := Option.map_eq_some_iff.1 ei_size
  have h8 := @run_callFunc_extern Tryz.prog 113 _ Extern.ReflectliteType.typeOf Tryz.func113 (by kernel_rfl) (by kernel_rfl) (by kernel_rfl) (by kernel_rfl)
  obtain ⟨F, cT, h32⟩ := ei_comparable
  have tT := ei_typeOf
  have mR := ei_methodComparable
  have nE := ei_noIs
  have uE := ei_noUnwrap
  have vE := ei_noUnwraps
  have heq := run_eql_iface_ptr_other (P := Tryz.prog) w Tryz.underlying60 Tryz.underlying179 hi hcmp hj (by rw [hjs]; decide) hne ha hb
  go_enter Tryz.func102, Tryz.ntmps102
  go_wp2
  refine wp_loop_rounds 1 ?_
  rw [rounds_succ]
  go_wp2
  go_ret
  exact ⟨rfl, rfl⟩

/-- An error of the program's own type. -/
theorem is_fault (v : Value) (b : Addr) (w : World) :
    Calls Tryz.prog 102 #[.iface 106 v, .iface 179 (.pointer (some b))] w fun e w' => e = .returned (.bool false) ∧ w = w' := by
  have h8 := @run_callFunc_extern Tryz.prog 113 _ Extern.ReflectliteType.typeOf Tryz.func113 (by kernel_rfl) (by kernel_rfl) (by kernel_rfl) (by kernel_rfl)
  obtain ⟨F, cT, h32⟩ := ei_comparable
  have tT := ei_typeOf
  have mR := ei_methodComparable
  have nE := ei_noIsF
  have uE := ei_noUnwrapF
  have vE := ei_noUnwrapsF
  have hty := run_eql_iface_types (P := Tryz.prog) 106 179 v (.pointer (some b)) Tryz.underlying60 (by decide) w
  go_enter Tryz.func102, Tryz.ntmps102
  go_wp2
  refine wp_loop_rounds 1 ?_
  rw [rounds_succ]
  go_wp2
  go_ret
  exact ⟨rfl, rfl⟩

end Go.Proofs.YthchlfllcnlmjaaGreatDoor
