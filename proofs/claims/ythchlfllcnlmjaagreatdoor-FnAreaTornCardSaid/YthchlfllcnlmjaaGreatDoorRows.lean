/-
  NARROWER THAN 'FOR EVERY INPUT', by the rows' own cells (each row's printed sentence says how): FnArea: ifaces, laid · FnAreaTorn: ifaces, laid · FnExactAreaRead: ifaces, laid · FnExactAreaPut: ifaces, laid.
  DERIVED. THE GIVEN ROWS OF THIS SEAT. 4 by the template 'for every input the law returns true; each argument reads behind the call as it read before'; 0 by the template 'total and deterministic' (their statements: YthchlfllcnlmjaaGreatDoorTotals.lean).
  GIVEN WITH THE SEED: the statements are not yours to turn. If you find one false, say at which input.
  Laid BY PROGRAM, IN A SANDBOX (cutbox-rows.mjs): the forced cells as the released guide's own fill.sh prints them over the translation f5d6150392496b40… (all of the seat's roots in one cut). By AI agents, Wed Nov 11 2026. No macro, syntax, notation, axiom, sorry.
-/
import Derived.Test.YthchlfllcnlmjaaGreatDoorChecked
import GoSem.Claim
import GoSem.ClaimJoined
import GoSem.ClaimMapViews
import Derived.JoinedTies
import Derived.KernelRfl
namespace Go.Proofs.YthchlfllcnlmjaaGreatDoor
/- THE CELL 'sum', in the pinned program and in every row, IS THE sha256 OF THE DUMP (.gsa) THAT YthchlfllcnlmjaaGreatDoorProg.lean LOADS. Nothing in Lean hashes anything: it is a label: what it is worth is what the hold of that sum in a sandbox is worth. -/
noncomputable def Tryz.pinned : Pinned := { name := "ythchlfllcnlmjaagreatdoor", sum := "f5d6150392496b40a2e971d2d5df1fbbf31d0e76ef54602a3db5dcf7cf06ebd8", checked := Tryz.checked }
namespace Rows
def none {H : Type} : Left H := { results := [], args := [] }

/- WHAT THE LISTED PACKAGE-LEVEL VARIABLES READ AS WHEN THE CALL BEGINS. Each datum BY PROGRAM (the guide's laid-datum.mjs) off the statement by which the dump's own 'gosem.cut.vars' lays the variable. In a bare row this is a premise. The card (YthchlfllcnlmjaaGreatDoorCards.lean) ties it to the program's text. -/
def laid_errors_errorType {H : Type} : DataW H := .iface "internal/reflectlite.rtype" (.agg [.ptr (.lit (.string [101, 114, 114, 111, 114]))])
def laid_loop_example_g00576_impl_errNotRight {H : Type} : DataW H := .iface "*errors.errorString" (.ptr (.agg [.lit (.string [97, 114, 101, 97, 58, 32, 116, 104, 101, 32, 100, 105, 115, 107, 32, 105, 115, 32, 110, 111, 116, 32, 114, 105, 103, 104, 116])]))
def laid_loop_example_g00576_impl_errNoHead {H : Type} : DataW H := .iface "*errors.errorString" (.ptr (.agg [.lit (.string [97, 114, 101, 97, 58, 32, 116, 104, 101, 32, 102, 105, 114, 115, 116, 32, 115, 101, 99, 116, 111, 114, 32, 104, 97, 115, 32, 110, 111, 32, 104, 101, 97, 100, 32, 111, 102, 32, 116, 104, 105, 115, 32, 100, 105, 115, 107])]))
def laid_loop_example_g00576_impl_errFewer {H : Type} : DataW H := .iface "*errors.errorString" (.ptr (.agg [.lit (.string [97, 114, 101, 97, 58, 32, 97, 32, 115, 101, 99, 116, 111, 114, 32, 104, 97, 115, 32, 102, 101, 119, 101, 114, 32, 98, 121, 116, 101, 115, 32, 116, 104, 97, 110, 32, 105, 116, 115, 32, 112, 97, 114, 116, 32, 111, 102, 32, 116, 104, 101, 32, 116, 101, 120, 116])]))
def laid_loop_example_g00576_impl_errNoRoom {H : Type} : DataW H := .iface "*errors.errorString" (.ptr (.agg [.lit (.string [97, 114, 101, 97, 58, 32, 116, 104, 101, 114, 101, 32, 105, 115, 32, 110, 111, 32, 114, 111, 111, 109, 32, 102, 111, 114, 32, 116, 104, 101, 32, 116, 101, 120, 116, 44, 32, 111, 114, 32, 110, 111, 32, 110, 117, 109, 98, 101, 114])]))

/-- 'laws.FnArea': WHATEVER THE INPUT: true; the input reads as it did. -/
def fnAreaSpec : ChangeSpec := { name := "fnArea", vars := ["loop.example/g00576/impl.errNotRight", "loop.example/g00576/impl.errNoHead", "loop.example/g00576/impl.errFewer", "loop.example/g00576/impl.errNoRoom"], fn := fun _ => fun
  | [d1, d2, g1, g2, g3, g4] => { results := [.lit (.bool true)], args := [d1, d2], vars := [g1, g2, g3, g4] }
  | _ => none }
def fnAreaRow : OpenClaim := { program := "ythchlfllcnlmjaagreatdoor", sum := "f5d6150392496b40a2e971d2d5df1fbbf31d0e76ef54602a3db5dcf7cf06ebd8", func := "loop.example/g00576/laws.FnArea", spec := "fnArea", inPlace := ["internal/abi.NoEscape", "internal/reflectlite.TypeOf", "internal/reflectlite.ValueOf", "(internal/reflectlite.Value).Type", "(internal/reflectlite.Value).IsNil", "(internal/reflectlite.Value).Elem", "(internal/reflectlite.Value).Set"], unfollowed := true, recurses := true, named := ["loop.example/g00576/impl.errNotRight", "loop.example/g00576/impl.errNoHead", "loop.example/g00576/impl.errFewer", "loop.example/g00576/impl.errNoRoom", "errors.errorType"], ifaces := true, apart := false, laid := [("errors.errorType", laid_errors_errorType), ("loop.example/g00576/impl.errNotRight", laid_loop_example_g00576_impl_errNotRight), ("loop.example/g00576/impl.errNoHead", laid_loop_example_g00576_impl_errNoHead), ("loop.example/g00576/impl.errFewer", laid_loop_example_g00576_impl_errFewer), ("loop.example/g00576/impl.errNoRoom", laid_loop_example_g00576_impl_errNoRoom)] }
def FnAreaSaid : Prop := fnAreaRow.holds Tryz.pinned (OpenSpec.ofChange fnAreaSpec)

/-- ITS FALSE NEIGHBOUR: 'it returns false'. Refute it at one input. -/
def fnAreaWrong : ChangeSpec := { name := "fnArea", vars := ["loop.example/g00576/impl.errNotRight", "loop.example/g00576/impl.errNoHead", "loop.example/g00576/impl.errFewer", "loop.example/g00576/impl.errNoRoom"], fn := fun _ => fun
  | [d1, d2, g1, g2, g3, g4] => { results := [.lit (.bool false)], args := [d1, d2], vars := [g1, g2, g3, g4] }
  | _ => none }
def FnAreaWrongFalsely : Prop := fnAreaRow.holds Tryz.pinned (OpenSpec.ofChange fnAreaWrong)

/-- 'laws.FnAreaTorn': WHATEVER THE INPUT: true; the input reads as it did. -/
def fnAreaTornSpec : ChangeSpec := { name := "fnAreaTorn", vars := ["loop.example/g00576/impl.errNoRoom", "loop.example/g00576/impl.errNotRight", "loop.example/g00576/impl.errNoHead", "loop.example/g00576/impl.errFewer"], fn := fun _ => fun
  | [d1, d2, g1, g2, g3, g4] => { results := [.lit (.bool true)], args := [d1, d2], vars := [g1, g2, g3, g4] }
  | _ => none }
def fnAreaTornRow : OpenClaim := { program := "ythchlfllcnlmjaagreatdoor", sum := "f5d6150392496b40a2e971d2d5df1fbbf31d0e76ef54602a3db5dcf7cf06ebd8", func := "loop.example/g00576/laws.FnAreaTorn", spec := "fnAreaTorn", inPlace := ["internal/abi.NoEscape", "internal/reflectlite.TypeOf", "internal/reflectlite.ValueOf", "(internal/reflectlite.Value).Type", "(internal/reflectlite.Value).IsNil", "(internal/reflectlite.Value).Elem", "(internal/reflectlite.Value).Set"], unfollowed := true, recurses := true, named := ["loop.example/g00576/impl.errNoRoom", "loop.example/g00576/impl.errNotRight", "loop.example/g00576/impl.errNoHead", "loop.example/g00576/impl.errFewer", "errors.errorType"], ifaces := true, apart := false, laid := [("errors.errorType", laid_errors_errorType), ("loop.example/g00576/impl.errNotRight", laid_loop_example_g00576_impl_errNotRight), ("loop.example/g00576/impl.errNoHead", laid_loop_example_g00576_impl_errNoHead), ("loop.example/g00576/impl.errFewer", laid_loop_example_g00576_impl_errFewer), ("loop.example/g00576/impl.errNoRoom", laid_loop_example_g00576_impl_errNoRoom)] }
def FnAreaTornSaid : Prop := fnAreaTornRow.holds Tryz.pinned (OpenSpec.ofChange fnAreaTornSpec)

/-- ITS FALSE NEIGHBOUR: 'it returns false'. Refute it at one input. -/
def fnAreaTornWrong : ChangeSpec := { name := "fnAreaTorn", vars := ["loop.example/g00576/impl.errNoRoom", "loop.example/g00576/impl.errNotRight", "loop.example/g00576/impl.errNoHead", "loop.example/g00576/impl.errFewer"], fn := fun _ => fun
  | [d1, d2, g1, g2, g3, g4] => { results := [.lit (.bool false)], args := [d1, d2], vars := [g1, g2, g3, g4] }
  | _ => none }
def FnAreaTornWrongFalsely : Prop := fnAreaTornRow.holds Tryz.pinned (OpenSpec.ofChange fnAreaTornWrong)

/-- 'laws.FnExactAreaRead': WHATEVER THE INPUT: true; the input reads as it did. -/
def fnExactAreaReadSpec : ChangeSpec := { name := "fnExactAreaRead", vars := ["loop.example/g00576/impl.errNotRight", "loop.example/g00576/impl.errNoHead", "loop.example/g00576/impl.errFewer", "loop.example/g00576/impl.errNoRoom"], fn := fun _ => fun
  | [d, g1, g2, g3, g4] => { results := [.lit (.bool true)], args := [d], vars := [g1, g2, g3, g4] }
  | _ => none }
def fnExactAreaReadRow : OpenClaim := { program := "ythchlfllcnlmjaagreatdoor", sum := "f5d6150392496b40a2e971d2d5df1fbbf31d0e76ef54602a3db5dcf7cf06ebd8", func := "loop.example/g00576/laws.FnExactAreaRead", spec := "fnExactAreaRead", inPlace := ["internal/abi.NoEscape", "internal/reflectlite.TypeOf", "internal/reflectlite.ValueOf", "(internal/reflectlite.Value).Type", "(internal/reflectlite.Value).IsNil", "(internal/reflectlite.Value).Elem", "(internal/reflectlite.Value).Set"], unfollowed := true, recurses := true, named := ["loop.example/g00576/impl.errNotRight", "loop.example/g00576/impl.errNoHead", "loop.example/g00576/impl.errFewer", "loop.example/g00576/impl.errNoRoom", "errors.errorType"], ifaces := true, apart := false, laid := [("errors.errorType", laid_errors_errorType), ("loop.example/g00576/impl.errNotRight", laid_loop_example_g00576_impl_errNotRight), ("loop.example/g00576/impl.errNoHead", laid_loop_example_g00576_impl_errNoHead), ("loop.example/g00576/impl.errFewer", laid_loop_example_g00576_impl_errFewer), ("loop.example/g00576/impl.errNoRoom", laid_loop_example_g00576_impl_errNoRoom)] }
def FnExactAreaReadSaid : Prop := fnExactAreaReadRow.holds Tryz.pinned (OpenSpec.ofChange fnExactAreaReadSpec)

/-- ITS FALSE NEIGHBOUR: 'it returns false'. Refute it at one input. -/
def fnExactAreaReadWrong : ChangeSpec := { name := "fnExactAreaRead", vars := ["loop.example/g00576/impl.errNotRight", "loop.example/g00576/impl.errNoHead", "loop.example/g00576/impl.errFewer", "loop.example/g00576/impl.errNoRoom"], fn := fun _ => fun
  | [d, g1, g2, g3, g4] => { results := [.lit (.bool false)], args := [d], vars := [g1, g2, g3, g4] }
  | _ => none }
def FnExactAreaReadWrongFalsely : Prop := fnExactAreaReadRow.holds Tryz.pinned (OpenSpec.ofChange fnExactAreaReadWrong)

/-- 'laws.FnExactAreaPut': WHATEVER THE INPUT: true; the input reads as it did. -/
def fnExactAreaPutSpec : ChangeSpec := { name := "fnExactAreaPut", vars := ["loop.example/g00576/impl.errNoRoom", "loop.example/g00576/impl.errNotRight", "loop.example/g00576/impl.errNoHead", "loop.example/g00576/impl.errFewer"], fn := fun _ => fun
  | [d1, d2, d3, g1, g2, g3, g4] => { results := [.lit (.bool true)], args := [d1, d2, d3], vars := [g1, g2, g3, g4] }
  | _ => none }
def fnExactAreaPutRow : OpenClaim := { program := "ythchlfllcnlmjaagreatdoor", sum := "f5d6150392496b40a2e971d2d5df1fbbf31d0e76ef54602a3db5dcf7cf06ebd8", func := "loop.example/g00576/laws.FnExactAreaPut", spec := "fnExactAreaPut", inPlace := ["internal/abi.NoEscape", "internal/reflectlite.TypeOf", "internal/reflectlite.ValueOf", "(internal/reflectlite.Value).Type", "(internal/reflectlite.Value).IsNil", "(internal/reflectlite.Value).Elem", "(internal/reflectlite.Value).Set"], unfollowed := true, recurses := true, named := ["loop.example/g00576/impl.errNoRoom", "loop.example/g00576/impl.errNotRight", "loop.example/g00576/impl.errNoHead", "loop.example/g00576/impl.errFewer", "errors.errorType"], ifaces := true, apart := false, laid := [("errors.errorType", laid_errors_errorType), ("loop.example/g00576/impl.errNotRight", laid_loop_example_g00576_impl_errNotRight), ("loop.example/g00576/impl.errNoHead", laid_loop_example_g00576_impl_errNoHead), ("loop.example/g00576/impl.errFewer", laid_loop_example_g00576_impl_errFewer), ("loop.example/g00576/impl.errNoRoom", laid_loop_example_g00576_impl_errNoRoom)] }
def FnExactAreaPutSaid : Prop := fnExactAreaPutRow.holds Tryz.pinned (OpenSpec.ofChange fnExactAreaPutSpec)

/-- ITS FALSE NEIGHBOUR: 'it returns false'. Refute it at one input. -/
def fnExactAreaPutWrong : ChangeSpec := { name := "fnExactAreaPut", vars := ["loop.example/g00576/impl.errNoRoom", "loop.example/g00576/impl.errNotRight", "loop.example/g00576/impl.errNoHead", "loop.example/g00576/impl.errFewer"], fn := fun _ => fun
  | [d1, d2, d3, g1, g2, g3, g4] => { results := [.lit (.bool false)], args := [d1, d2, d3], vars := [g1, g2, g3, g4] }
  | _ => none }
def FnExactAreaPutWrongFalsely : Prop := fnExactAreaPutRow.holds Tryz.pinned (OpenSpec.ofChange fnExactAreaPutWrong)

/- THE SECOND FORM. 'bulk': how many values and letters a reading holds, each counted each time it is reached (what is shared counts as often as it is met; a slice's spare places count too). A statement '..UptoSaid' is the law's where the arguments, and the package variables that the reading takes, are together of bulk at most 1048576: NARROWER than '..Said'. Prove '..Said' where nothing that the law and all that it calls make is longer than what came in: it says more and counts as full. Else prove '..UptoSaid'. A law counts once. -/
mutual
def uptoBulk {H : Type} : DataW H → Nat
  | .lit (.string bytes) => bytes.length + 1
  | .lit _ => 1
  | .nil => 1
  | .ptr d => uptoBulk d + 1
  | .slice elems spare => uptoBulkAll elems + uptoBulkAll spare + 1
  | .agg parts => uptoBulkAll parts + 1
  | .iface _ d => uptoBulk d + 1
  | .map entries => uptoBulkEntries entries + 1
  | .held _ => 1
def uptoBulkAll {H : Type} : List (DataW H) → Nat
  | [] => 0
  | d :: r => uptoBulk d + uptoBulkAll r
def uptoBulkEntries {H : Type} : List (Lit × DataW H) → Nat
  | [] => 0
  | x :: r => uptoBulkEntry x + uptoBulkEntries r
def uptoBulkEntry {H : Type} : Lit × DataW H → Nat
  | (.string bytes, d) => bytes.length + uptoBulk d + 1
  | (_, d) => uptoBulk d + 1
 end
def uptoSmall : (H : Type) → List (DataW H) → Bool := fun _ ds => decide (uptoBulkAll ds ≤ 1048576)
def OpenSpec.upto (s : _root_.Go.ChangeSpec) : _root_.Go.OpenSpec := { _root_.Go.OpenSpec.ofChange s with cond := some uptoSmall }

/-- 'laws.FnArea', WHERE WHAT IT READS IS OF BULK AT MOST 1048576: true; the input reads as it did. -/
def fnAreaUptoRow : OpenClaim := { program := "ythchlfllcnlmjaagreatdoor", sum := "f5d6150392496b40a2e971d2d5df1fbbf31d0e76ef54602a3db5dcf7cf06ebd8", func := "loop.example/g00576/laws.FnArea", spec := "fnArea", inPlace := ["internal/abi.NoEscape", "internal/reflectlite.TypeOf", "internal/reflectlite.ValueOf", "(internal/reflectlite.Value).Type", "(internal/reflectlite.Value).IsNil", "(internal/reflectlite.Value).Elem", "(internal/reflectlite.Value).Set"], unfollowed := true, recurses := true, named := ["loop.example/g00576/impl.errNotRight", "loop.example/g00576/impl.errNoHead", "loop.example/g00576/impl.errFewer", "loop.example/g00576/impl.errNoRoom", "errors.errorType"], ifaces := true, apart := false, laid := [("errors.errorType", laid_errors_errorType), ("loop.example/g00576/impl.errNotRight", laid_loop_example_g00576_impl_errNotRight), ("loop.example/g00576/impl.errNoHead", laid_loop_example_g00576_impl_errNoHead), ("loop.example/g00576/impl.errFewer", laid_loop_example_g00576_impl_errFewer), ("loop.example/g00576/impl.errNoRoom", laid_loop_example_g00576_impl_errNoRoom)], narrowed := true }
def FnAreaUptoSaid : Prop := fnAreaUptoRow.holds Tryz.pinned (OpenSpec.upto fnAreaSpec)

/-- 'laws.FnAreaTorn', WHERE WHAT IT READS IS OF BULK AT MOST 1048576: true; the input reads as it did. -/
def fnAreaTornUptoRow : OpenClaim := { program := "ythchlfllcnlmjaagreatdoor", sum := "f5d6150392496b40a2e971d2d5df1fbbf31d0e76ef54602a3db5dcf7cf06ebd8", func := "loop.example/g00576/laws.FnAreaTorn", spec := "fnAreaTorn", inPlace := ["internal/abi.NoEscape", "internal/reflectlite.TypeOf", "internal/reflectlite.ValueOf", "(internal/reflectlite.Value).Type", "(internal/reflectlite.Value).IsNil", "(internal/reflectlite.Value).Elem", "(internal/reflectlite.Value).Set"], unfollowed := true, recurses := true, named := ["loop.example/g00576/impl.errNoRoom", "loop.example/g00576/impl.errNotRight", "loop.example/g00576/impl.errNoHead", "loop.example/g00576/impl.errFewer", "errors.errorType"], ifaces := true, apart := false, laid := [("errors.errorType", laid_errors_errorType), ("loop.example/g00576/impl.errNotRight", laid_loop_example_g00576_impl_errNotRight), ("loop.example/g00576/impl.errNoHead", laid_loop_example_g00576_impl_errNoHead), ("loop.example/g00576/impl.errFewer", laid_loop_example_g00576_impl_errFewer), ("loop.example/g00576/impl.errNoRoom", laid_loop_example_g00576_impl_errNoRoom)], narrowed := true }
def FnAreaTornUptoSaid : Prop := fnAreaTornUptoRow.holds Tryz.pinned (OpenSpec.upto fnAreaTornSpec)

/-- 'laws.FnExactAreaRead', WHERE WHAT IT READS IS OF BULK AT MOST 1048576: true; the input reads as it did. -/
def fnExactAreaReadUptoRow : OpenClaim := { program := "ythchlfllcnlmjaagreatdoor", sum := "f5d6150392496b40a2e971d2d5df1fbbf31d0e76ef54602a3db5dcf7cf06ebd8", func := "loop.example/g00576/laws.FnExactAreaRead", spec := "fnExactAreaRead", inPlace := ["internal/abi.NoEscape", "internal/reflectlite.TypeOf", "internal/reflectlite.ValueOf", "(internal/reflectlite.Value).Type", "(internal/reflectlite.Value).IsNil", "(internal/reflectlite.Value).Elem", "(internal/reflectlite.Value).Set"], unfollowed := true, recurses := true, named := ["loop.example/g00576/impl.errNotRight", "loop.example/g00576/impl.errNoHead", "loop.example/g00576/impl.errFewer", "loop.example/g00576/impl.errNoRoom", "errors.errorType"], ifaces := true, apart := false, laid := [("errors.errorType", laid_errors_errorType), ("loop.example/g00576/impl.errNotRight", laid_loop_example_g00576_impl_errNotRight), ("loop.example/g00576/impl.errNoHead", laid_loop_example_g00576_impl_errNoHead), ("loop.example/g00576/impl.errFewer", laid_loop_example_g00576_impl_errFewer), ("loop.example/g00576/impl.errNoRoom", laid_loop_example_g00576_impl_errNoRoom)], narrowed := true }
def FnExactAreaReadUptoSaid : Prop := fnExactAreaReadUptoRow.holds Tryz.pinned (OpenSpec.upto fnExactAreaReadSpec)

/-- 'laws.FnExactAreaPut', WHERE WHAT IT READS IS OF BULK AT MOST 1048576: true; the input reads as it did. -/
def fnExactAreaPutUptoRow : OpenClaim := { program := "ythchlfllcnlmjaagreatdoor", sum := "f5d6150392496b40a2e971d2d5df1fbbf31d0e76ef54602a3db5dcf7cf06ebd8", func := "loop.example/g00576/laws.FnExactAreaPut", spec := "fnExactAreaPut", inPlace := ["internal/abi.NoEscape", "internal/reflectlite.TypeOf", "internal/reflectlite.ValueOf", "(internal/reflectlite.Value).Type", "(internal/reflectlite.Value).IsNil", "(internal/reflectlite.Value).Elem", "(internal/reflectlite.Value).Set"], unfollowed := true, recurses := true, named := ["loop.example/g00576/impl.errNoRoom", "loop.example/g00576/impl.errNotRight", "loop.example/g00576/impl.errNoHead", "loop.example/g00576/impl.errFewer", "errors.errorType"], ifaces := true, apart := false, laid := [("errors.errorType", laid_errors_errorType), ("loop.example/g00576/impl.errNotRight", laid_loop_example_g00576_impl_errNotRight), ("loop.example/g00576/impl.errNoHead", laid_loop_example_g00576_impl_errNoHead), ("loop.example/g00576/impl.errFewer", laid_loop_example_g00576_impl_errFewer), ("loop.example/g00576/impl.errNoRoom", laid_loop_example_g00576_impl_errNoRoom)], narrowed := true }
def FnExactAreaPutUptoSaid : Prop := fnExactAreaPutUptoRow.holds Tryz.pinned (OpenSpec.upto fnExactAreaPutSpec)

end Rows
end Go.Proofs.YthchlfllcnlmjaaGreatDoor
