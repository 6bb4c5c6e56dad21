/-
  No cell of these rows narrows 'for every input' (looked for: loops, veiled, ifaces, maps, wideKeys, modest, calm, conditions, laid).
  DERIVED. THE GIVEN ROWS OF THIS SEAT. 8 by the template 'for every input the law returns true; each argument reads behind the call as it read before'; 0 by the template 'total and deterministic' (their statements: YtaggmcdfggmlhaaTotals.lean).
  GIVEN WITH THE SEED: the statements are not yours to turn. If you find one false, say at which input.
  Laid BY PROGRAM, IN A SANDBOX (cutbox-rows.mjs): the forced cells as the released guide's own fill.sh prints them over the translation c917c80e11ea5ab7… (all of the seat's roots in one cut). By AI agents, Wed Nov 11 2026. No macro, syntax, notation, axiom, sorry.
-/
import Derived.Test.YtaggmcdfggmlhaaChecked
import GoSem.Claim
import GoSem.ClaimJoined
import GoSem.ClaimMapViews
import Derived.JoinedTies
import Derived.KernelRfl
namespace Go.Proofs.Ytaggmcdfggmlhaa
/- THE CELL 'sum', in the pinned program and in every row, IS THE sha256 OF THE DUMP (.gsa) THAT YtaggmcdfggmlhaaProg.lean LOADS. Nothing in Lean hashes anything: it is a label: what it is worth is what the hold of that sum in a sandbox is worth. -/
noncomputable def Try.pinned : Pinned := { name := "ytaggmcdfggmlhaa", sum := "c917c80e11ea5ab75ad11c3b9714400a34c53f597f5e18470114aa48890963df", checked := Try.checked }
namespace Rows
def none {H : Type} : Left H := { results := [], args := [] }

/-- 'laws.FnRoom': WHATEVER THE INPUT: true; the input reads as it did. -/
def fnRoomSpec : ChangeSpec := { name := "fnRoom", fn := fun _ => fun
  | [d1, d2] => { results := [.lit (.bool true)], args := [d1, d2] }
  | _ => none }
def fnRoomRow : OpenClaim := { program := "ytaggmcdfggmlhaa", sum := "c917c80e11ea5ab75ad11c3b9714400a34c53f597f5e18470114aa48890963df", func := "loop.example/g00576/laws.FnRoom", spec := "fnRoom", inPlace := ["internal/abi.NoEscape", "slices.overlaps[loop.example/g00576/impl.Item]"], unfollowed := true, recurses := true, apart := false }
def FnRoomSaid : Prop := fnRoomRow.holds Try.pinned (OpenSpec.ofChange fnRoomSpec)

/-- ITS FALSE NEIGHBOUR: 'it returns false'. Refute it at one input. -/
def fnRoomWrong : ChangeSpec := { name := "fnRoom", fn := fun _ => fun
  | [d1, d2] => { results := [.lit (.bool false)], args := [d1, d2] }
  | _ => none }
def FnRoomWrongFalsely : Prop := fnRoomRow.holds Try.pinned (OpenSpec.ofChange fnRoomWrong)

/-- 'laws.FnExactInsert': WHATEVER THE INPUT: true; the input reads as it did. -/
def fnExactInsertSpec : ChangeSpec := { name := "fnExactInsert", fn := fun _ => fun
  | [d1, d2, d3, d4] => { results := [.lit (.bool true)], args := [d1, d2, d3, d4] }
  | _ => none }
def fnExactInsertRow : OpenClaim := { program := "ytaggmcdfggmlhaa", sum := "c917c80e11ea5ab75ad11c3b9714400a34c53f597f5e18470114aa48890963df", func := "loop.example/g00576/laws.FnExactInsert", spec := "fnExactInsert", inPlace := ["slices.overlaps[loop.example/g00576/impl.Item]"], unfollowed := true, recurses := true, apart := false }
def FnExactInsertSaid : Prop := fnExactInsertRow.holds Try.pinned (OpenSpec.ofChange fnExactInsertSpec)

/-- ITS FALSE NEIGHBOUR: 'it returns false'. Refute it at one input. -/
def fnExactInsertWrong : ChangeSpec := { name := "fnExactInsert", fn := fun _ => fun
  | [d1, d2, d3, d4] => { results := [.lit (.bool false)], args := [d1, d2, d3, d4] }
  | _ => none }
def FnExactInsertWrongFalsely : Prop := fnExactInsertRow.holds Try.pinned (OpenSpec.ofChange fnExactInsertWrong)

/-- 'laws.FnExactMarksOf': WHATEVER THE INPUT: true; the input reads as it did. -/
def fnExactMarksOfSpec : ChangeSpec := { name := "fnExactMarksOf", fn := fun _ => fun
  | [d] => { results := [.lit (.bool true)], args := [d] }
  | _ => none }
def fnExactMarksOfRow : OpenClaim := { program := "ytaggmcdfggmlhaa", sum := "c917c80e11ea5ab75ad11c3b9714400a34c53f597f5e18470114aa48890963df", func := "loop.example/g00576/laws.FnExactMarksOf", spec := "fnExactMarksOf", unfollowed := true, recurses := true, apart := false }
def FnExactMarksOfSaid : Prop := fnExactMarksOfRow.holds Try.pinned (OpenSpec.ofChange fnExactMarksOfSpec)

/-- ITS FALSE NEIGHBOUR: 'it returns false'. Refute it at one input. -/
def fnExactMarksOfWrong : ChangeSpec := { name := "fnExactMarksOf", fn := fun _ => fun
  | [d] => { results := [.lit (.bool false)], args := [d] }
  | _ => none }
def FnExactMarksOfWrongFalsely : Prop := fnExactMarksOfRow.holds Try.pinned (OpenSpec.ofChange fnExactMarksOfWrong)

/-- 'laws.FnExactMarksRight': WHATEVER THE INPUT: true; the input reads as it did. -/
def fnExactMarksRightSpec : ChangeSpec := { name := "fnExactMarksRight", fn := fun _ => fun
  | [d] => { results := [.lit (.bool true)], args := [d] }
  | _ => none }
def fnExactMarksRightRow : OpenClaim := { program := "ytaggmcdfggmlhaa", sum := "c917c80e11ea5ab75ad11c3b9714400a34c53f597f5e18470114aa48890963df", func := "loop.example/g00576/laws.FnExactMarksRight", spec := "fnExactMarksRight", unfollowed := true, recurses := true, apart := false }
def FnExactMarksRightSaid : Prop := fnExactMarksRightRow.holds Try.pinned (OpenSpec.ofChange fnExactMarksRightSpec)

/-- ITS FALSE NEIGHBOUR: 'it returns false'. Refute it at one input. -/
def fnExactMarksRightWrong : ChangeSpec := { name := "fnExactMarksRight", fn := fun _ => fun
  | [d] => { results := [.lit (.bool false)], args := [d] }
  | _ => none }
def FnExactMarksRightWrongFalsely : Prop := fnExactMarksRightRow.holds Try.pinned (OpenSpec.ofChange fnExactMarksRightWrong)

/-- 'laws.FnExactUpdateRight': WHATEVER THE INPUT: true; the input reads as it did. -/
def fnExactUpdateRightSpec : ChangeSpec := { name := "fnExactUpdateRight", fn := fun _ => fun
  | [d] => { results := [.lit (.bool true)], args := [d] }
  | _ => none }
def fnExactUpdateRightRow : OpenClaim := { program := "ytaggmcdfggmlhaa", sum := "c917c80e11ea5ab75ad11c3b9714400a34c53f597f5e18470114aa48890963df", func := "loop.example/g00576/laws.FnExactUpdateRight", spec := "fnExactUpdateRight", unfollowed := true, recurses := true, apart := false }
def FnExactUpdateRightSaid : Prop := fnExactUpdateRightRow.holds Try.pinned (OpenSpec.ofChange fnExactUpdateRightSpec)

/-- ITS FALSE NEIGHBOUR: 'it returns false'. Refute it at one input. -/
def fnExactUpdateRightWrong : ChangeSpec := { name := "fnExactUpdateRight", fn := fun _ => fun
  | [d] => { results := [.lit (.bool false)], args := [d] }
  | _ => none }
def FnExactUpdateRightWrongFalsely : Prop := fnExactUpdateRightRow.holds Try.pinned (OpenSpec.ofChange fnExactUpdateRightWrong)

/-- 'laws.FnExactDiffOf': WHATEVER THE INPUT: true; the input reads as it did. -/
def fnExactDiffOfSpec : ChangeSpec := { name := "fnExactDiffOf", fn := fun _ => fun
  | [d1, d2] => { results := [.lit (.bool true)], args := [d1, d2] }
  | _ => none }
def fnExactDiffOfRow : OpenClaim := { program := "ytaggmcdfggmlhaa", sum := "c917c80e11ea5ab75ad11c3b9714400a34c53f597f5e18470114aa48890963df", func := "loop.example/g00576/laws.FnExactDiffOf", spec := "fnExactDiffOf", unfollowed := true, recurses := true, apart := false }
def FnExactDiffOfSaid : Prop := fnExactDiffOfRow.holds Try.pinned (OpenSpec.ofChange fnExactDiffOfSpec)

/-- ITS FALSE NEIGHBOUR: 'it returns false'. Refute it at one input. -/
def fnExactDiffOfWrong : ChangeSpec := { name := "fnExactDiffOf", fn := fun _ => fun
  | [d1, d2] => { results := [.lit (.bool false)], args := [d1, d2] }
  | _ => none }
def FnExactDiffOfWrongFalsely : Prop := fnExactDiffOfRow.holds Try.pinned (OpenSpec.ofChange fnExactDiffOfWrong)

/-- 'laws.FnExactUpdateBytes': WHATEVER THE INPUT: true; the input reads as it did. -/
def fnExactUpdateBytesSpec : ChangeSpec := { name := "fnExactUpdateBytes", fn := fun _ => fun
  | [d] => { results := [.lit (.bool true)], args := [d] }
  | _ => none }
def fnExactUpdateBytesRow : OpenClaim := { program := "ytaggmcdfggmlhaa", sum := "c917c80e11ea5ab75ad11c3b9714400a34c53f597f5e18470114aa48890963df", func := "loop.example/g00576/laws.FnExactUpdateBytes", spec := "fnExactUpdateBytes", inPlace := ["internal/abi.NoEscape"], unfollowed := true, recurses := true, apart := false }
def FnExactUpdateBytesSaid : Prop := fnExactUpdateBytesRow.holds Try.pinned (OpenSpec.ofChange fnExactUpdateBytesSpec)

/-- ITS FALSE NEIGHBOUR: 'it returns false'. Refute it at one input. -/
def fnExactUpdateBytesWrong : ChangeSpec := { name := "fnExactUpdateBytes", fn := fun _ => fun
  | [d] => { results := [.lit (.bool false)], args := [d] }
  | _ => none }
def FnExactUpdateBytesWrongFalsely : Prop := fnExactUpdateBytesRow.holds Try.pinned (OpenSpec.ofChange fnExactUpdateBytesWrong)

/-- 'laws.FnExactUpdateRead': WHATEVER THE INPUT: true; the input reads as it did. -/
def fnExactUpdateReadSpec : ChangeSpec := { name := "fnExactUpdateRead", fn := fun _ => fun
  | [d] => { results := [.lit (.bool true)], args := [d] }
  | _ => none }
def fnExactUpdateReadRow : OpenClaim := { program := "ytaggmcdfggmlhaa", sum := "c917c80e11ea5ab75ad11c3b9714400a34c53f597f5e18470114aa48890963df", func := "loop.example/g00576/laws.FnExactUpdateRead", spec := "fnExactUpdateRead", unfollowed := true, recurses := true, apart := false }
def FnExactUpdateReadSaid : Prop := fnExactUpdateReadRow.holds Try.pinned (OpenSpec.ofChange fnExactUpdateReadSpec)

/-- ITS FALSE NEIGHBOUR: 'it returns false'. Refute it at one input. -/
def fnExactUpdateReadWrong : ChangeSpec := { name := "fnExactUpdateRead", fn := fun _ => fun
  | [d] => { results := [.lit (.bool false)], args := [d] }
  | _ => none }
def FnExactUpdateReadWrongFalsely : Prop := fnExactUpdateReadRow.holds Try.pinned (OpenSpec.ofChange fnExactUpdateReadWrong)

/- THE SECOND FORM. 'bulk': how many values and letters a reading holds, each counted each time it is reached (what is shared counts as often as it is met; a slice's spare places count too). A statement '..UptoSaid' is the law's where the arguments, and the package variables that the reading takes, are together of bulk at most 1048576: NARROWER than '..Said'. Prove '..Said' where nothing that the law and all that it calls make is longer than what came in: it says more and counts as full. Else prove '..UptoSaid'. A law counts once. -/
mutual
def uptoBulk {H : Type} : DataW H → Nat
  | .lit (.string bytes) => bytes.length + 1
  | .lit _ => 1
  | .nil => 1
  | .ptr d => uptoBulk d + 1
  | .slice elems spare => uptoBulkAll elems + uptoBulkAll spare + 1
  | .agg parts => uptoBulkAll parts + 1
  | .iface _ d => uptoBulk d + 1
  | .map entries => uptoBulkEntries entries + 1
  | .held _ => 1
def uptoBulkAll {H : Type} : List (DataW H) → Nat
  | [] => 0
  | d :: r => uptoBulk d + uptoBulkAll r
def uptoBulkEntries {H : Type} : List (Lit × DataW H) → Nat
  | [] => 0
  | x :: r => uptoBulkEntry x + uptoBulkEntries r
def uptoBulkEntry {H : Type} : Lit × DataW H → Nat
  | (.string bytes, d) => bytes.length + uptoBulk d + 1
  | (_, d) => uptoBulk d + 1
 end
def uptoSmall : (H : Type) → List (DataW H) → Bool := fun _ ds => decide (uptoBulkAll ds ≤ 1048576)
def OpenSpec.upto (s : _root_.Go.ChangeSpec) : _root_.Go.OpenSpec := { _root_.Go.OpenSpec.ofChange s with cond := some uptoSmall }

/-- 'laws.FnRoom', WHERE WHAT IT READS IS OF BULK AT MOST 1048576: true; the input reads as it did. -/
def fnRoomUptoRow : OpenClaim := { program := "ytaggmcdfggmlhaa", sum := "c917c80e11ea5ab75ad11c3b9714400a34c53f597f5e18470114aa48890963df", func := "loop.example/g00576/laws.FnRoom", spec := "fnRoom", inPlace := ["internal/abi.NoEscape", "slices.overlaps[loop.example/g00576/impl.Item]"], unfollowed := true, recurses := true, apart := false, narrowed := true }
def FnRoomUptoSaid : Prop := fnRoomUptoRow.holds Try.pinned (OpenSpec.upto fnRoomSpec)

/-- 'laws.FnExactInsert', WHERE WHAT IT READS IS OF BULK AT MOST 1048576: true; the input reads as it did. -/
def fnExactInsertUptoRow : OpenClaim := { program := "ytaggmcdfggmlhaa", sum := "c917c80e11ea5ab75ad11c3b9714400a34c53f597f5e18470114aa48890963df", func := "loop.example/g00576/laws.FnExactInsert", spec := "fnExactInsert", inPlace := ["slices.overlaps[loop.example/g00576/impl.Item]"], unfollowed := true, recurses := true, apart := false, narrowed := true }
def FnExactInsertUptoSaid : Prop := fnExactInsertUptoRow.holds Try.pinned (OpenSpec.upto fnExactInsertSpec)

/-- 'laws.FnExactMarksOf', WHERE WHAT IT READS IS OF BULK AT MOST 1048576: true; the input reads as it did. -/
def fnExactMarksOfUptoRow : OpenClaim := { program := "ytaggmcdfggmlhaa", sum := "c917c80e11ea5ab75ad11c3b9714400a34c53f597f5e18470114aa48890963df", func := "loop.example/g00576/laws.FnExactMarksOf", spec := "fnExactMarksOf", unfollowed := true, recurses := true, apart := false, narrowed := true }
def FnExactMarksOfUptoSaid : Prop := fnExactMarksOfUptoRow.holds Try.pinned (OpenSpec.upto fnExactMarksOfSpec)

/-- 'laws.FnExactMarksRight', WHERE WHAT IT READS IS OF BULK AT MOST 1048576: true; the input reads as it did. -/
def fnExactMarksRightUptoRow : OpenClaim := { program := "ytaggmcdfggmlhaa", sum := "c917c80e11ea5ab75ad11c3b9714400a34c53f597f5e18470114aa48890963df", func := "loop.example/g00576/laws.FnExactMarksRight", spec := "fnExactMarksRight", unfollowed := true, recurses := true, apart := false, narrowed := true }
def FnExactMarksRightUptoSaid : Prop := fnExactMarksRightUptoRow.holds Try.pinned (OpenSpec.upto fnExactMarksRightSpec)

/-- 'laws.FnExactUpdateRight', WHERE WHAT IT READS IS OF BULK AT MOST 1048576: true; the input reads as it did. -/
def fnExactUpdateRightUptoRow : OpenClaim := { program := "ytaggmcdfggmlhaa", sum := "c917c80e11ea5ab75ad11c3b9714400a34c53f597f5e18470114aa48890963df", func := "loop.example/g00576/laws.FnExactUpdateRight", spec := "fnExactUpdateRight", unfollowed := true, recurses := true, apart := false, narrowed := true }
def FnExactUpdateRightUptoSaid : Prop := fnExactUpdateRightUptoRow.holds Try.pinned (OpenSpec.upto fnExactUpdateRightSpec)

/-- 'laws.FnExactDiffOf', WHERE WHAT IT READS IS OF BULK AT MOST 1048576: true; the input reads as it did. -/
def fnExactDiffOfUptoRow : OpenClaim := { program := "ytaggmcdfggmlhaa", sum := "c917c80e11ea5ab75ad11c3b9714400a34c53f597f5e18470114aa48890963df", func := "loop.example/g00576/laws.FnExactDiffOf", spec := "fnExactDiffOf", unfollowed := true, recurses := true, apart := false, narrowed := true }
def FnExactDiffOfUptoSaid : Prop := fnExactDiffOfUptoRow.holds Try.pinned (OpenSpec.upto fnExactDiffOfSpec)

/-- 'laws.FnExactUpdateBytes', WHERE WHAT IT READS IS OF BULK AT MOST 1048576: true; the input reads as it did. -/
def fnExactUpdateBytesUptoRow : OpenClaim := { program := "ytaggmcdfggmlhaa", sum := "c917c80e11ea5ab75ad11c3b9714400a34c53f597f5e18470114aa48890963df", func := "loop.example/g00576/laws.FnExactUpdateBytes", spec := "fnExactUpdateBytes", inPlace := ["internal/abi.NoEscape"], unfollowed := true, recurses := true, apart := false, narrowed := true }
def FnExactUpdateBytesUptoSaid : Prop := fnExactUpdateBytesUptoRow.holds Try.pinned (OpenSpec.upto fnExactUpdateBytesSpec)

/-- 'laws.FnExactUpdateRead', WHERE WHAT IT READS IS OF BULK AT MOST 1048576: true; the input reads as it did. -/
def fnExactUpdateReadUptoRow : OpenClaim := { program := "ytaggmcdfggmlhaa", sum := "c917c80e11ea5ab75ad11c3b9714400a34c53f597f5e18470114aa48890963df", func := "loop.example/g00576/laws.FnExactUpdateRead", spec := "fnExactUpdateRead", unfollowed := true, recurses := true, apart := false, narrowed := true }
def FnExactUpdateReadUptoSaid : Prop := fnExactUpdateReadUptoRow.holds Try.pinned (OpenSpec.upto fnExactUpdateReadSpec)

end Rows
end Go.Proofs.Ytaggmcdfggmlhaa
