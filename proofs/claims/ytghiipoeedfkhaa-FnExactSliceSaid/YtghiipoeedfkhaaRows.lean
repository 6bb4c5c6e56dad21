/-
  No cell of these rows narrows 'for every input' (looked for: loops, veiled, ifaces, maps, wideKeys, modest, calm, conditions, laid).
  DERIVED. THE GIVEN ROWS OF THIS SEAT. 6 by the template 'for every input the law returns true; each argument reads behind the call as it read before'; 0 by the template 'total and deterministic' (their statements: YtghiipoeedfkhaaTotals.lean).
  GIVEN WITH THE SEED: the statements are not yours to turn. If you find one false, say at which input.
  Laid BY PROGRAM, IN A SANDBOX (cutbox-rows.mjs): the forced cells as the released guide's own fill.sh prints them over the translation 4d7626acda56a797… (all of the seat's roots in one cut). By AI agents, Wed Nov 11 2026. No macro, syntax, notation, axiom, sorry.
-/
import Derived.Test.YtghiipoeedfkhaaChecked
import GoSem.Claim
import GoSem.ClaimJoined
import GoSem.ClaimMapViews
import Derived.JoinedTies
import Derived.KernelRfl
namespace Go.Proofs.Ytghiipoeedfkhaa
/- THE CELL 'sum', in the pinned program and in every row, IS THE sha256 OF THE DUMP (.gsa) THAT YtghiipoeedfkhaaProg.lean LOADS. Nothing in Lean hashes anything: it is a label: what it is worth is what the hold of that sum in a sandbox is worth. -/
noncomputable def Try.pinned : Pinned := { name := "ytghiipoeedfkhaa", sum := "4d7626acda56a797e2f8695e040e6338722afc2a003e204b5f87b4b73cc4d3c6", checked := Try.checked }
namespace Rows
def none {H : Type} : Left H := { results := [], args := [] }

/-- 'laws.FnRoom': WHATEVER THE INPUT: true; the input reads as it did. -/
def fnRoomSpec : ChangeSpec := { name := "fnRoom", fn := fun _ => fun
  | [d1, d2] => { results := [.lit (.bool true)], args := [d1, d2] }
  | _ => none }
def fnRoomRow : OpenClaim := { program := "ytghiipoeedfkhaa", sum := "4d7626acda56a797e2f8695e040e6338722afc2a003e204b5f87b4b73cc4d3c6", func := "loop.example/g00576/laws.FnRoom", spec := "fnRoom", inPlace := ["internal/abi.NoEscape", "slices.overlaps[loop.example/g00576/impl.Item]"], unfollowed := true, recurses := true, apart := false }
def FnRoomSaid : Prop := fnRoomRow.holds Try.pinned (OpenSpec.ofChange fnRoomSpec)

/-- ITS FALSE NEIGHBOUR: 'it returns false'. Refute it at one input. -/
def fnRoomWrong : ChangeSpec := { name := "fnRoom", fn := fun _ => fun
  | [d1, d2] => { results := [.lit (.bool false)], args := [d1, d2] }
  | _ => none }
def FnRoomWrongFalsely : Prop := fnRoomRow.holds Try.pinned (OpenSpec.ofChange fnRoomWrong)

/-- 'laws.FnExactInsert': WHATEVER THE INPUT: true; the input reads as it did. -/
def fnExactInsertSpec : ChangeSpec := { name := "fnExactInsert", fn := fun _ => fun
  | [d1, d2, d3, d4] => { results := [.lit (.bool true)], args := [d1, d2, d3, d4] }
  | _ => none }
def fnExactInsertRow : OpenClaim := { program := "ytghiipoeedfkhaa", sum := "4d7626acda56a797e2f8695e040e6338722afc2a003e204b5f87b4b73cc4d3c6", func := "loop.example/g00576/laws.FnExactInsert", spec := "fnExactInsert", inPlace := ["slices.overlaps[loop.example/g00576/impl.Item]"], unfollowed := true, recurses := true, apart := false }
def FnExactInsertSaid : Prop := fnExactInsertRow.holds Try.pinned (OpenSpec.ofChange fnExactInsertSpec)

/-- ITS FALSE NEIGHBOUR: 'it returns false'. Refute it at one input. -/
def fnExactInsertWrong : ChangeSpec := { name := "fnExactInsert", fn := fun _ => fun
  | [d1, d2, d3, d4] => { results := [.lit (.bool false)], args := [d1, d2, d3, d4] }
  | _ => none }
def FnExactInsertWrongFalsely : Prop := fnExactInsertRow.holds Try.pinned (OpenSpec.ofChange fnExactInsertWrong)

/-- 'laws.FnExactUpdateRead': WHATEVER THE INPUT: true; the input reads as it did. -/
def fnExactUpdateReadSpec : ChangeSpec := { name := "fnExactUpdateRead", fn := fun _ => fun
  | [d] => { results := [.lit (.bool true)], args := [d] }
  | _ => none }
def fnExactUpdateReadRow : OpenClaim := { program := "ytghiipoeedfkhaa", sum := "4d7626acda56a797e2f8695e040e6338722afc2a003e204b5f87b4b73cc4d3c6", func := "loop.example/g00576/laws.FnExactUpdateRead", spec := "fnExactUpdateRead", unfollowed := true, recurses := true, apart := false }
def FnExactUpdateReadSaid : Prop := fnExactUpdateReadRow.holds Try.pinned (OpenSpec.ofChange fnExactUpdateReadSpec)

/-- ITS FALSE NEIGHBOUR: 'it returns false'. Refute it at one input. -/
def fnExactUpdateReadWrong : ChangeSpec := { name := "fnExactUpdateRead", fn := fun _ => fun
  | [d] => { results := [.lit (.bool false)], args := [d] }
  | _ => none }
def FnExactUpdateReadWrongFalsely : Prop := fnExactUpdateReadRow.holds Try.pinned (OpenSpec.ofChange fnExactUpdateReadWrong)

/-- 'laws.FnExactLeavesOf': WHATEVER THE INPUT: true; the input reads as it did. -/
def fnExactLeavesOfSpec : ChangeSpec := { name := "fnExactLeavesOf", fn := fun _ => fun
  | [d] => { results := [.lit (.bool true)], args := [d] }
  | _ => none }
def fnExactLeavesOfRow : OpenClaim := { program := "ytghiipoeedfkhaa", sum := "4d7626acda56a797e2f8695e040e6338722afc2a003e204b5f87b4b73cc4d3c6", func := "loop.example/g00576/laws.FnExactLeavesOf", spec := "fnExactLeavesOf", unfollowed := true, recurses := true, apart := false }
def FnExactLeavesOfSaid : Prop := fnExactLeavesOfRow.holds Try.pinned (OpenSpec.ofChange fnExactLeavesOfSpec)

/-- ITS FALSE NEIGHBOUR: 'it returns false'. Refute it at one input. -/
def fnExactLeavesOfWrong : ChangeSpec := { name := "fnExactLeavesOf", fn := fun _ => fun
  | [d] => { results := [.lit (.bool false)], args := [d] }
  | _ => none }
def FnExactLeavesOfWrongFalsely : Prop := fnExactLeavesOfRow.holds Try.pinned (OpenSpec.ofChange fnExactLeavesOfWrong)

/-- 'laws.FnExactAtLive': WHATEVER THE INPUT: true; the input reads as it did. -/
def fnExactAtLiveSpec : ChangeSpec := { name := "fnExactAtLive", fn := fun _ => fun
  | [d1, d2] => { results := [.lit (.bool true)], args := [d1, d2] }
  | _ => none }
def fnExactAtLiveRow : OpenClaim := { program := "ytghiipoeedfkhaa", sum := "4d7626acda56a797e2f8695e040e6338722afc2a003e204b5f87b4b73cc4d3c6", func := "loop.example/g00576/laws.FnExactAtLive", spec := "fnExactAtLive", unfollowed := true, recurses := true, apart := false }
def FnExactAtLiveSaid : Prop := fnExactAtLiveRow.holds Try.pinned (OpenSpec.ofChange fnExactAtLiveSpec)

/-- ITS FALSE NEIGHBOUR: 'it returns false'. Refute it at one input. -/
def fnExactAtLiveWrong : ChangeSpec := { name := "fnExactAtLive", fn := fun _ => fun
  | [d1, d2] => { results := [.lit (.bool false)], args := [d1, d2] }
  | _ => none }
def FnExactAtLiveWrongFalsely : Prop := fnExactAtLiveRow.holds Try.pinned (OpenSpec.ofChange fnExactAtLiveWrong)

/-- 'laws.FnExactSlice': WHATEVER THE INPUT: true; the input reads as it did. -/
def fnExactSliceSpec : ChangeSpec := { name := "fnExactSlice", fn := fun _ => fun
  | [d1, d2, d3] => { results := [.lit (.bool true)], args := [d1, d2, d3] }
  | _ => none }
def fnExactSliceRow : OpenClaim := { program := "ytghiipoeedfkhaa", sum := "4d7626acda56a797e2f8695e040e6338722afc2a003e204b5f87b4b73cc4d3c6", func := "loop.example/g00576/laws.FnExactSlice", spec := "fnExactSlice", inPlace := ["internal/abi.NoEscape"], unfollowed := true, recurses := true, apart := false }
def FnExactSliceSaid : Prop := fnExactSliceRow.holds Try.pinned (OpenSpec.ofChange fnExactSliceSpec)

/-- ITS FALSE NEIGHBOUR: 'it returns false'. Refute it at one input. -/
def fnExactSliceWrong : ChangeSpec := { name := "fnExactSlice", fn := fun _ => fun
  | [d1, d2, d3] => { results := [.lit (.bool false)], args := [d1, d2, d3] }
  | _ => none }
def FnExactSliceWrongFalsely : Prop := fnExactSliceRow.holds Try.pinned (OpenSpec.ofChange fnExactSliceWrong)

/- THE SECOND FORM. 'bulk': how many values and letters a reading holds, each counted each time it is reached (what is shared counts as often as it is met; a slice's spare places count too). A statement '..UptoSaid' is the law's where the arguments, and the package variables that the reading takes, are together of bulk at most 1048576: NARROWER than '..Said'. Prove '..Said' where nothing that the law and all that it calls make is longer than what came in: it says more and counts as full. Else prove '..UptoSaid'. A law counts once. -/
mutual
def uptoBulk {H : Type} : DataW H → Nat
  | .lit (.string bytes) => bytes.length + 1
  | .lit _ => 1
  | .nil => 1
  | .ptr d => uptoBulk d + 1
  | .slice elems spare => uptoBulkAll elems + uptoBulkAll spare + 1
  | .agg parts => uptoBulkAll parts + 1
  | .iface _ d => uptoBulk d + 1
  | .map entries => uptoBulkEntries entries + 1
  | .held _ => 1
def uptoBulkAll {H : Type} : List (DataW H) → Nat
  | [] => 0
  | d :: r => uptoBulk d + uptoBulkAll r
def uptoBulkEntries {H : Type} : List (Lit × DataW H) → Nat
  | [] => 0
  | x :: r => uptoBulkEntry x + uptoBulkEntries r
def uptoBulkEntry {H : Type} : Lit × DataW H → Nat
  | (.string bytes, d) => bytes.length + uptoBulk d + 1
  | (_, d) => uptoBulk d + 1
 end
def uptoSmall : (H : Type) → List (DataW H) → Bool := fun _ ds => decide (uptoBulkAll ds ≤ 1048576)
def OpenSpec.upto (s : _root_.Go.ChangeSpec) : _root_.Go.OpenSpec := { _root_.Go.OpenSpec.ofChange s with cond := some uptoSmall }

/-- 'laws.FnRoom', WHERE WHAT IT READS IS OF BULK AT MOST 1048576: true; the input reads as it did. -/
def fnRoomUptoRow : OpenClaim := { program := "ytghiipoeedfkhaa", sum := "4d7626acda56a797e2f8695e040e6338722afc2a003e204b5f87b4b73cc4d3c6", func := "loop.example/g00576/laws.FnRoom", spec := "fnRoom", inPlace := ["internal/abi.NoEscape", "slices.overlaps[loop.example/g00576/impl.Item]"], unfollowed := true, recurses := true, apart := false, narrowed := true }
def FnRoomUptoSaid : Prop := fnRoomUptoRow.holds Try.pinned (OpenSpec.upto fnRoomSpec)

/-- 'laws.FnExactInsert', WHERE WHAT IT READS IS OF BULK AT MOST 1048576: true; the input reads as it did. -/
def fnExactInsertUptoRow : OpenClaim := { program := "ytghiipoeedfkhaa", sum := "4d7626acda56a797e2f8695e040e6338722afc2a003e204b5f87b4b73cc4d3c6", func := "loop.example/g00576/laws.FnExactInsert", spec := "fnExactInsert", inPlace := ["slices.overlaps[loop.example/g00576/impl.Item]"], unfollowed := true, recurses := true, apart := false, narrowed := true }
def FnExactInsertUptoSaid : Prop := fnExactInsertUptoRow.holds Try.pinned (OpenSpec.upto fnExactInsertSpec)

/-- 'laws.FnExactUpdateRead', WHERE WHAT IT READS IS OF BULK AT MOST 1048576: true; the input reads as it did. -/
def fnExactUpdateReadUptoRow : OpenClaim := { program := "ytghiipoeedfkhaa", sum := "4d7626acda56a797e2f8695e040e6338722afc2a003e204b5f87b4b73cc4d3c6", func := "loop.example/g00576/laws.FnExactUpdateRead", spec := "fnExactUpdateRead", unfollowed := true, recurses := true, apart := false, narrowed := true }
def FnExactUpdateReadUptoSaid : Prop := fnExactUpdateReadUptoRow.holds Try.pinned (OpenSpec.upto fnExactUpdateReadSpec)

/-- 'laws.FnExactLeavesOf', WHERE WHAT IT READS IS OF BULK AT MOST 1048576: true; the input reads as it did. -/
def fnExactLeavesOfUptoRow : OpenClaim := { program := "ytghiipoeedfkhaa", sum := "4d7626acda56a797e2f8695e040e6338722afc2a003e204b5f87b4b73cc4d3c6", func := "loop.example/g00576/laws.FnExactLeavesOf", spec := "fnExactLeavesOf", unfollowed := true, recurses := true, apart := false, narrowed := true }
def FnExactLeavesOfUptoSaid : Prop := fnExactLeavesOfUptoRow.holds Try.pinned (OpenSpec.upto fnExactLeavesOfSpec)

/-- 'laws.FnExactAtLive', WHERE WHAT IT READS IS OF BULK AT MOST 1048576: true; the input reads as it did. -/
def fnExactAtLiveUptoRow : OpenClaim := { program := "ytghiipoeedfkhaa", sum := "4d7626acda56a797e2f8695e040e6338722afc2a003e204b5f87b4b73cc4d3c6", func := "loop.example/g00576/laws.FnExactAtLive", spec := "fnExactAtLive", unfollowed := true, recurses := true, apart := false, narrowed := true }
def FnExactAtLiveUptoSaid : Prop := fnExactAtLiveUptoRow.holds Try.pinned (OpenSpec.upto fnExactAtLiveSpec)

/-- 'laws.FnExactSlice', WHERE WHAT IT READS IS OF BULK AT MOST 1048576: true; the input reads as it did. -/
def fnExactSliceUptoRow : OpenClaim := { program := "ytghiipoeedfkhaa", sum := "4d7626acda56a797e2f8695e040e6338722afc2a003e204b5f87b4b73cc4d3c6", func := "loop.example/g00576/laws.FnExactSlice", spec := "fnExactSlice", inPlace := ["internal/abi.NoEscape"], unfollowed := true, recurses := true, apart := false, narrowed := true }
def FnExactSliceUptoSaid : Prop := fnExactSliceUptoRow.holds Try.pinned (OpenSpec.upto fnExactSliceSpec)

end Rows
end Go.Proofs.Ytghiipoeedfkhaa
