/-
  No cell of these rows narrows 'for every input' (looked for: loops, veiled, ifaces, maps, wideKeys, modest, calm, conditions, laid).
  DERIVED. THE GIVEN ROWS OF THIS SEAT. 7 by the template 'for every input the law returns true; each argument reads behind the call as it read before'; 0 by the template 'total and deterministic' (their statements: YtmkcfjopneaimaaTotals.lean).
  GIVEN WITH THE SEED: the statements are not yours to turn. If you find one false, say at which input.
  Laid BY PROGRAM, IN A SANDBOX (cutbox-rows.mjs): the forced cells as the released guide's own fill.sh prints them over the translation f935e13aaf6bfb1c… (all of the seat's roots in one cut). By AI agents, Wed Nov 11 2026. No macro, syntax, notation, axiom, sorry.
-/
import Derived.Test.YtmkcfjopneaimaaChecked
import GoSem.Claim
import GoSem.ClaimJoined
import GoSem.ClaimMapViews
import Derived.JoinedTies
import Derived.KernelRfl
namespace Go.Proofs.Ytmkcfjopneaimaa
/- THE CELL 'sum', in the pinned program and in every row, IS THE sha256 OF THE DUMP (.gsa) THAT YtmkcfjopneaimaaProg.lean LOADS. Nothing in Lean hashes anything: it is a label: what it is worth is what the hold of that sum in a sandbox is worth. -/
noncomputable def Try.pinned : Pinned := { name := "ytmkcfjopneaimaa", sum := "f935e13aaf6bfb1cc64ba3bbd6980e09abd5fe5ee3039e093200f925dcb4a08d", checked := Try.checked }
namespace Rows
def none {H : Type} : Left H := { results := [], args := [] }

/-- 'laws.FnExactItemRight': WHATEVER THE INPUT: true; the input reads as it did. -/
def fnExactItemRightSpec : ChangeSpec := { name := "fnExactItemRight", fn := fun _ => fun
  | [d] => { results := [.lit (.bool true)], args := [d] }
  | _ => none }
def fnExactItemRightRow : OpenClaim := { program := "ytmkcfjopneaimaa", sum := "f935e13aaf6bfb1cc64ba3bbd6980e09abd5fe5ee3039e093200f925dcb4a08d", func := "loop.example/g00576/laws.FnExactItemRight", spec := "fnExactItemRight", apart := false }
def FnExactItemRightSaid : Prop := fnExactItemRightRow.holds Try.pinned (OpenSpec.ofChange fnExactItemRightSpec)

/-- ITS FALSE NEIGHBOUR: 'it returns false'. Refute it at one input. -/
def fnExactItemRightWrong : ChangeSpec := { name := "fnExactItemRight", fn := fun _ => fun
  | [d] => { results := [.lit (.bool false)], args := [d] }
  | _ => none }
def FnExactItemRightWrongFalsely : Prop := fnExactItemRightRow.holds Try.pinned (OpenSpec.ofChange fnExactItemRightWrong)

/-- 'laws.FnExactDocRight': WHATEVER THE INPUT: true; the input reads as it did. -/
def fnExactDocRightSpec : ChangeSpec := { name := "fnExactDocRight", fn := fun _ => fun
  | [d] => { results := [.lit (.bool true)], args := [d] }
  | _ => none }
def fnExactDocRightRow : OpenClaim := { program := "ytmkcfjopneaimaa", sum := "f935e13aaf6bfb1cc64ba3bbd6980e09abd5fe5ee3039e093200f925dcb4a08d", func := "loop.example/g00576/laws.FnExactDocRight", spec := "fnExactDocRight", unfollowed := true, recurses := true, apart := false }
def FnExactDocRightSaid : Prop := fnExactDocRightRow.holds Try.pinned (OpenSpec.ofChange fnExactDocRightSpec)

/-- ITS FALSE NEIGHBOUR: 'it returns false'. Refute it at one input. -/
def fnExactDocRightWrong : ChangeSpec := { name := "fnExactDocRight", fn := fun _ => fun
  | [d] => { results := [.lit (.bool false)], args := [d] }
  | _ => none }
def FnExactDocRightWrongFalsely : Prop := fnExactDocRightRow.holds Try.pinned (OpenSpec.ofChange fnExactDocRightWrong)

/-- 'laws.FnExactTextOf': WHATEVER THE INPUT: true; the input reads as it did. -/
def fnExactTextOfSpec : ChangeSpec := { name := "fnExactTextOf", fn := fun _ => fun
  | [d] => { results := [.lit (.bool true)], args := [d] }
  | _ => none }
def fnExactTextOfRow : OpenClaim := { program := "ytmkcfjopneaimaa", sum := "f935e13aaf6bfb1cc64ba3bbd6980e09abd5fe5ee3039e093200f925dcb4a08d", func := "loop.example/g00576/laws.FnExactTextOf", spec := "fnExactTextOf", inPlace := ["internal/abi.NoEscape"], unfollowed := true, recurses := true, apart := false }
def FnExactTextOfSaid : Prop := fnExactTextOfRow.holds Try.pinned (OpenSpec.ofChange fnExactTextOfSpec)

/-- ITS FALSE NEIGHBOUR: 'it returns false'. Refute it at one input. -/
def fnExactTextOfWrong : ChangeSpec := { name := "fnExactTextOf", fn := fun _ => fun
  | [d] => { results := [.lit (.bool false)], args := [d] }
  | _ => none }
def FnExactTextOfWrongFalsely : Prop := fnExactTextOfRow.holds Try.pinned (OpenSpec.ofChange fnExactTextOfWrong)

/-- 'laws.FnExactPlaceOf': WHATEVER THE INPUT: true; the input reads as it did. -/
def fnExactPlaceOfSpec : ChangeSpec := { name := "fnExactPlaceOf", fn := fun _ => fun
  | [d1, d2] => { results := [.lit (.bool true)], args := [d1, d2] }
  | _ => none }
def fnExactPlaceOfRow : OpenClaim := { program := "ytmkcfjopneaimaa", sum := "f935e13aaf6bfb1cc64ba3bbd6980e09abd5fe5ee3039e093200f925dcb4a08d", func := "loop.example/g00576/laws.FnExactPlaceOf", spec := "fnExactPlaceOf", unfollowed := true, recurses := true, apart := false }
def FnExactPlaceOfSaid : Prop := fnExactPlaceOfRow.holds Try.pinned (OpenSpec.ofChange fnExactPlaceOfSpec)

/-- ITS FALSE NEIGHBOUR: 'it returns false'. Refute it at one input. -/
def fnExactPlaceOfWrong : ChangeSpec := { name := "fnExactPlaceOf", fn := fun _ => fun
  | [d1, d2] => { results := [.lit (.bool false)], args := [d1, d2] }
  | _ => none }
def FnExactPlaceOfWrongFalsely : Prop := fnExactPlaceOfRow.holds Try.pinned (OpenSpec.ofChange fnExactPlaceOfWrong)

/-- 'laws.FnExactNextOf': WHATEVER THE INPUT: true; the input reads as it did. -/
def fnExactNextOfSpec : ChangeSpec := { name := "fnExactNextOf", fn := fun _ => fun
  | [d1, d2] => { results := [.lit (.bool true)], args := [d1, d2] }
  | _ => none }
def fnExactNextOfRow : OpenClaim := { program := "ytmkcfjopneaimaa", sum := "f935e13aaf6bfb1cc64ba3bbd6980e09abd5fe5ee3039e093200f925dcb4a08d", func := "loop.example/g00576/laws.FnExactNextOf", spec := "fnExactNextOf", unfollowed := true, recurses := true, apart := false }
def FnExactNextOfSaid : Prop := fnExactNextOfRow.holds Try.pinned (OpenSpec.ofChange fnExactNextOfSpec)

/-- ITS FALSE NEIGHBOUR: 'it returns false'. Refute it at one input. -/
def fnExactNextOfWrong : ChangeSpec := { name := "fnExactNextOf", fn := fun _ => fun
  | [d1, d2] => { results := [.lit (.bool false)], args := [d1, d2] }
  | _ => none }
def FnExactNextOfWrongFalsely : Prop := fnExactNextOfRow.holds Try.pinned (OpenSpec.ofChange fnExactNextOfWrong)

/-- 'laws.FnExactInsert': WHATEVER THE INPUT: true; the input reads as it did. -/
def fnExactInsertSpec : ChangeSpec := { name := "fnExactInsert", fn := fun _ => fun
  | [d1, d2, d3, d4] => { results := [.lit (.bool true)], args := [d1, d2, d3, d4] }
  | _ => none }
def fnExactInsertRow : OpenClaim := { program := "ytmkcfjopneaimaa", sum := "f935e13aaf6bfb1cc64ba3bbd6980e09abd5fe5ee3039e093200f925dcb4a08d", func := "loop.example/g00576/laws.FnExactInsert", spec := "fnExactInsert", inPlace := ["slices.overlaps[loop.example/g00576/impl.Item]"], unfollowed := true, recurses := true, apart := false }
def FnExactInsertSaid : Prop := fnExactInsertRow.holds Try.pinned (OpenSpec.ofChange fnExactInsertSpec)

/-- ITS FALSE NEIGHBOUR: 'it returns false'. Refute it at one input. -/
def fnExactInsertWrong : ChangeSpec := { name := "fnExactInsert", fn := fun _ => fun
  | [d1, d2, d3, d4] => { results := [.lit (.bool false)], args := [d1, d2, d3, d4] }
  | _ => none }
def FnExactInsertWrongFalsely : Prop := fnExactInsertRow.holds Try.pinned (OpenSpec.ofChange fnExactInsertWrong)

/-- 'laws.FnExactDelete': WHATEVER THE INPUT: true; the input reads as it did. -/
def fnExactDeleteSpec : ChangeSpec := { name := "fnExactDelete", fn := fun _ => fun
  | [d1, d2, d3] => { results := [.lit (.bool true)], args := [d1, d2, d3] }
  | _ => none }
def fnExactDeleteRow : OpenClaim := { program := "ytmkcfjopneaimaa", sum := "f935e13aaf6bfb1cc64ba3bbd6980e09abd5fe5ee3039e093200f925dcb4a08d", func := "loop.example/g00576/laws.FnExactDelete", spec := "fnExactDelete", unfollowed := true, recurses := true, apart := false }
def FnExactDeleteSaid : Prop := fnExactDeleteRow.holds Try.pinned (OpenSpec.ofChange fnExactDeleteSpec)

/-- ITS FALSE NEIGHBOUR: 'it returns false'. Refute it at one input. -/
def fnExactDeleteWrong : ChangeSpec := { name := "fnExactDelete", fn := fun _ => fun
  | [d1, d2, d3] => { results := [.lit (.bool false)], args := [d1, d2, d3] }
  | _ => none }
def FnExactDeleteWrongFalsely : Prop := fnExactDeleteRow.holds Try.pinned (OpenSpec.ofChange fnExactDeleteWrong)

/- THE SECOND FORM. 'bulk': how many values and letters a reading holds, each counted each time it is reached (what is shared counts as often as it is met; a slice's spare places count too). A statement '..UptoSaid' is the law's where the arguments, and the package variables that the reading takes, are together of bulk at most 1048576: NARROWER than '..Said'. Prove '..Said' where nothing that the law and all that it calls make is longer than what came in: it says more and counts as full. Else prove '..UptoSaid'. A law counts once. -/
mutual
def uptoBulk {H : Type} : DataW H → Nat
  | .lit (.string bytes) => bytes.length + 1
  | .lit _ => 1
  | .nil => 1
  | .ptr d => uptoBulk d + 1
  | .slice elems spare => uptoBulkAll elems + uptoBulkAll spare + 1
  | .agg parts => uptoBulkAll parts + 1
  | .iface _ d => uptoBulk d + 1
  | .map entries => uptoBulkEntries entries + 1
  | .held _ => 1
def uptoBulkAll {H : Type} : List (DataW H) → Nat
  | [] => 0
  | d :: r => uptoBulk d + uptoBulkAll r
def uptoBulkEntries {H : Type} : List (Lit × DataW H) → Nat
  | [] => 0
  | x :: r => uptoBulkEntry x + uptoBulkEntries r
def uptoBulkEntry {H : Type} : Lit × DataW H → Nat
  | (.string bytes, d) => bytes.length + uptoBulk d + 1
  | (_, d) => uptoBulk d + 1
 end
def uptoSmall : (H : Type) → List (DataW H) → Bool := fun _ ds => decide (uptoBulkAll ds ≤ 1048576)
def OpenSpec.upto (s : _root_.Go.ChangeSpec) : _root_.Go.OpenSpec := { _root_.Go.OpenSpec.ofChange s with cond := some uptoSmall }

/-- 'laws.FnExactItemRight', WHERE WHAT IT READS IS OF BULK AT MOST 1048576: true; the input reads as it did. -/
def fnExactItemRightUptoRow : OpenClaim := { program := "ytmkcfjopneaimaa", sum := "f935e13aaf6bfb1cc64ba3bbd6980e09abd5fe5ee3039e093200f925dcb4a08d", func := "loop.example/g00576/laws.FnExactItemRight", spec := "fnExactItemRight", apart := false, narrowed := true }
def FnExactItemRightUptoSaid : Prop := fnExactItemRightUptoRow.holds Try.pinned (OpenSpec.upto fnExactItemRightSpec)

/-- 'laws.FnExactDocRight', WHERE WHAT IT READS IS OF BULK AT MOST 1048576: true; the input reads as it did. -/
def fnExactDocRightUptoRow : OpenClaim := { program := "ytmkcfjopneaimaa", sum := "f935e13aaf6bfb1cc64ba3bbd6980e09abd5fe5ee3039e093200f925dcb4a08d", func := "loop.example/g00576/laws.FnExactDocRight", spec := "fnExactDocRight", unfollowed := true, recurses := true, apart := false, narrowed := true }
def FnExactDocRightUptoSaid : Prop := fnExactDocRightUptoRow.holds Try.pinned (OpenSpec.upto fnExactDocRightSpec)

/-- 'laws.FnExactTextOf', WHERE WHAT IT READS IS OF BULK AT MOST 1048576: true; the input reads as it did. -/
def fnExactTextOfUptoRow : OpenClaim := { program := "ytmkcfjopneaimaa", sum := "f935e13aaf6bfb1cc64ba3bbd6980e09abd5fe5ee3039e093200f925dcb4a08d", func := "loop.example/g00576/laws.FnExactTextOf", spec := "fnExactTextOf", inPlace := ["internal/abi.NoEscape"], unfollowed := true, recurses := true, apart := false, narrowed := true }
def FnExactTextOfUptoSaid : Prop := fnExactTextOfUptoRow.holds Try.pinned (OpenSpec.upto fnExactTextOfSpec)

/-- 'laws.FnExactPlaceOf', WHERE WHAT IT READS IS OF BULK AT MOST 1048576: true; the input reads as it did. -/
def fnExactPlaceOfUptoRow : OpenClaim := { program := "ytmkcfjopneaimaa", sum := "f935e13aaf6bfb1cc64ba3bbd6980e09abd5fe5ee3039e093200f925dcb4a08d", func := "loop.example/g00576/laws.FnExactPlaceOf", spec := "fnExactPlaceOf", unfollowed := true, recurses := true, apart := false, narrowed := true }
def FnExactPlaceOfUptoSaid : Prop := fnExactPlaceOfUptoRow.holds Try.pinned (OpenSpec.upto fnExactPlaceOfSpec)

/-- 'laws.FnExactNextOf', WHERE WHAT IT READS IS OF BULK AT MOST 1048576: true; the input reads as it did. -/
def fnExactNextOfUptoRow : OpenClaim := { program := "ytmkcfjopneaimaa", sum := "f935e13aaf6bfb1cc64ba3bbd6980e09abd5fe5ee3039e093200f925dcb4a08d", func := "loop.example/g00576/laws.FnExactNextOf", spec := "fnExactNextOf", unfollowed := true, recurses := true, apart := false, narrowed := true }
def FnExactNextOfUptoSaid : Prop := fnExactNextOfUptoRow.holds Try.pinned (OpenSpec.upto fnExactNextOfSpec)

/-- 'laws.FnExactInsert', WHERE WHAT IT READS IS OF BULK AT MOST 1048576: true; the input reads as it did. -/
def fnExactInsertUptoRow : OpenClaim := { program := "ytmkcfjopneaimaa", sum := "f935e13aaf6bfb1cc64ba3bbd6980e09abd5fe5ee3039e093200f925dcb4a08d", func := "loop.example/g00576/laws.FnExactInsert", spec := "fnExactInsert", inPlace := ["slices.overlaps[loop.example/g00576/impl.Item]"], unfollowed := true, recurses := true, apart := false, narrowed := true }
def FnExactInsertUptoSaid : Prop := fnExactInsertUptoRow.holds Try.pinned (OpenSpec.upto fnExactInsertSpec)

/-- 'laws.FnExactDelete', WHERE WHAT IT READS IS OF BULK AT MOST 1048576: true; the input reads as it did. -/
def fnExactDeleteUptoRow : OpenClaim := { program := "ytmkcfjopneaimaa", sum := "f935e13aaf6bfb1cc64ba3bbd6980e09abd5fe5ee3039e093200f925dcb4a08d", func := "loop.example/g00576/laws.FnExactDelete", spec := "fnExactDelete", unfollowed := true, recurses := true, apart := false, narrowed := true }
def FnExactDeleteUptoSaid : Prop := fnExactDeleteUptoRow.holds Try.pinned (OpenSpec.upto fnExactDeleteSpec)

end Rows
end Go.Proofs.Ytmkcfjopneaimaa
