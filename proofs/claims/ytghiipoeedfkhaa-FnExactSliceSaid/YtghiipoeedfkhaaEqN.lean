/-
  Names compared as wholes: one law each; pairs of names in an array.
-/
import Derived.Test.YtghiipoeedfkhaaProg
import Derived.Test.YtghiipoeedfkhaaDocM
import Derived.ProofKit
import Derived.WalkLawsBesides
import Derived.Laws.StructEq
namespace Go.Proofs.Ytghiipoeedfkhaa
open Go.ChangeShapes Go.WideShapes Go.ChangeAt Go.RowKit

@[go_sem high] theorem eql_id (a b : Nm) (W : World) : (Go.binOp .eql 66 (.agg #[.int .i64 a.c, .int .i64 a.k]) (.agg #[.int .i64 b.c, .int .i64 b.k])).run Try.prog W = .ok (.bool (eqN a b)) W := by
  have h : (a.c == b.c && a.k == b.k) = eqN a b := eqN_parts a b
  go_simp
  rw [← h]
  by_cases h1 : a.c = b.c <;> by_cases h2 : a.k = b.k <;> simp [h1, h2]
@[go_sem high] theorem neq_id (a b : Nm) (W : World) : (Go.binOp .neq 66 (.agg #[.int .i64 a.c, .int .i64 a.k]) (.agg #[.int .i64 b.c, .int .i64 b.k])).run Try.prog W = .ok (.bool (!eqN a b)) W := by
  have h : (a.c == b.c && a.k == b.k) = eqN a b := eqN_parts a b
  go_simp
  rw [← h]
  by_cases h1 : a.c = b.c <;> by_cases h2 : a.k = b.k <;> simp [h1, h2]
@[go_sem high] theorem eql_none (a : Nm) (W : World) : (Go.binOp .eql 66 (.agg #[.int .i64 a.c, .int .i64 a.k]) (.agg #[.int .i64 0, .int .i64 0])).run Try.prog W = .ok (.bool (eqN a no)) W := eql_id a no W
theorem nm_eq (a b : Nm) : a = b ↔ a.c = b.c ∧ a.k = b.k := ⟨fun h => h ▸ ⟨rfl, rfl⟩, fun ⟨h1, h2⟩ => by cases a; cases b; simp_all⟩
theorem eqN_iff (a b : Nm) : eqN a b = true ↔ a = b := decide_eq_true_iff
theorem eqN_ff (a b : Nm) : eqN a b = false ↔ ¬ a = b := decide_eq_false_iff_not

end Go.Proofs.Ytghiipoeedfkhaa
