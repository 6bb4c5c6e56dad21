/-
  Aids for the walks of the exact laws: blocks kept, disks kept.
-/
import Derived.Test.YtognfiiplclpaaaDoorEq
namespace Go.Proofs.YtognfiiplclpaaaDoor
open Go.RowKit

theorem keep_blk {W w' : World} {b : Nat} {o : Obj} (hb : Below W.heap.size W w') (h : W.heap[b]? = some o) : w'.heap[b]? = some o := by
  rw [hb.block b (block_lt h)]
  exact h
theorem alloc_blk {W : World} {b : Nat} {o : Obj} (h : W.heap[b]? = some o) (o' : Obj) : (W.alloc o').heap[b]? = some o := by
  rw [Below.heap_alloc W o' b (block_lt h)]
  exact h
theorem undrew {w w2 : World} (k : Below w.drew.heap.size w.drew w2) : Below w.heap.size w w2 := ⟨k.os, k.tape, k.output, k.size, k.block⟩
theorem Below.drewIn {B : Nat} {a w w2 : World} (h : Below B a w) (hB : B ≤ w.heap.size) (k : Below w.drew.heap.size w.drew w2) : Below B a w2 := h.trans (Below.mono (w := w) ⟨k.os, k.tape, k.output, k.size, k.block⟩ hB)
/-- A disk of the call's own, its parts named. -/
theorem OwnsDk.parts {w : World} {d : Dk} {e : Ending} {w' : World} (h : OwnsDk w d e w') : ∃ A1 c1 A2 c2, e = .returned (.agg #[.slice A1 d.S.length c1, .slice A2 d.P.length c2]) ∧ DkOw w' w.heap.size (.agg #[.slice A1 d.S.length c1, .slice A2 d.P.length c2]) d ∧ Below w.heap.size w w' := by
  obtain ⟨v, rfl, ⟨vs, vp, rfl, h1, h2⟩, hb⟩ := h
  obtain ⟨A1, c1, rfl⟩ := h1.form
  obtain ⟨A2, c2, rfl⟩ := h2.form
  exact ⟨A1, c1, A2, c2, rfl, ⟨_, _, rfl, h1, h2⟩, hb⟩

end Go.Proofs.YtognfiiplclpaaaDoor
