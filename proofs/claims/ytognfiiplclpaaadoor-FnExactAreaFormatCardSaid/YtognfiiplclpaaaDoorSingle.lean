/-
  A slice of one element that lies in a block of its own.
-/
import Derived.Test.YtognfiiplclpaaaDoorMem
namespace Go.Proofs.YtognfiiplclpaaaDoor
open Go.RowKit

/-- One element's cells, in a block of its own. -/
theorem sl_single {α : Type} {w : World} {b : Nat} {cs : Array Value} {E : TypeId} (h : w.heap[b]? = some (.cells cs E (0, 0))) (k : Nat) (enc : α → List Value) (x : α) (hx : cs.toList = enc x) : Sl w w.heap.size k enc (.slice (some ⟨b, 0, none⟩) 1 1) [x] := by
  refine ⟨_, 1, rfl, fun _ => ⟨_, rfl, block_lt h, fun i y hy j u hu => ?_⟩⟩
  have hi : i = 0 := by have := (List.getElem?_eq_some_iff.1 hy).1; simp at this; exact this
  subst hi
  simp only [List.getElem?_cons_zero, Option.some.injEq] at hy
  subst hy
  rw [← hx] at hu
  have hj : j < cs.size := by have := (List.getElem?_eq_some_iff.1 hu).1; simpa using this
  have e : (((⟨b, 0, none⟩ : Addr).add (0 * k)).add j) = ⟨b, j, none⟩ := by
    rw [Go.Deep.add_add]
    unfold Addr.add
    by_cases h0 : j = 0 <;> simp [h0]
  rw [e, block_cell h j hj]
  rw [Array.getElem?_toList, Array.getElem?_eq_getElem hj] at hu
  exact hu

end Go.Proofs.YtognfiiplclpaaaDoor
