/-
  What a write, a read, a flush, a crash answer, as plain data.
-/
import Derived.Test.YtognfiiplclpaaaDoorDoutA
namespace Go.Proofs.YtognfiiplclpaaaDoor
open Go.RowKit

theorem heap_two (w : World) (o o' : Obj) : ((w.alloc o).alloc o').heap[w.heap.size + 1]? = some o' := by
  have h := heap_alloc_new (w.alloc o) o'
  rwa [World.size_alloc] at h
theorem box_frozen {w : World} {b : Nat} {cs : Array Value} {T : TypeId} (h : w.heap[b]? = some (.cells cs T (0, 0))) : w.frozen? ⟨b, 0, none⟩ = false ∧ w.frozen? ⟨b, 1, none⟩ = false ∧ w.frozen? ⟨b, 2, none⟩ = false ∧ w.frozen? ⟨b, 3, none⟩ = false := ⟨block_free h 0, block_free h 1, block_free h 2, block_free h 3⟩
theorem Ow.aside {α : Type} {w : World} {base : Nat} {e : TypeId} {k : Nat} {enc : α → List Value} {v : Value} {l : List α} (h : Ow w base e k enc v l) {p : Addr} (hp : ∀ g, v.ownBlock = some g → p.block ≠ g) (u : Value) : Ow (w.setCell p u) base e k enc v l := by
  refine ⟨h.1, ?_⟩
  rcases h.2 with hn | ⟨g, cap, cur, rfl, hb, hgg, rest⟩
  · exact .inl hn
  · exact .inr ⟨g, cap, cur, rfl, hb, by rw [Below.heap_setCell _ _ _ _ (fun e => hp g rfl e.symm)]; exact hgg, rest⟩
open Classical in
/-- What DiskWrite answers. -/
noncomputable def writeDo (d : Dk) (a : Int) (t : ByteArray) : Do :=
  if 8000 < t.size then illDo 2 else if ¬ (Right d ∧ t.size ≤ 64) then illDo 1 else if ¬ (0 ≤ a ∧ a < d.S.length) then illDo 8 else if d.P.length = 200 then illDo 9 else ⟨⟨d.S, d.P ++ [(a, t)]⟩, ⟨#[]⟩, 0⟩
open Classical in
theorem write_size {d : Dk} {a : Int} {t : ByteArray} (h : 8000 < t.size) : writeDo d a t = illDo 2 := by unfold writeDo; rw [if_pos h]
open Classical in
theorem write_form {d : Dk} {a : Int} {t : ByteArray} (h : ¬ 8000 < t.size) (h1 : ¬ (Right d ∧ t.size ≤ 64)) : writeDo d a t = illDo 1 := by unfold writeDo; rw [if_neg h, if_pos h1]
open Classical in
theorem write_range {d : Dk} {a : Int} {t : ByteArray} (h1 : Right d) (h2 : t.size ≤ 64) (h3 : ¬ (0 ≤ a ∧ a < d.S.length)) : writeDo d a t = illDo 8 := by
  unfold writeDo; rw [if_neg (by omega), if_neg (fun h => h ⟨h1, h2⟩), if_pos h3]
open Classical in
theorem write_full {d : Dk} {a : Int} {t : ByteArray} (h1 : Right d) (h2 : t.size ≤ 64) (h3 : 0 ≤ a ∧ a < d.S.length) (h4 : d.P.length = 200) : writeDo d a t = illDo 9 := by
  unfold writeDo; rw [if_neg (by omega), if_neg (fun h => h ⟨h1, h2⟩), if_neg (fun h => h h3), if_pos h4]
open Classical in
theorem write_ok {d : Dk} {a : Int} {t : ByteArray} (h1 : Right d) (h2 : t.size ≤ 64) (h3 : 0 ≤ a ∧ a < d.S.length) (h4 : ¬ d.P.length = 200) : writeDo d a t = ⟨⟨d.S, d.P ++ [(a, t)]⟩, ⟨#[]⟩, 0⟩ := by
  unfold writeDo; rw [if_neg (by omega), if_neg (fun h => h ⟨h1, h2⟩), if_neg (fun h => h h3), if_neg h4]

end Go.Proofs.YtognfiiplclpaaaDoor
