/-
  Laws over any program: a slice of bytes that the call owns, turned into a string.
-/
import Derived.Test.YtognfiiplclpaaaDoorMathA
import Derived.WalkKit
import Derived.OwnWalk
import Derived.ArgAppend
import Derived.Lib.Hide
import Derived.Laws.IdiomStrings
import Derived.Laws.BytesArg
namespace Go.Proofs.YtognfiiplclpaaaDoor
open Go.RowKit
variable {P : Program}

theorem own_string {w : World} {base e : Nat} {v : Value} {l : List UInt8} (src dst : TypeId) (hs : P.underlying src = some (.slice e)) (he : P.underlying e = some (.int .u8)) (hd : P.underlying dst = some .string)
    (h : w.ownsRow base e 1 v l.length (bvals l)) : (convert src dst v).run P w = .ok (.string ⟨l.toArray⟩) w := by
  have h' := h
  obtain ⟨_, h2⟩ := h
  rcases h2 with ⟨rfl, h0⟩ | ⟨g, cap, cur, rfl, _, hg, _, _, hc, ht⟩
  · rw [run_convert_bytes_nil w src e hs he 0 0 dst hd]
    obtain rfl : l = [] := List.length_eq_zero_iff.1 h0
    rfl
  · exact run_convert_bytes_back w src dst e ⟨g, 0, none⟩ cap l hs he hd (fun j hj => h'.cells (g := g) rfl j _ (by simp [bvals, bval, List.getElem?_map, List.getElem?_eq_getElem hj]))

/-! Texts compared. -/
theorem beq_no {a b : ByteArray} (h : a ≠ b) : (a.toList == b.toList) = false := by
  rw [beq_eq_false_iff_ne]
  intro e
  rw [ByteArray.toList_eq, ByteArray.toList_eq] at e
  exact h (ByteArray.ext (Array.toList_inj.1 e))
theorem beq_yes (a : ByteArray) : (a.toList == a.toList) = true := by simp

theorem bcell {W w1 : World} (hb : Below W.heap.size W w1) : (∀ b o, b < W.heap.size → w1.cell? ⟨b, o, none⟩ = W.cell? ⟨b, o, none⟩) ∧ (∀ b o, b < W.heap.size → w1.frozen? ⟨b, o, none⟩ = W.frozen? ⟨b, o, none⟩) :=
  ⟨fun b o h => hb.cell (p := ⟨b, o, none⟩) h, fun b o h => hb.frozen (p := ⟨b, o, none⟩) h⟩

theorem below_call {B : Nat} {a w w2 : World} (h : Below B a w) (hB : B ≤ w.heap.size) (k : Below w.heap.size w w2) : Below B a w2 := h.trans (k.mono hB)
theorem below_alloc_call {B : Nat} {a w w2 : World} {o : Obj} (h : Below B a w) (hB : B ≤ w.heap.size) (k : Below (w.alloc o).heap.size (w.alloc o) w2) : Below B a w2 :=
  (h.alloc hB o).trans (k.mono (by simp; omega))

/-! A block known whole. -/
theorem block_cell {w : World} {b : Nat} {cs : Array Value} {t : TypeId} (h : w.heap[b]? = some (.cells cs t (0, 0))) (k : Nat) (hk : k < cs.size) : w.cell? ⟨b, k, none⟩ = some cs[k] := by
  simp [World.cell?, h, hk]
theorem block_free {w : World} {b : Nat} {cs : Array Value} {t : TypeId} (h : w.heap[b]? = some (.cells cs t (0, 0))) (k : Nat) : w.frozen? ⟨b, k, none⟩ = false := by
  simp [World.frozen?, h]
theorem block_lt {w : World} {b : Nat} {o : Obj} (h : w.heap[b]? = some o) : b < w.heap.size := by
  rcases Nat.lt_or_ge b w.heap.size with h' | h'
  · exact h'
  · simp [Array.getElem?_eq_none h'] at h
theorem block_set {w : World} {b : Nat} {cs : Array Value} {t : TypeId} (h : w.heap[b]? = some (.cells cs t (0, 0))) (k : Nat) (v : Value) : (w.setCell ⟨b, k, none⟩ v).heap[b]? = some (.cells (cs.setIfInBounds k v) t (0, 0)) := by
  have hlt := block_lt h
  have h' : w.heap[b] = .cells cs t (0, 0) := by simpa [Array.getElem?_eq_getElem hlt] using h
  show (w.heap.modify b _)[b]? = _
  rw [Array.getElem?_eq_getElem (by simpa using hlt), Array.getElem_modify_self, h']
  rfl

/-- 'a[:h]' of an array of one-cell elements that lies in a block of its own. -/
theorem run_slice_array_to (t e : TypeId) (n : Nat) (ht : P.underlying t = some (.array n e)) (hz : ∀ w, (Go.sizeOf e).run P w = .ok 1 w) (W : World) (a : Addr) (h : Int) (k : Nat) (hk : h = k) (h2 : k ≤ n) :
    (Instr.sliceAt t (.pointer (some a)) none (some (.int .i64 h)) none).run P W = .ok (.slice (some a) k n) W := by
  have e1 : P.arrayLen t = n := by simp [Program.arrayLen, ht]
  have e2 : P.elem t = e := by simp [Program.elem, ht]
  have ht' : P.underlying t = some (.array (P.arrayLen t) (P.elem t)) := by rw [e1, e2]; exact ht
  rw [run_sliceAt_array_h W t a ht' .i64 h (by omega) (by rw [e1]; omega), e1, e2, hz, hk]
  simp [Result.andThen, slicedAt, Addr.add]

/-- 'string(..)' of the first bytes of a block known whole. -/
theorem block_string {w : World} {b : Nat} {cs : Array Value} {t : TypeId} (h : w.heap[b]? = some (.cells cs t (0, 0))) (src e dst : TypeId) (hs : P.underlying src = some (.slice e)) (he : P.underlying e = some (.int .u8)) (hd : P.underlying dst = some .string)
    (l : List UInt8) (k cap : Nat) (hl : l.length = k) (ht : cs.toList.take k = bvals l) : (convert src dst (.slice (some ⟨b, 0, none⟩) k cap)).run P w = .ok (.string ⟨l.toArray⟩) w := by
  subst hl
  refine run_convert_bytes_back w src dst e ⟨b, 0, none⟩ cap l hs he hd (fun j hj => ?_)
  have h1 : (cs.toList.take l.length)[j]? = some (bval l[j]) := by rw [ht]; simp [bvals, List.getElem?_map, List.getElem?_eq_getElem hj]
  rw [List.getElem?_take_of_lt hj] at h1
  have h2 : ((⟨b, 0, none⟩ : Addr).add j) = ⟨b, j, none⟩ := by cases j <;> simp [Addr.add]
  rw [h2]
  simp [World.cell?, h]
  simpa [bval] using h1

end Go.Proofs.YtognfiiplclpaaaDoor
