/-
  Bytes made of a text: a block known whole, with its mark behind it. Over any program.
-/
import Derived.Test.YtodhohkehbakoaaLaws
namespace Go.Proofs.Ytodhohkehbakoaa
open Go.RowKit
variable {P : Program}

theorem fz_cell {w : World} {b : Nat} {cs : Array Value} {t : TypeId} {lo hi : Nat} (h : w.heap[b]? = some (.cells cs t (lo, hi))) (k : Nat) (v : Value) (hv : cs[k]? = some v) : w.cell? ⟨b, k, none⟩ = some v := by
  simp [World.cell?, h, hv]
theorem fz_free {w : World} {b : Nat} {cs : Array Value} {t : TypeId} {lo hi : Nat} (h : w.heap[b]? = some (.cells cs t (lo, hi))) (k : Nat) (hk : k < lo) : w.frozen? ⟨b, k, none⟩ = false := by
  simp [World.frozen?, h]
  omega
theorem fz_set {w : World} {b : Nat} {cs : Array Value} {t : TypeId} {lo hi : Nat} (h : w.heap[b]? = some (.cells cs t (lo, hi))) (k : Nat) (v : Value) : (w.setCell ⟨b, k, none⟩ v).heap[b]? = some (.cells (cs.setIfInBounds k v) t (lo, hi)) := by
  have hlt := block_lt h
  have h' : w.heap[b] = .cells cs t (lo, hi) := by simpa [Array.getElem?_eq_getElem hlt] using h
  show (w.heap.modify b _)[b]? = _
  rw [Array.getElem?_eq_getElem (by simpa using hlt), Array.getElem_modify_self, h']
  rfl

/-- '[]byte(s)': a new block that holds the bytes. -/
theorem bytes_of (w : World) (src dst e : TypeId) (s : ByteArray) (hs : P.underlying src = some .string) (hd : P.underlying dst = some (.slice e)) (he : P.underlying e = some (.int .u8)) :
    ∃ (cap : Nat) (R : Array Value) (k : Nat), s.size ≤ k ∧ (∀ (i : Nat) (b : UInt8), s.data.toList[i]? = some b → R[i]? = some (bval b)) ∧
      (convert src dst (.string s)).run P w = .ok (.slice (some ⟨w.heap.size, 0, none⟩) s.size cap) (w.drew.alloc (.cells R e (k, k + 1))) := by
  refine ⟨_, _, _, ?_, ?_, run_bytes_of_string w src dst e s hs hd he⟩
  · simp [bytesRow]
  · intro i b hb
    have hi : i < s.data.size := by
      have := (List.getElem?_eq_some_iff.1 hb).1
      simpa using this
    unfold bytesRow
    rw [Array.getElem?_append_left (by simpa using hi)]
    simp only [Array.getElem?_map]
    rw [← Array.getElem?_toList, hb]
    rfl

/-- 'string(b)' of a block whose first cells are told. -/
theorem string_of {w : World} {b : Nat} {cs : Array Value} {t : TypeId} {lo hi : Nat} (h : w.heap[b]? = some (.cells cs t (lo, hi))) (src e dst : TypeId) (hs : P.underlying src = some (.slice e)) (he : P.underlying e = some (.int .u8)) (hd : P.underlying dst = some .string)
    (l : List UInt8) (k cap : Nat) (hl : l.length = k) (ht : ∀ (i : Nat) (x : UInt8), l[i]? = some x → cs[i]? = some (bval x)) : (convert src dst (.slice (some ⟨b, 0, none⟩) k cap)).run P w = .ok (.string ⟨l.toArray⟩) w := by
  subst hl
  refine run_convert_bytes_back w src dst e ⟨b, 0, none⟩ cap l hs he hd (fun j hj => ?_)
  have h2 : ((⟨b, 0, none⟩ : Addr).add j) = ⟨b, j, none⟩ := by cases j <;> simp [Addr.add]
  rw [h2]
  exact fz_cell h j _ (ht j _ (List.getElem?_eq_getElem hj))

end Go.Proofs.Ytodhohkehbakoaa
