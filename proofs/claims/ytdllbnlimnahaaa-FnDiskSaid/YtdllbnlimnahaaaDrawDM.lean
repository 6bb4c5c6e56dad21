/-
  Facts on drawn disks: what a write and a flush leave is right again.
-/
import Derived.Test.YtdllbnlimnahaaaDrawK
import Derived.Test.YtdllbnlimnahaaaWriteS
import Derived.Test.YtdllbnlimnahaaaFlush
import Derived.Test.YtdllbnlimnahaaaDiskNew
namespace Go.Proofs.Ytdllbnlimnahaaa
open Go.RowKit

theorem right_small {d : Dk} (h : Right d) : Small d := by
  obtain ⟨h1, h2, h3, h4, h5⟩ := h
  refine ⟨by omega, fun s hs => by have := h4 s hs; omega, by omega, fun p hp => by have := (h5 p hp).2.2; omega, fun p hp => ?_⟩
  have h6 := (h5 p hp).1
  have h7 := (h5 p hp).2.1
  omega
theorem newDk_right (n : Int) (h1 : 1 ≤ n) (h2 : n ≤ 64) : Right (newDk n) := by
  rw [newDk_yes n ⟨h1, h2⟩]
  refine ⟨by simp; omega, by simp; omega, by simp, fun s hs => ?_, by simp⟩
  have := (List.mem_replicate.1 hs).2
  subst this
  exact Nat.zero_le _
theorem write_good (d : Dk) (a : Int) (t : ByteArray) (h : (writeDo d a t).code = 0) : Right (writeDo d a t).dk := by
  by_cases h8 : 8000 < t.size
  · rw [write_size h8] at h; cases h
  · by_cases hR : Right d ∧ t.size ≤ 64
    · by_cases hA : 0 ≤ a ∧ a < d.S.length
      · by_cases hf : d.P.length = 200
        · rw [write_full hR.1 hR.2 hA hf] at h; cases h
        · rw [write_ok hR.1 hR.2 hA hf]
          obtain ⟨⟨r1, r2, r3, r4, r5⟩, r6⟩ := hR
          refine ⟨r1, r2, by simp; omega, r4, fun p hp => ?_⟩
          rcases List.mem_append.1 hp with hp | hp
          · exact r5 p hp
          · have : p = (a, t) := by simpa using hp
            subst this
            exact ⟨hA.1, hA.2, r6⟩
      · rw [write_range hR.1 hR.2 hA] at h; cases h
    · rw [write_form h8 hR] at h; cases h
theorem flushS_sizes (S : List ByteArray) (P : List Pd) (m : Nat) (h1 : ∀ s ∈ S, s.size ≤ m) (h2 : ∀ p ∈ P, p.2.size ≤ m) : ∀ s ∈ flushS S P, s.size ≤ m := by
  intro s hs
  obtain ⟨i, hi, rfl⟩ := List.getElem_of_mem hs
  have hi' : i < S.length := by rw [flushS_len] at hi; exact hi
  have e := flushS_get S P i hi'
  rw [List.getElem?_eq_getElem hi] at e
  rw [Option.some.inj e]
  cases hl : lastOf P (i : Int) with
  | none => exact h1 _ (List.getElem_mem hi')
  | some t => exact h2 _ (lastOf_mem P _ t hl)
theorem flush_good (d : Dk) (h : (flushDo d).code = 0) : Right (flushDo d).dk := by
  by_cases hR : Right d
  · rw [flush_ok hR]
    obtain ⟨r1, r2, r3, r4, r5⟩ := hR
    exact ⟨by simp only [flushS_len]; exact r1, by simp only [flushS_len]; exact r2, by simp, flushS_sizes _ _ 64 r4 (fun p hp => (r5 p hp).2.2), by simp⟩
  · rw [flush_form hR] at h; cases h

/-- The bounds of a drawn disk. -/
def Drawn (d : Dk) : Prop := d.S.length ≤ 64 ∧ (∀ s ∈ d.S, s.size ≤ 65) ∧ d.P.length ≤ 300 ∧ (∀ p ∈ d.P, p.2.size ≤ 65) ∧ ∀ p ∈ d.P, 0 ≤ p.1 ∧ p.1 ≤ 64
theorem Drawn.small {d : Dk} (h : Drawn d) : Small d := by
  obtain ⟨h1, h2, h3, h4, h5⟩ := h
  exact ⟨by omega, fun s hs => by have := h2 s hs; omega, by omega, fun p hp => by have := h4 p hp; omega, fun p hp => by have := (h5 p hp).1; have := (h5 p hp).2; omega⟩
theorem right_drawn {d : Dk} (h : Right d) : Drawn d := by
  obtain ⟨h1, h2, h3, h4, h5⟩ := h
  exact ⟨h2, fun s hs => by have := h4 s hs; omega, by omega, fun p hp => by have := (h5 p hp).2.2; omega, fun p hp => ⟨(h5 p hp).1, by have := (h5 p hp).2.1; omega⟩⟩

/-- A disk of the call's own, where only block S and new ones have changed. -/
theorem DkOw.by_ {w w' : World} {base S : Nat} {v : Value} {d : Dk} (h : DkOw w base v d) (hg : w.grownBy w' (some S)) (hS : S < base) : DkOw w' base v d :=
  h.kept (Within.of_grown (lo := S) (hi := S + 1) hg (fun g hg => by cases hg; omega)) (by omega)
theorem blk_by {w w' : World} {b S : Nat} {o : Obj} (h : w.heap[b]? = some o) (hg : w.grownBy w' (some S)) (hS : S < b) : w'.heap[b]? = some o := by
  rw [hg.block b (block_lt h) (fun e => by have := Option.some.inj e; omega)]
  exact h
theorem grown_set_far {w w1 : World} {r : Option Nat} (h : w.grownBy w1 r) (b k : Nat) (v : Value) (hb : w.heap.size ≤ b) : w.grownBy (w1.setCell ⟨b, k, none⟩ v) r :=
  grownBy_young h (grown_set w1 b k v) (fun j hj => by cases hj; exact hb)
theorem Src.far {w : World} {S : Nat} {cv : Value} {len : Nat} (h : Src w S cv len) (b k : Nat) (v : Value) (hb : S ≠ b) : Src (w.setCell ⟨b, k, none⟩ v) S cv len := h.keep (Below.heap_setCell _ _ _ _ hb)
theorem Src.below {w w' : World} {S : Nat} {cv : Value} {len : Nat} (h : Src w S cv len) (hb : Below w.heap.size w w') : Src w' S cv len := h.keep (hb.block S h.lt)

end Go.Proofs.Ytdllbnlimnahaaa
