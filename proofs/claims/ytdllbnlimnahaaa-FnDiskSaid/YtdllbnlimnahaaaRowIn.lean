/-
  A slice of bytes that came in, as a walk is told of it.
-/
import Derived.Test.YtdllbnlimnahaaaDrawO
import Derived.OpenShut
namespace Go.Proofs.Ytdllbnlimnahaaa
open Go.ChangeShapes Go.WideShapes Go.ChangeAt Go.RowKit

/-- It is nil; or it leads to a row of 'cap' cells, the numbers 'zs' (the first 'len' are its elements), each fitting its kind. -/
def IsRow (k : IntKind) (w : World) (a : Option Addr) (len cap : Nat) (zs : List Int) : Prop :=
  (a = none ∧ len = 0 ∧ cap = 0 ∧ zs = []) ∨
  ∃ x, a = some x ∧ len ≤ cap ∧ cap ≤ maxLen ∧ zs.length = cap ∧ (∀ i, i < zs.length → w.cell? (x.add i) = some (.int k (zs.getD i 0))) ∧ ∀ n ∈ zs, (Lit.int k n).wf = true

theorem Code.up {w : World} {B C : Nat} {cv : Value} {len : Nat} (h : Code w B cv len) (hB : B ≤ C) : Code w C cv len := by
  obtain ⟨a, cap, rfl, hl, h⟩ := h
  exact ⟨a, cap, rfl, hl, h.imp id fun ⟨b, off, ha, hb, hc⟩ => ⟨b, off, ha, by omega, hc⟩⟩

theorem IsRow.code {w : World} {a : Option Addr} {len cap : Nat} {zs : List Int} (h : IsRow .u8 w a len cap zs) (hl : len ≤ 1048576) : Code w w.heap.size (.slice a len cap) len := by
  refine ⟨a, cap, rfl, hl, ?_⟩
  rcases h with ⟨rfl, rfl, rfl, rfl⟩ | ⟨x, rfl, h1, h2, h3, h4, h5⟩
  · exact .inl rfl
  · by_cases h0 : len = 0
    · exact .inl h0
    · obtain ⟨b, off, spot⟩ := x
      have hc0 := h4 0 (by omega)
      have hspot : spot = none := by simpa [Addr.add] using World.cell?_spot hc0
      subst hspot
      refine .inr ⟨b, off, rfl, ?_, fun i hi => ?_⟩
      · rcases Nat.lt_or_ge b w.heap.size with h | h
        · exact h
        · simp [World.cell?, Addr.add, Array.getElem?_eq_none h] at hc0
      · have hi' : i < zs.length := by omega
        have hc := h4 i hi'
        have hm : zs.getD i 0 ∈ zs := by
          rw [List.getD_eq_getElem?_getD, List.getElem?_eq_getElem hi']
          exact List.getElem_mem hi'
        have hw := bounds_u8 (h5 _ hm)
        refine ⟨zs.getD i 0, by omega, by omega, ?_⟩
        have e : ((⟨b, off, none⟩ : Addr).add i) = ⟨b, off + i, none⟩ := by
          unfold Addr.add
          split
          · next h => simp_all
          · rfl
        rw [← e]
        exact hc

end Go.Proofs.Ytdllbnlimnahaaa
