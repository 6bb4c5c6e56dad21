/-
  AreaPut's rounds: what the ledger says behind each.
-/
import Derived.Test.YthchlfllcnlmjaaGreatDoorPutStep
namespace Go.Proofs.YthchlfllcnlmjaaGreatDoor
open Go.RowKit

theorem Led.b5 {w W : World} {L : List (Nat × Obj)} {D O : List (Nat × Value × Dk)} (h : Led w W L D O) {b : Nat} {x0 x1 x2 x3 x4 : Value} {T : TypeId} (hm : (b, Obj.cells #[x0, x1, x2, x3, x4] T (0, 0)) ∈ L) : W.cell? ⟨b, 0, none⟩ = some x0 ∧ W.cell? ⟨b, 1, none⟩ = some x1 ∧ W.cell? ⟨b, 2, none⟩ = some x2 ∧ W.cell? ⟨b, 3, none⟩ = some x3 ∧ W.cell? ⟨b, 4, none⟩ = some x4 ∧ b < W.heap.size := by
  obtain ⟨h1, h2, h3, h4, h5⟩ := box5 (h.blk _ hm)
  exact ⟨h1, h2, h3, h4, h5, block_lt (h.blk _ hm)⟩
theorem Led.put1 {w W : World} {L : List (Nat × Obj)} {D : List (Nat × Value × Dk)} (h : Led w W L D []) {b : Nat} (k : Nat) (u : Value) (hz : w.heap.size ≤ b) (hL : ∀ q ∈ L, q.1 ≠ b) (hD : ∀ q ∈ D, q.1 ≤ b) : Led w (W.setCell ⟨b, k, none⟩ u) L D [] :=
  h.within (lo := b) (hi := b + 1) (Within.of_grown (grown_set W b k u) (fun g hg => by cases hg; omega)) hz (fun q hq => by have := hL q hq; omega) hD (fun q hq => by cases hq)
/-- A disk's answer is stored in its box. -/
theorem led_fill {w W : World} {L : List (Nat × Obj)} {D : List (Nat × Value × Dk)} {b B0 : Nat} {x0 x1 x2 x3 s p c2 c3 : Value} {d : Dk} (h : Led w W ((b, .cells #[x0, x1, x2, x3] 68 (0, 0)) :: L) D []) (hz : w.heap.size ≤ b) (hL : ∀ q ∈ L, q.1 ≠ b) (hD : ∀ q ∈ D, q.1 ≤ b) (ho : DkOw W B0 (.agg #[s, p]) d) :
    Led w ((((W.setCell ⟨b, 0, none⟩ s).setCell ⟨b, 1, none⟩ p).setCell ⟨b, 2, none⟩ c2).setCell ⟨b, 3, none⟩ c3) ((b, .cells #[s, p, c2, c3] 68 (0, 0)) :: L) D [] ∧ DkOw ((((W.setCell ⟨b, 0, none⟩ s).setCell ⟨b, 1, none⟩ p).setCell ⟨b, 2, none⟩ c2).setCell ⟨b, 3, none⟩ c3) B0 (.agg #[s, p]) d := by
  have hb := h.blk _ List.mem_cons_self
  have e0 := block_set hb 0 s
  have e1 := block_set e0 1 p
  have e2 := block_set e1 2 c2
  have e3 := block_set e2 3 c3
  have h1 := (((h.forget.put1 0 s hz hL hD).put1 1 p hz hL hD).put1 2 c2 hz hL hD).put1 3 c3 hz hL hD
  exact ⟨h1.know e3, ((((ho.beside' hb (by decide) (by decide) 0 s).beside' e0 (by decide) (by decide) 1 p).beside' e1 (by decide) (by decide) 2 c2).beside' e2 (by decide) (by decide) 3 c3)⟩
/-- The disk at work is stored anew. -/
theorem put_round {w W : World} {L : List (Nat × Obj)} {D : List (Nat × Value × Dk)} {b B0 : Nat} {y0 y1 s p : Value} {d : Dk} {q0 : Nat × Obj} (h : Led w W (q0 :: (b, .cells #[y0, y1] 26 (0, 0)) :: L) D []) (hz : w.heap.size ≤ b) (hL : ∀ q ∈ L, q.1 ≠ b) (hD : ∀ q ∈ D, q.1 ≤ b) (ho : DkOw W B0 (.agg #[s, p]) d) :
    Led w ((W.setCell ⟨b, 0, none⟩ s).setCell ⟨b, 1, none⟩ p) ((b, .cells #[s, p] 26 (0, 0)) :: L) D [(B0, .agg #[s, p], d)] := by
  have hb := h.blk _ (List.mem_cons_of_mem _ List.mem_cons_self)
  have e0 := block_set hb 0 s
  have e1 := block_set e0 1 p
  have h1 := ((h.forget.forget.put1 0 s hz hL hD).put1 1 p hz hL hD)
  exact (h1.know e1).hold ((ho.beside' hb (by decide) (by decide) 0 s).beside' e0 (by decide) (by decide) 1 p)
/-- The same, where the answer's box is made behind. -/
theorem put_round_made {w W : World} {L : List (Nat × Obj)} {D : List (Nat × Value × Dk)} {b B0 : Nat} {y0 y1 s p : Value} {d : Dk} (h : Led w W ((b, .cells #[y0, y1] 26 (0, 0)) :: L) D []) (o : Obj) (hz : w.heap.size ≤ b) (hL : ∀ q ∈ L, q.1 ≠ b) (hD : ∀ q ∈ D, q.1 ≤ b) (ho : DkOw W B0 (.agg #[s, p]) d) :
    Led w (((W.setCell ⟨b, 0, none⟩ s).setCell ⟨b, 1, none⟩ p).alloc o) ((b, .cells #[s, p] 26 (0, 0)) :: L) D [(B0, .agg #[s, p], d)] := by
  have hb := h.blk _ List.mem_cons_self
  have e0 := block_set hb 0 s
  have e1 := block_set e0 1 p
  have h1 := ((h.forget.put1 0 s hz hL hD).put1 1 p hz hL hD)
  exact ((h1.know e1).hold ((ho.beside' hb (by decide) (by decide) 0 s).beside' e0 (by decide) (by decide) 1 p)).made o

end Go.Proofs.YthchlfllcnlmjaaGreatDoor
