/-
  A ledger of a walk: what has not changed below, which blocks are known whole, which disks read so, which disks the call owns.
-/
import Derived.Test.YtognfiiplclpaaaDoorDoutA
import Derived.Test.YtognfiiplclpaaaDoorWriteM
namespace Go.Proofs.YtognfiiplclpaaaDoor
open Go.RowKit

structure Led (w W : World) (L : List (Nat × Obj)) (D O : List (Nat × Value × Dk)) : Prop where
  bel : Below w.heap.size w W
  blk : ∀ p ∈ L, W.heap[p.1]? = some p.2
  ats : ∀ p ∈ D, p.1 ≤ W.heap.size ∧ DkAt W p.1 p.2.1 p.2.2
  own : ∀ p ∈ O, DkOw W p.1 p.2.1 p.2.2

theorem Led.lift {w W W' : World} {L : List (Nat × Obj)} {D O : List (Nat × Value × Dk)} (h : Led w W L D O) (k : Below W.heap.size W W') : Led w W' L D O :=
  ⟨h.bel.trans (k.mono h.bel.size), fun p hp => keep_blk k (h.blk p hp), fun p hp => ⟨Nat.le_trans (h.ats p hp).1 k.size, (h.ats p hp).2.below (k.mono (h.ats p hp).1)⟩, fun p hp => (h.own p hp).lift k⟩
theorem Led.alloc {w W : World} {L : List (Nat × Obj)} {D O : List (Nat × Value × Dk)} (h : Led w W L D O) (o : Obj) : Led w (W.alloc o) ((W.heap.size, o) :: L) D O := by
  have h1 := h.lift ((Below.refl _ W).alloc (Nat.le_refl _) o)
  refine ⟨h1.bel, fun p hp => ?_, h1.ats, h1.own⟩
  rcases List.mem_cons.1 hp with rfl | hp
  · exact heap_alloc_new _ _
  · exact h1.blk p hp
/-- One block more is known whole. -/
theorem Led.know {w W : World} {L : List (Nat × Obj)} {D O : List (Nat × Value × Dk)} (h : Led w W L D O) {b : Nat} {o : Obj} (hb : W.heap[b]? = some o) : Led w W ((b, o) :: L) D O :=
  ⟨h.bel, fun p hp => by
    rcases List.mem_cons.1 hp with rfl | hp
    · exact hb
    · exact h.blk p hp, h.ats, h.own⟩
/-- A disk more that reads so. -/
theorem Led.read {w W : World} {L : List (Nat × Obj)} {D O : List (Nat × Value × Dk)} (h : Led w W L D O) {B : Nat} {v : Value} {d : Dk} (hb : B ≤ W.heap.size) (hd : DkAt W B v d) : Led w W L ((B, v, d) :: D) O :=
  ⟨h.bel, h.blk, fun p hp => by
    rcases List.mem_cons.1 hp with rfl | hp
    · exact ⟨hb, hd⟩
    · exact h.ats p hp, h.own⟩
/-- A disk more that is owned. -/
theorem Led.hold {w W : World} {L : List (Nat × Obj)} {D O : List (Nat × Value × Dk)} (h : Led w W L D O) {B : Nat} {v : Value} {d : Dk} (hd : DkOw W B v d) : Led w W L D ((B, v, d) :: O) :=
  ⟨h.bel, h.blk, h.ats, fun p hp => by
    rcases List.mem_cons.1 hp with rfl | hp
    · exact hd
    · exact h.own p hp⟩
theorem Led.drop {w W : World} {L : List (Nat × Obj)} {D O : List (Nat × Value × Dk)} {x : Nat × Value × Dk} (h : Led w W L D (x :: O)) : Led w W L D O := ⟨h.bel, h.blk, h.ats, fun p hp => h.own p (List.mem_cons_of_mem _ hp)⟩
theorem Led.unread {w W : World} {L : List (Nat × Obj)} {D O : List (Nat × Value × Dk)} {x : Nat × Value × Dk} (h : Led w W L (x :: D) O) : Led w W L D O := ⟨h.bel, h.blk, fun p hp => h.ats p (List.mem_cons_of_mem _ hp), h.own⟩
theorem Led.forget {w W : World} {L : List (Nat × Obj)} {D O : List (Nat × Value × Dk)} {x : Nat × Obj} (h : Led w W (x :: L) D O) : Led w W L D O := ⟨h.bel, fun p hp => h.blk p (List.mem_cons_of_mem _ hp), h.ats, h.own⟩
theorem Led.second {w W : World} {L : List (Nat × Obj)} {D O : List (Nat × Value × Dk)} {x y : Nat × Value × Dk} (h : Led w W L D (x :: y :: O)) : Led w W L D (x :: O) := ⟨h.bel, h.blk, h.ats, fun p hp => h.own p (by
  rcases List.mem_cons.1 hp with rfl | hp
  · exact List.mem_cons_self
  · exact List.mem_cons_of_mem _ (List.mem_cons_of_mem _ hp))⟩
/-- Blocks between lo and hi have been written. -/
theorem Led.within {w W W' : World} {L : List (Nat × Obj)} {D O : List (Nat × Value × Dk)} (h : Led w W L D O) {lo hi : Nat} (k : Within lo hi W W') (h0 : w.heap.size ≤ lo) (hL : ∀ p ∈ L, p.1 < lo ∨ hi ≤ p.1) (hD : ∀ p ∈ D, p.1 ≤ lo) (hO : ∀ p ∈ O, hi ≤ p.1) : Led w W' L D O :=
  ⟨below_within h.bel k h0 h.bel.size, fun p hp => keep_within k (h.blk p hp) (hL p hp), fun p hp => ⟨Nat.le_trans (h.ats p hp).1 k.size, (h.ats p hp).2.kept k (hD p hp) (h.ats p hp).1⟩, fun p hp => (h.own p hp).kept k (hO p hp)⟩

theorem Led.b2 {w W : World} {L : List (Nat × Obj)} {D O : List (Nat × Value × Dk)} (h : Led w W L D O) {b : Nat} {x0 x1 : Value} {T : TypeId} (hm : (b, Obj.cells #[x0, x1] T (0, 0)) ∈ L) : W.cell? ⟨b, 0, none⟩ = some x0 ∧ W.cell? ⟨b, 1, none⟩ = some x1 ∧ b < W.heap.size := ⟨(box2 (h.blk _ hm)).1, (box2 (h.blk _ hm)).2, block_lt (h.blk _ hm)⟩
theorem Led.b4 {w W : World} {L : List (Nat × Obj)} {D O : List (Nat × Value × Dk)} (h : Led w W L D O) {b : Nat} {x0 x1 x2 x3 : Value} {T : TypeId} (hm : (b, Obj.cells #[x0, x1, x2, x3] T (0, 0)) ∈ L) : W.cell? ⟨b, 0, none⟩ = some x0 ∧ W.cell? ⟨b, 1, none⟩ = some x1 ∧ W.cell? ⟨b, 2, none⟩ = some x2 ∧ W.cell? ⟨b, 3, none⟩ = some x3 ∧ b < W.heap.size := by
  obtain ⟨h1, h2, h3, h4⟩ := box4 (h.blk _ hm)
  exact ⟨h1, h2, h3, h4, block_lt (h.blk _ hm)⟩
theorem Led.at_ {w W : World} {L : List (Nat × Obj)} {D O : List (Nat × Value × Dk)} (h : Led w W L D O) {B : Nat} {v : Value} {d : Dk} (hm : (B, v, d) ∈ D) : DkAt W W.heap.size v d := (h.ats _ hm).2.more (h.ats _ hm).1
theorem Led.ow {w W : World} {L : List (Nat × Obj)} {D O : List (Nat × Value × Dk)} (h : Led w W L D O) {B : Nat} {v : Value} {d : Dk} (hm : (B, v, d) ∈ O) : DkOw W B v d := h.own _ hm

theorem write_small (d : Dk) (a : Int) (t : ByteArray) (h : Small d) : (writeDo d a t).dk.S.length ≤ 1048576 ∧ (writeDo d a t).dk.P.length ≤ 1048577 := by
  have h1 := h.1
  have h2 := h.2.2.1
  classical
  unfold writeDo
  repeat' split
  all_goals simp [illDo]
  omega
/-- An answer of the call's own, its parts named; told in a ledger. -/
theorem OwnsDo.told {w : World} {o : Do} {e : Ending} {w' : World} (h : OwnsDo w o e w') : ∃ s p, e = .returned (.agg #[s, p, .string o.data, .int .i64 o.code]) ∧ DkOw w' w.heap.size (.agg #[s, p]) o.dk ∧ Below w.heap.size w w' := by
  obtain ⟨A1, c1, A2, c2, h1, h2, h3⟩ := h.parts
  exact ⟨_, _, h1, h2, h3⟩
theorem OwnsDk.told {w : World} {d : Dk} {e : Ending} {w' : World} (h : OwnsDk w d e w') : ∃ A1 c1 A2 c2, e = .returned (.agg #[.slice A1 d.S.length c1, .slice A2 d.P.length c2]) ∧ DkOw w' w.heap.size (.agg #[.slice A1 d.S.length c1, .slice A2 d.P.length c2]) d ∧ Below w.heap.size w w' := h.parts

end Go.Proofs.YtognfiiplclpaaaDoor
