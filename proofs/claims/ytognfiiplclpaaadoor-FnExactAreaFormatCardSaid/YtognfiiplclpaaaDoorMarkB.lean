/-
  Marks of a disk: what is kept.
-/
import Derived.Test.YtognfiiplclpaaaDoorMarkA
import Derived.Test.YtognfiiplclpaaaDoorLawAid
namespace Go.Proofs.YtognfiiplclpaaaDoor
open Go.ChangeShapes Go.WideShapes Go.ChangeAt Go.RowKit


/-- In which blocks a disk's parts lie. -/
def Span (v : Value) (lo hi : Nat) : Prop := ∀ vs vp, v = .agg #[vs, vp] → ∀ g, (vs.ownBlock = some g ∨ vp.ownBlock = some g) → lo ≤ g ∧ g < hi
theorem DkOw.span {w : World} {base : Nat} {v : Value} {d : Dk} (h : DkOw w base v d) : Span v base w.heap.size := by
  obtain ⟨vs, vp, rfl, h1, h2⟩ := h
  intro a b e g hg
  simp only [Value.agg.injEq, Array.mk.injEq, List.cons.injEq, and_true] at e
  obtain ⟨rfl, rfl⟩ := e
  rcases hg with hg | hg
  · exact h1.lies g hg
  · exact h2.lies g hg
theorem Span.wide {v : Value} {lo hi lo' hi' : Nat} (h : Span v lo hi) (h1 : lo' ≤ lo) (h2 : hi ≤ hi') : Span v lo' hi' := fun a b e g hg => by have := h a b e g hg; omega
/-- A disk that lies elsewhere stays. -/
theorem DkOw.kept {w w' : World} {base : Nat} {v : Value} {d : Dk} (h : DkOw w base v d) {lo hi : Nat} (hw : Within lo hi w w') (hh : hi ≤ base) : DkOw w' base v d := by
  obtain ⟨vs, vp, rfl, h1, h2⟩ := h
  exact ⟨vs, vp, rfl, h1.kept hw (.inl hh), h2.kept hw (.inl hh)⟩
theorem DkAt.kept {w w' : World} {B : Nat} {v : Value} {d : Dk} (h : DkAt w B v d) {lo hi : Nat} (hw : Within lo hi w w') (hh : B ≤ lo) (hz : B ≤ w.heap.size) : DkAt w' B v d := h.below (hw.below hh hz)

/-- A disk with marks. -/
def markDk (k : Nat) (d : Dk) : Dk := ⟨marksS k d.S.length, marksP (k + d.S.length) d.P.length⟩
def markEnd (k : Nat) (d : Dk) : Nat := k + d.S.length + 2 * d.P.length
/-- Marks have been laid into a disk that the call owns. -/
def MarkedDk (w : World) (base k : Nat) (v : Value) (d : Dk) (lo hi : Nat) (e : Ending) (w' : World) : Prop :=
  e = .returned (.int .i64 (markEnd k d : Int)) ∧ DkOw w' base v (markDk k d) ∧ Within lo hi w w'

/-- Marks have been laid, the disk's parts named. -/
theorem MarkedDk.back {w : World} {base k : Nat} {v : Value} {d : Dk} {lo hi : Nat} {e : Ending} {w' : World} (h : MarkedDk w base k v d lo hi e w') : ∃ r : Nat, r = markEnd k d ∧ e = .returned (.int .i64 (r : Int)) ∧ DkOw w' base v (markDk k d) ∧ Within lo hi w w' := ⟨_, rfl, h.1, h.2.1, h.2.2⟩
theorem Holds.back {w : World} {r : Nat} {e : Ending} {w' : World} (h : Holds w r e w') : e = .returned (.int .i64 (r : Int)) ∧ Below w.heap.size w w' := h
/-- A block below what is written stays. -/
theorem keep_within {w w' : World} {lo hi b : Nat} {o : Obj} (h : Within lo hi w w') (hb : w.heap[b]? = some o) (hlo : b < lo ∨ hi ≤ b) : w'.heap[b]? = some o := by
  rw [h.block b (block_lt hb) hlo]
  exact hb
theorem below_within {B lo hi : Nat} {a w w' : World} (h : Below B a w) (k : Within lo hi w w') (hB : B ≤ lo) (hz : B ≤ w.heap.size) : Below B a w' := h.trans (k.below hB hz)

end Go.Proofs.YtognfiiplclpaaaDoor
