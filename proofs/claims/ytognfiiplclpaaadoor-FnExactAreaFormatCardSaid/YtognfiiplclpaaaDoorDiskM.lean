/-
  A disk as plain data, and how its parts lie in cells.
-/
import Derived.Test.YtognfiiplclpaaaDoorMem
namespace Go.Proofs.YtognfiiplclpaaaDoor
open Go.RowKit

/-- What is pending: a place and data. -/
abbrev Pd := Int × ByteArray
structure Dk where
  S : List ByteArray
  P : List Pd

@[reducible] def encS : ByteArray → List Value := fun s => [.string s]
@[reducible] def encP : Pd → List Value := fun p => [.int .i64 p.1, .string p.2]
@[reducible] def encI : Int → List Value := fun n => [.int .i64 n]
theorem encI_len : ∀ x, (encI x).length = 1 := fun _ => rfl
theorem encS_len : ∀ x, (encS x).length = 1 := fun _ => rfl
theorem encP_len : ∀ x, (encP x).length = 2 := fun _ => rfl

/-- A disk's value that reads as d, below block B. -/
def DkAt (w : World) (B : Nat) (v : Value) (d : Dk) : Prop := ∃ vs vp, v = .agg #[vs, vp] ∧ Sl w B 1 encS vs d.S ∧ Sl w B 2 encP vp d.P

/-- What an input's measure bounds. -/
def Small (d : Dk) : Prop := d.S.length ≤ 1048576 ∧ (∀ s ∈ d.S, s.size ≤ 1048576) ∧ d.P.length ≤ 1048576 ∧ (∀ p ∈ d.P, p.2.size ≤ 1048576) ∧ ∀ p ∈ d.P, -9223372036854775808 ≤ p.1 ∧ p.1 ≤ 9223372036854775807
/-- What holds of whatever comes in. -/
def Held (d : Dk) : Prop := d.S.length ≤ 9223372036854775807 ∧ (∀ s ∈ d.S, s.size ≤ maxLen) ∧ d.P.length ≤ 9223372036854775807 ∧ (∀ p ∈ d.P, p.2.size ≤ maxLen) ∧ ∀ p ∈ d.P, -9223372036854775808 ≤ p.1 ∧ p.1 ≤ 9223372036854775807

theorem DkAt.below {w w' : World} {B : Nat} {v : Value} {d : Dk} (h : DkAt w B v d) (hb : Below B w w') : DkAt w' B v d := by
  obtain ⟨vs, vp, rfl, h1, h2⟩ := h
  exact ⟨vs, vp, rfl, h1.below hb, h2.below hb⟩
theorem DkAt.more {w : World} {B B' : Nat} {v : Value} {d : Dk} (h : DkAt w B v d) (hB : B ≤ B') : DkAt w B' v d := by
  obtain ⟨vs, vp, rfl, h1, h2⟩ := h
  exact ⟨vs, vp, rfl, h1.more hB, h2.more hB⟩

/-- A right disk. -/
def Right (d : Dk) : Prop := 1 ≤ d.S.length ∧ d.S.length ≤ 64 ∧ d.P.length ≤ 200 ∧ (∀ s ∈ d.S, s.size ≤ 64) ∧ ∀ p ∈ d.P, 0 ≤ p.1 ∧ p.1 < d.S.length ∧ p.2.size ≤ 64
open Classical in
noncomputable def rightB (d : Dk) : Bool := decide (Right d)
open Classical in
theorem rightB_yes {d : Dk} (h : Right d) : rightB d = true := by unfold rightB; exact decide_eq_true h
open Classical in
theorem rightB_no {d : Dk} (h : ¬ Right d) : rightB d = false := by unfold rightB; exact decide_eq_false h
open Classical in
theorem rightB_out {d : Dk} (h : rightB d = true) : Right d := by unfold rightB at h; exact of_decide_eq_true h
theorem ret_bool {a b : Bool} (h : a = b) : Ending.returned (.bool a) = .returned (.bool b) := by rw [h]

/-! A block laid down just now, later. -/
theorem box_kept {w wr : World} {cs : Array Value} {T : TypeId} (hb : Below (w.alloc (.cells cs T)).heap.size (w.alloc (.cells cs T)) wr) : wr.heap[w.heap.size]? = some (.cells cs T (0, 0)) := by
  rw [hb.block _ (by simp)]
  exact heap_alloc_new _ _
theorem box2 {w : World} {b : Nat} {x0 x1 : Value} {T : TypeId} (h : w.heap[b]? = some (.cells #[x0, x1] T (0, 0))) : w.cell? ⟨b, 0, none⟩ = some x0 ∧ w.cell? ⟨b, 1, none⟩ = some x1 := by
  constructor <;> simp [World.cell?, h]

theorem getElem_mem' {α : Type} (l : List α) (i : Nat) (hi : i < l.length) : l[i] ∈ l := List.getElem_mem hi

end Go.Proofs.YtognfiiplclpaaaDoor
