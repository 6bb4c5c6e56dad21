/-
  Aids of the walks: rows made, marks, blocks kept.
-/
import Derived.Test.YtghiipoeedfkhaaProg
import Derived.Test.YtghiipoeedfkhaaBase1
import Derived.ProofKit
import Derived.WalkSmall
import Derived.Laws.MakeOwn
import Derived.BigQuiet
import Derived.IntWalk
import Derived.Deep.RegionWith
import Derived.RegionTactic
import Derived.Deep.QuietTactic
import Derived.Maps.StringElems
import Derived.Maps.OwnSet
import Derived.Maps.RangeWalk
namespace Go.Proofs.Ytghiipoeedfkhaa
open Go.ChangeShapes Go.WideShapes Go.ChangeAt Go.RowKit

theorem block_some {w : World} {b : Nat} {cs : Array Value} {t : TypeId} (h : w.heap[b]? = some (.cells cs t (0, 0))) (k : Nat) (hk : k < cs.size) : ∃ x, w.cell? ⟨b, k, none⟩ = some x := ⟨_, block_cell h k hk⟩

/-- 'make' of a row: what it lays under a name. -/
theorem make_row (T E : TypeId) (z : Value) (size bytes : Nat) (hT : Try.prog.underlying T = some (.slice E)) (hI : (Try.prog.info? E).map (fun i => (i.zero, i.size, i.bytes)) = some (some z, size, bytes)) (n : Nat) (h : n * bytes ≤ 281474976710656) (h2 : n ≤ 9223372036854775807) :
    ∃ M : Array Value, M = madeCells z.cells (n * size) ∧ M.size = n * size ∧ ∀ W : World, (Instr.makeSlice T (.int .i64 (n : Int)) (.int .i64 (n : Int))).run Try.prog W = .ok (.slice (some ⟨W.heap.size, 0, none⟩) n n) (W.alloc (.cells M E)) := by
  obtain ⟨i0, hi, hz0, hz1, hz2⟩ := info_parts hI
  refine ⟨madeCells z.cells (n * size), rfl, by rw [size_madeCells], fun W => ?_⟩
  have hb : (i0.bytes : Int) * (n : Int) ≤ 281474976710656 := by
    have h' : ((i0.bytes * n : Nat) : Int) ≤ 281474976710656 := by rw [hz2, Nat.mul_comm]; omega
    rwa [Int.natCast_mul] at h'
  have h := run_make (P := Try.prog) W T E i0 z hT hi hz0 .i64 .i64 (n : Int) (n : Int) (by omega) (by omega) hb (by omega)
  rw [← hz1]
  simpa using h

/-- What a copy gives: a slice of the call's own. -/
def Owns {α : Type} (w : World) (E : TypeId) (k : Nat) (enc : α → List Value) (l : List α) (e : Ending) (w' : World) : Prop := ∃ v, e = .returned v ∧ Ow w' w.heap.size E k enc v l ∧ Below w.heap.size w w'

theorem row_lit {w : World} {g : Nat} {E : TypeId} {cs : Array Value} {xs : List Value} (hg : w.heap[g]? = some (.cells cs E (0, 0))) (base n k : Nat) (hb : base ≤ g) (hm : n ≤ maxLen) (hs : cs.size = n * k) (hx : cs.toList = xs) : w.ownsRow base E k (.slice (some ⟨g, 0, none⟩) n n) n xs :=
  ⟨by rw [← hx, Array.length_toList, hs], .inr ⟨g, n, cs, rfl, hb, hg, Nat.le_refl _, hm, hs, by rw [hx, List.take_of_length_le (by rw [← hx, Array.length_toList, hs]; exact Nat.le_refl _)]⟩⟩

theorem flat_one {α : Type} (f : α → Value) (l : List α) : (l.flatMap fun x => [f x]) = l.map f := by
  induction l with
  | nil => rfl
  | cons x l ih => simp [List.flatMap_cons, ih]

theorem set_take_one (cur : Array Value) (k : Nat) (xs : List Value) (u : Value) (hk : k < cur.size) (h : cur.toList.take k = xs) : (cur.setIfInBounds k u).toList.take (k + 1) = xs ++ [u] := by
  rw [Array.toList_setIfInBounds, List.take_succ_eq_append_getElem (by simpa using hk), List.take_set, List.set_eq_of_length_le (by rw [List.length_take]; omega), h]
  simp

theorem set_take_two (cur : Array Value) (k : Nat) (xs : List Value) (u v : Value) (hk : k * 2 + 1 < cur.size) (h : cur.toList.take (k * 2) = xs) : ((cur.setIfInBounds (k * 2) u).setIfInBounds (k * 2 + 1) v).toList.take ((k + 1) * 2) = xs ++ [u, v] := by
  have e1 : (k + 1) * 2 = k * 2 + 1 + 1 := by omega
  rw [e1, set_take_one _ _ (xs ++ [u]) v (by rw [Array.size_setIfInBounds]; exact hk) (set_take_one _ _ xs u (by omega) h)]
  simp

/-- The digits of a number, none of 0. -/
def dg (n : Nat) : List UInt8 := if _h : n = 0 then [] else dg (n / 10) ++ [48 + UInt8.ofNat (n % 10)]
termination_by n
decreasing_by omega

theorem dg_zero : dg 0 = [] := by unfold dg; simp

theorem dg_pos (n : Nat) (h : 0 < n) : dg n = dg (n / 10) ++ [48 + UInt8.ofNat (n % 10)] := by
  rw [dg]
  simp [Nat.ne_of_gt h]

theorem dg_len (n : Nat) : (dg n).length ≤ n := by
  induction n using Nat.strongRecOn with
  | ind n ih =>
    by_cases h : n = 0
    · subst h; rw [dg_zero]; simp
    · rw [dg_pos n (by omega), List.length_append]
      have := ih (n / 10) (by omega)
      simp
      omega

theorem cat_bytes (a b : List UInt8) : (ByteArray.mk a.toArray) ++ (ByteArray.mk b.toArray) = ByteArray.mk (a ++ b).toArray := by
  apply ByteArray.ext
  simp

/-- The mark of a number. -/
def mk (n : Nat) : ByteArray := ⟨(109 :: dg n).toArray⟩

/-- Marks have been laid into a slice that the call owns; the next number is told. -/
def Marked {α : Type} (w : World) (base : Nat) (E : TypeId) (k : Nat) (enc : α → List Value) (v : Value) (l : List α) (r : Nat) (e : Ending) (w' : World) : Prop :=
  e = .returned (.int .i64 (r : Int)) ∧ Ow w' base E k enc v l ∧ w.grownBy w' v.ownBlock

theorem undraw {w w2 : World} (k : Below w.drew.heap.size w.drew w2) : Below w.heap.size w w2 := ⟨k.os, k.tape, k.output, k.size, k.block⟩

/-- All marks are there; the next number is told. -/
def Holds (w : World) (r : Nat) (e : Ending) (w' : World) : Prop := e = .returned (.int .i64 (r : Int)) ∧ Below w.heap.size w w'

/-- Yes, and nothing that was there has turned. -/
def Yes (w : World) (e : Ending) (w' : World) : Prop := e = .returned (.bool true) ∧ Below w.heap.size w w'

theorem keep_blk {W w' : World} {b : Nat} {o : Obj} (hb : Below W.heap.size W w') (h : W.heap[b]? = some o) : w'.heap[b]? = some o := by
  rw [hb.block b (block_lt h)]
  exact h

theorem alloc_blk {W : World} {b : Nat} {o : Obj} (h : W.heap[b]? = some o) (o' : Obj) : (W.alloc o').heap[b]? = some o := by
  rw [Below.heap_alloc W o' b (block_lt h)]
  exact h

theorem undrew {w w2 : World} (k : Below w.drew.heap.size w.drew w2) : Below w.heap.size w w2 := ⟨k.os, k.tape, k.output, k.size, k.block⟩

theorem Below.drewIn {B : Nat} {a w w2 : World} (h : Below B a w) (hB : B ≤ w.heap.size) (k : Below w.drew.heap.size w.drew w2) : Below B a w2 := h.trans (Below.mono (w := w) ⟨k.os, k.tape, k.output, k.size, k.block⟩ hB)

/-- A block below what is written stays. -/
theorem keep_within {w w' : World} {lo hi b : Nat} {o : Obj} (h : Within lo hi w w') (hb : w.heap[b]? = some o) (hlo : b < lo ∨ hi ≤ b) : w'.heap[b]? = some o := by
  rw [h.block b (block_lt hb) hlo]
  exact hb

theorem below_within {B lo hi : Nat} {a w w' : World} (h : Below B a w) (k : Within lo hi w w') (hB : B ≤ lo) (hz : B ≤ w.heap.size) : Below B a w' := h.trans (k.below hB hz)

theorem heap_two (w : World) (o o' : Obj) : ((w.alloc o).alloc o').heap[w.heap.size + 1]? = some o' := by
  have h := heap_alloc_new (w.alloc o) o'
  rwa [World.size_alloc] at h

theorem heap_three (w : World) (o o' o'' : Obj) : (((w.alloc o).alloc o').alloc o'').heap[w.heap.size + 1 + 1]? = some o'' := by
  have h := heap_two (w.alloc o) o' o''
  rwa [World.size_alloc] at h
theorem box_frozen {w : World} {b : Nat} {cs : Array Value} {T : TypeId} (h : w.heap[b]? = some (.cells cs T (0, 0))) : w.frozen? ⟨b, 0, none⟩ = false ∧ w.frozen? ⟨b, 1, none⟩ = false ∧ w.frozen? ⟨b, 2, none⟩ = false ∧ w.frozen? ⟨b, 3, none⟩ = false := ⟨block_free h 0, block_free h 1, block_free h 2, block_free h 3⟩

theorem Ow.aside {α : Type} {w : World} {base : Nat} {e : TypeId} {k : Nat} {enc : α → List Value} {v : Value} {l : List α} (h : Ow w base e k enc v l) {p : Addr} (hp : ∀ g, v.ownBlock = some g → p.block ≠ g) (u : Value) : Ow (w.setCell p u) base e k enc v l := by
  refine ⟨h.1, ?_⟩
  rcases h.2 with hn | ⟨g, cap, cur, rfl, hb, hgg, rest⟩
  · exact .inl hn
  · exact .inr ⟨g, cap, cur, rfl, hb, by rw [Below.heap_setCell _ _ _ _ (fun e => hp g rfl e.symm)]; exact hgg, rest⟩

theorem Holds.back {w : World} {r : Nat} {e : Ending} {w' : World} (h : Holds w r e w') : e = .returned (.int .i64 (r : Int)) ∧ Below w.heap.size w w' := h

end Go.Proofs.Ytghiipoeedfkhaa
