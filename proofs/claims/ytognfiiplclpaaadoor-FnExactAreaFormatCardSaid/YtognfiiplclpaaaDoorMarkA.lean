/-
  Marks: what stands there.
-/
import Derived.Test.YtognfiiplclpaaaDoorTo
import Derived.BigQuiet
import Derived.IntWalk
import Derived.Deep.RegionWith
import Derived.RegionTactic
namespace Go.Proofs.YtognfiiplclpaaaDoor
open Go.ChangeShapes Go.WideShapes Go.ChangeAt Go.RowKit


/-- The digits of a number, none of 0. -/
def dg (n : Nat) : List UInt8 := if _h : n = 0 then [] else dg (n / 10) ++ [48 + UInt8.ofNat (n % 10)]
termination_by n
decreasing_by omega
theorem dg_zero : dg 0 = [] := by unfold dg; simp
theorem dg_pos (n : Nat) (h : 0 < n) : dg n = dg (n / 10) ++ [48 + UInt8.ofNat (n % 10)] := by
  rw [dg]
  simp [Nat.ne_of_gt h]
theorem dg_len (n : Nat) : (dg n).length ≤ n := by
  induction n using Nat.strongRecOn with
  | ind n ih =>
    by_cases h : n = 0
    · subst h; rw [dg_zero]; simp
    · rw [dg_pos n (by omega), List.length_append]
      have := ih (n / 10) (by omega)
      simp
      omega
theorem cat_bytes (a b : List UInt8) : (ByteArray.mk a.toArray) ++ (ByteArray.mk b.toArray) = ByteArray.mk (a ++ b).toArray := by
  apply ByteArray.ext
  simp
/-- The mark of a number. -/
def mk (n : Nat) : ByteArray := ⟨(109 :: dg n).toArray⟩

def marksS (k n : Nat) : List ByteArray := (List.range n).map fun i => mk (k + i)
def marksP (k n : Nat) : List Pd := (List.range n).map fun (i : Nat) => (((k + 2 * i : Nat) : Int), mk (k + 2 * i + 1))
theorem marksS_succ (k n : Nat) : marksS k (n + 1) = marksS k n ++ [mk (k + n)] := by simp [marksS, List.range_succ]
theorem marksP_succ (k n : Nat) : marksP k (n + 1) = marksP k n ++ [(((k + 2 * n : Nat) : Int), mk (k + 2 * n + 1))] := by simp [marksP, List.range_succ]
theorem marksS_len (k n : Nat) : (marksS k n).length = n := by simp [marksS]
theorem marksP_len (k n : Nat) : (marksP k n).length = n := by simp [marksP]

/-- Marks have been laid into a slice that the call owns; the next number is told. -/
def Marked {α : Type} (w : World) (base : Nat) (E : TypeId) (k : Nat) (enc : α → List Value) (v : Value) (l : List α) (r : Nat) (e : Ending) (w' : World) : Prop :=
  e = .returned (.int .i64 (r : Int)) ∧ Ow w' base E k enc v l ∧ w.grownBy w' v.ownBlock

theorem undraw {w w2 : World} (k : Below w.drew.heap.size w.drew w2) : Below w.heap.size w w2 := ⟨k.os, k.tape, k.output, k.size, k.block⟩
/-- All marks are there; the next number is told. -/
def Holds (w : World) (r : Nat) (e : Ending) (w' : World) : Prop := e = .returned (.int .i64 (r : Int)) ∧ Below w.heap.size w w'

end Go.Proofs.YtognfiiplclpaaaDoor
