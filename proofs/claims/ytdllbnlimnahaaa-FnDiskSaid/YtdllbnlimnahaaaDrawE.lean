/-
  Noughts made, and the contract of edge.
-/
import Derived.Test.YtdllbnlimnahaaaDrawO
import Derived.Laws.MakeOwn
import Derived.Laws.OwnMore
namespace Go.Proofs.Ytdllbnlimnahaaa
open Go.ChangeShapes Go.WideShapes Go.ChangeAt Go.RowKit

/-- 'make([]byte, n)': so many noughts. -/
theorem make_noughts (n : Nat) (h : n ≤ 281474976710656) (N : Int) (hN : N = n) : ∃ M : Array Value, M.toList.take n = bvals (List.replicate n 0) ∧ ∀ W : World, (Instr.makeSlice 22 (.int .i64 N) (.int .i64 N)).run Try.prog W = .ok (.slice (some ⟨W.heap.size, 0, none⟩) n n) (W.alloc (.cells M 5)) := by
  subst hN
  obtain ⟨i0, hi, hz0, hz1, hz2⟩ := info_parts infoU8s
  refine ⟨madeCells (Value.int .u8 0).cells ((n : Int).toNat * i0.size), ?_, fun W => ?_⟩
  · rw [hz1, Nat.mul_one, Int.toNat_natCast]
    have e : (Value.int .u8 0).cells = #[Value.int .u8 0] := rfl
    rw [e, toList_madeCells_one, List.take_of_length_le (by simp)]
    simp [bvals, bval]
  · have h := run_make (P := Try.prog) W 22 5 i0 (.int .u8 0) Try.underlying22 hi hz0 .i64 .i64 (n : Int) (n : Int) (by omega) (by omega) (by rw [hz2]; omega) (by omega)
    simpa using h

def SomeStr (m : Nat) (w : World) (e : Ending) (w' : World) : Prop := ∃ t : ByteArray, e = .returned (.string t) ∧ t.size ≤ m ∧ Below w.heap.size w w'

theorem str_size (l : List UInt8) : (ByteArray.mk l.toArray).size = l.length := rfl

def edges : Array Value := #[.int .i64 0, .int .i64 1, .int .i64 (-1), .int .i64 2, .int .i64 1000, .int .i64 1001, .int .i64 2147483648, .int .i64 2147483647, .int .i64 (-2147483648), .int .i64 4611686018427387904, .int .i64 9223372036854775807, .int .i64 (-9223372036854775808), .int .i64 1000000, .int .i64 1000001]
theorem edges_at (k : Nat) (h : k < 14) : ∃ x : Int, edges[k]? = some (.int .i64 x) ∧ -9223372036854775808 ≤ x ∧ x ≤ 9223372036854775807 := by
  match k, h with
  | 0, _ => exact ⟨_, rfl, by omega, by omega⟩
  | 1, _ => exact ⟨_, rfl, by omega, by omega⟩
  | 2, _ => exact ⟨_, rfl, by omega, by omega⟩
  | 3, _ => exact ⟨_, rfl, by omega, by omega⟩
  | 4, _ => exact ⟨_, rfl, by omega, by omega⟩
  | 5, _ => exact ⟨_, rfl, by omega, by omega⟩
  | 6, _ => exact ⟨_, rfl, by omega, by omega⟩
  | 7, _ => exact ⟨_, rfl, by omega, by omega⟩
  | 8, _ => exact ⟨_, rfl, by omega, by omega⟩
  | 9, _ => exact ⟨_, rfl, by omega, by omega⟩
  | 10, _ => exact ⟨_, rfl, by omega, by omega⟩
  | 11, _ => exact ⟨_, rfl, by omega, by omega⟩
  | 12, _ => exact ⟨_, rfl, by omega, by omega⟩
  | 13, _ => exact ⟨_, rfl, by omega, by omega⟩
  | k + 14, h => omega

set_option maxRecDepth 100000 in
theorem draw_edge (S : Nat) (cv : Value) (len : Nat) (w : World) (hS : Src w S cv len) (hC : Code w S cv len) :
    Calls Try.prog 41 #[.pointer (some ⟨S, 0, none⟩)] w fun e w' => ∃ r : Int, e = .returned (.int .i64 r) ∧ -9223372036854775808 ≤ r ∧ r ≤ 9223372036854775807 ∧ w.grownBy w' (some S) ∧ Src w' S cv len := by
  have HS := Lib.hid hS; have HC := Lib.hid hC; clear hS hC
  go_enter Try.func41, Try.ntmps41
  go_wp2_with fail
  have hSl := HS.out.lt
  have hA : w.grownBy (w.alloc (.cells edges 2)) (some S) := World.grownBy_alloc _ _ _
  refine (draw_n S cv len 14 (w.alloc (.cells edges 2)) (HS.out.keep (heap_alloc_old _ _ hSl)) (HC.out.on hA) (by omega) (by omega)).mono ?_
  rintro e w1 ⟨r, rfl, r1, r2, hg, hS1⟩
  obtain ⟨rn, rfl⟩ := Int.eq_ofNat_of_zero_le r1
  obtain ⟨x, hx, x1, x2⟩ := edges_at rn (by omega)
  have hc : w1.cell? ⟨w.heap.size, rn, none⟩ = some (.int .i64 x) := by
    have hbk : w1.heap[w.heap.size]? = some (.cells edges 2 (0, 0)) := by
      rw [hg.block w.heap.size (by simp) (by simp; omega)]
      exact heap_alloc_new w _
    simp [World.cell?, hbk, hx]
  have HG := Lib.hid (grownBy_trans hA hg); have HS1 := Lib.hid hS1
  have r2' : rn < 14 := by omega
  clear hg hS1 hA hx
  go_wp2
  go_ret
  exact ⟨x, rfl, x1, x2, HG.out, HS1.out⟩

end Go.Proofs.Ytdllbnlimnahaaa
