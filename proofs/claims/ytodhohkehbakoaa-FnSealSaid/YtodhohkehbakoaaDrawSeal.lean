/-
  Contracts of the draws of Seal and CrcMore, of edge, and of lwAt.
-/
import Derived.Test.YtodhohkehbakoaaDrawO
import Derived.Test.YtodhohkehbakoaaCrc
import Derived.Laws.MakeOwn
import Derived.Laws.OwnMore
namespace Go.Proofs.Ytodhohkehbakoaa
open Go.ChangeShapes Go.WideShapes Go.ChangeAt Go.RowKit

/-- 'make([]byte, n)': so many noughts. -/
theorem make_noughts (n : Nat) (h : n ≤ 281474976710656) (N : Int) (hN : N = n) : ∃ M : Array Value, M.toList.take n = bvals (List.replicate n 0) ∧ ∀ W : World, (Instr.makeSlice 22 (.int .i64 N) (.int .i64 N)).run Try.prog W = .ok (.slice (some ⟨W.heap.size, 0, none⟩) n n) (W.alloc (.cells M 5)) := by
  subst hN
  obtain ⟨i0, hi, hz0, hz1, hz2⟩ := info_parts infoU8s
  refine ⟨madeCells (Value.int .u8 0).cells ((n : Int).toNat * i0.size), ?_, fun W => ?_⟩
  · rw [hz1, Nat.mul_one, Int.toNat_natCast]
    have e : (Value.int .u8 0).cells = #[Value.int .u8 0] := rfl
    rw [e, toList_madeCells_one, List.take_of_length_le (by simp)]
    simp [bvals, bval]
  · have h := run_make (P := Try.prog) W 22 5 i0 (.int .u8 0) Try.underlying22 hi hz0 .i64 .i64 (n : Int) (n : Int) (by omega) (by omega) (by rw [hz2]; omega) (by omega)
    simpa using h

def SomeStr (m : Nat) (w : World) (e : Ending) (w' : World) : Prop := ∃ t : ByteArray, e = .returned (.string t) ∧ t.size ≤ m ∧ Below w.heap.size w w'

theorem str_size (l : List UInt8) : (ByteArray.mk l.toArray).size = l.length := rfl

set_option maxRecDepth 100000 in
set_option maxHeartbeats 2000000 in
theorem draw_seal (cv : Value) (len : Nat) (w : World) (hC : Code w w.heap.size cv len) :
    Calls Try.prog 4 #[cv] w (SomeStr 20000 w) := by
  have HC := Lib.hid hC; clear hC
  go_enter Try.func4, Try.ntmps4
  go_wp2_with fail
  refine (draw_source cv len w HC.out).mono ?_
  rintro e w1 ⟨rfl, hb1, hS1, hC1⟩
  have HB1 := Lib.hid hb1; have HS1 := Lib.hid hS1; have HC1 := Lib.hid hC1; clear hb1 hS1 hC1
  go_wp2_with fail
  refine (draw_one _ cv len 30 w1 HS1.out HC1.out (by omega)).mono ?_
  rintro e w2 ⟨b, rfl, hg2, hS2⟩
  have hz1 := HB1.out.size
  have HC2 := Lib.hid (HC1.out.on hg2)
  have HB2 := Lib.hid (HB1.out.grown hg2 hz1 (fun k hk => by cases hk; exact Nat.le_refl _))
  have HS2 := Lib.hid hS2; clear hg2 hS2
  cases b
  · go_wp2_with fail
    refine (draw_n _ cv len 20 w2 HS2.out HC2.out (by omega) (by omega)).mono ?_
    rintro e w3 ⟨r, rfl, r1, r2, hg3, hS3⟩
    have hz2 := HB2.out.size
    have HC3 := Lib.hid (HC2.out.on hg3)
    have HB3 := Lib.hid (HB2.out.grown hg3 hz2 (fun k hk => by cases hk; exact Nat.le_refl _))
    have HS3 := Lib.hid hS3; clear hg3 hS3
    go_wp2_with fail
    refine (draw_bytes _ cv len r w3 HS3.out HC3.out (by omega)).mono ?_
    rintro e w4 ⟨l, rfl, hl, hg4, hS4⟩
    have hz3 := HB3.out.size
    have HB4 := Lib.hid (HB3.out.grown hg4 hz3 (fun k hk => by cases hk; exact Nat.le_refl _))
    have HL := Lib.hid hl; clear hg4 hS4 hl
    go_wp2
    go_ret
    exact ⟨_, rfl, by rw [str_size, HL.out]; omega, HB4.out⟩
  · go_wp2_with fail
    refine (draw_n _ cv len 3 w2 HS2.out HC2.out (by omega) (by omega)).mono ?_
    rintro e w3 ⟨r, rfl, r1, r2, hg3, hS3⟩
    have hz2 := HB2.out.size
    have HB3 := Lib.hid (HB2.out.grown hg3 hz2 (fun k hk => by cases hk; exact Nat.le_refl _))
    clear hg3 hS3
    obtain ⟨rn, rfl⟩ := Int.eq_ofNat_of_zero_le r1
    obtain ⟨M, hM, hmk⟩ := make_noughts (19995 + rn) (by omega) (19995 + (rn : Int)) (by omega)
    have hcv := block_string (P := Try.prog) (heap_alloc_new w3 (.cells M 5)) 22 5 9 Try.underlying22 Try.underlying5 Try.underlying9 (List.replicate (19995 + rn) 0) (19995 + rn) (19995 + rn) (by simp) hM
    generalize hl : List.replicate (19995 + rn) (0 : UInt8) = l at hcv
    have hl' : l.length = 19995 + rn := by rw [← hl]; simp
    have HL := Lib.hid hl'; clear hl hl' hM
    go_wp2
    go_ret
    exact ⟨_, rfl, by rw [str_size, HL.out]; omega, HB3.out.alloc HB3.out.size _⟩

def edges : Array Value := #[.int .i64 0, .int .i64 1, .int .i64 (-1), .int .i64 2, .int .i64 1000, .int .i64 1001, .int .i64 2147483648, .int .i64 2147483647, .int .i64 (-2147483648), .int .i64 4611686018427387904, .int .i64 9223372036854775807, .int .i64 (-9223372036854775808), .int .i64 1000000, .int .i64 1000001]
theorem edges_at (k : Nat) (h : k < 14) : ∃ x : Int, edges[k]? = some (.int .i64 x) ∧ -9223372036854775808 ≤ x ∧ x ≤ 9223372036854775807 := by
  match k, h with
  | 0, _ => exact ⟨_, rfl, by omega, by omega⟩
  | 1, _ => exact ⟨_, rfl, by omega, by omega⟩
  | 2, _ => exact ⟨_, rfl, by omega, by omega⟩
  | 3, _ => exact ⟨_, rfl, by omega, by omega⟩
  | 4, _ => exact ⟨_, rfl, by omega, by omega⟩
  | 5, _ => exact ⟨_, rfl, by omega, by omega⟩
  | 6, _ => exact ⟨_, rfl, by omega, by omega⟩
  | 7, _ => exact ⟨_, rfl, by omega, by omega⟩
  | 8, _ => exact ⟨_, rfl, by omega, by omega⟩
  | 9, _ => exact ⟨_, rfl, by omega, by omega⟩
  | 10, _ => exact ⟨_, rfl, by omega, by omega⟩
  | 11, _ => exact ⟨_, rfl, by omega, by omega⟩
  | 12, _ => exact ⟨_, rfl, by omega, by omega⟩
  | 13, _ => exact ⟨_, rfl, by omega, by omega⟩
  | k + 14, h => omega

set_option maxRecDepth 100000 in
theorem draw_edge (S : Nat) (cv : Value) (len : Nat) (w : World) (hS : Src w S cv len) (hC : Code w S cv len) :
    Calls Try.prog 22 #[.pointer (some ⟨S, 0, none⟩)] w fun e w' => ∃ r : Int, e = .returned (.int .i64 r) ∧ -9223372036854775808 ≤ r ∧ r ≤ 9223372036854775807 ∧ w.grownBy w' (some S) ∧ Src w' S cv len := by
  have HS := Lib.hid hS; have HC := Lib.hid hC; clear hS hC
  go_enter Try.func22, Try.ntmps22
  go_wp2_with fail
  have hSl := HS.out.lt
  have hA : w.grownBy (w.alloc (.cells edges 2)) (some S) := World.grownBy_alloc _ _ _
  refine (draw_n S cv len 14 (w.alloc (.cells edges 2)) (HS.out.keep (heap_alloc_old _ _ hSl)) (HC.out.on hA) (by omega) (by omega)).mono ?_
  rintro e w1 ⟨r, rfl, r1, r2, hg, hS1⟩
  obtain ⟨rn, rfl⟩ := Int.eq_ofNat_of_zero_le r1
  obtain ⟨x, hx, x1, x2⟩ := edges_at rn (by omega)
  have hc : w1.cell? ⟨w.heap.size, rn, none⟩ = some (.int .i64 x) := by
    have hbk : w1.heap[w.heap.size]? = some (.cells edges 2 (0, 0)) := by
      rw [hg.block w.heap.size (by simp) (by simp; omega)]
      exact heap_alloc_new w _
    simp [World.cell?, hbk, hx]
  have HG := Lib.hid (grownBy_trans hA hg); have HS1 := Lib.hid hS1
  have r2' : rn < 14 := by omega
  clear hg hS1 hA hx
  go_wp2
  go_ret
  exact ⟨x, rfl, x1, x2, HG.out, HS1.out⟩

/-- A number and a text of a few bytes. -/
def SomeCrc (w : World) (e : Ending) (w' : World) : Prop := ∃ (c : Int) (t : ByteArray), e = .returned (.tuple #[.int .i64 c, .string t]) ∧ -9223372036854775808 ≤ c ∧ c ≤ 9223372036854775807 ∧ t.size ≤ 8 ∧ Below w.heap.size w w'

set_option maxRecDepth 100000 in
set_option maxHeartbeats 2000000 in
theorem draw_crcmore (cv : Value) (len : Nat) (w : World) (hC : Code w w.heap.size cv len) :
    Calls Try.prog 9 #[cv] w (SomeCrc w) := by
  have HC := Lib.hid hC; clear hC
  go_enter Try.func9, Try.ntmps9
  go_wp2_with fail
  refine (draw_source cv len w HC.out).mono ?_
  rintro e w1 ⟨rfl, hb1, hS1, hC1⟩
  have HB1 := Lib.hid hb1; have HS1 := Lib.hid hS1; have HC1 := Lib.hid hC1; clear hb1 hS1 hC1
  go_wp2_with fail
  refine (draw_n _ cv len 9 w1 HS1.out HC1.out (by omega) (by omega)).mono ?_
  rintro e w2 ⟨r, rfl, r1, r2, hg2, hS2⟩
  have hz1 := HB1.out.size
  have HC2 := Lib.hid (HC1.out.on hg2)
  have HB2 := Lib.hid (HB1.out.grown hg2 hz1 (fun k hk => by cases hk; exact Nat.le_refl _))
  have HS2 := Lib.hid hS2; clear hg2 hS2
  go_wp2_with fail
  refine (draw_bytes _ cv len r w2 HS2.out HC2.out (by omega)).mono ?_
  rintro e w3 ⟨l, rfl, hl, hg3, hS3⟩
  have hz2 := HB2.out.size
  have HC3 := Lib.hid (HC2.out.on hg3)
  have HB3 := Lib.hid (HB2.out.grown hg3 hz2 (fun k hk => by cases hk; exact Nat.le_refl _))
  have HS3 := Lib.hid hS3
  have hl8 : (ByteArray.mk l.toArray).size ≤ 8 := by rw [str_size, hl]; omega
  clear hg3 hS3 hl
  generalize ByteArray.mk l.toArray = t at *
  go_wp2_with fail
  refine (draw_one _ cv len 5 w3 HS3.out HC3.out (by omega)).mono ?_
  rintro e w4 ⟨b, rfl, hg4, hS4⟩
  have hz3 := HB3.out.size
  have HC4 := Lib.hid (HC3.out.on hg4)
  have HB4 := Lib.hid (HB3.out.grown hg4 hz3 (fun k hk => by cases hk; exact Nat.le_refl _))
  have HS4 := Lib.hid hS4; clear hg4 hS4
  cases b
  · go_wp2_with fail
    refine (draw_n _ cv len 9 w4 HS4.out HC4.out (by omega) (by omega)).mono ?_
    rintro e w5 ⟨q, rfl, q1, q2, hg5, hS5⟩
    have hz4 := HB4.out.size
    have HC5 := Lib.hid (HC4.out.on hg5)
    have HB5 := Lib.hid (HB4.out.grown hg5 hz4 (fun k hk => by cases hk; exact Nat.le_refl _))
    have HS5 := Lib.hid hS5; clear hg5 hS5
    go_wp2_with fail
    refine (draw_bytes _ cv len q w5 HS5.out HC5.out (by omega)).mono ?_
    rintro e w6 ⟨l2, rfl, hl2, hg6, hS6⟩
    have hz5 := HB5.out.size
    have HB6 := Lib.hid (HB5.out.grown hg6 hz5 (fun k hk => by cases hk; exact Nat.le_refl _))
    have hl2' : (ByteArray.mk l2.toArray).size ≤ 8000 := by rw [str_size, hl2]; omega
    clear hg6 hS6 hl2
    go_wp2_with fail
    refine (spec_crc1 _ _ hl2').mono ?_
    rintro e w7 ⟨rfl, rfl⟩
    have hcl := crcOn_lt 0 (ByteArray.mk l2.toArray).data.toList (by omega)
    generalize (crcOn 0 (ByteArray.mk l2.toArray).data.toList : Nat) = c at *
    go_wp2
    go_ret2
    exact ⟨c, t, rfl, by omega, by omega, hl8, HB6.out⟩
  · go_wp2_with fail
    refine (draw_edge _ cv len w4 HS4.out HC4.out).mono ?_
    rintro e w5 ⟨c, rfl, c1, c2, hg5, hS5⟩
    have hz4 := HB4.out.size
    have HB5 := Lib.hid (HB4.out.grown hg5 hz4 (fun k hk => by cases hk; exact Nat.le_refl _))
    clear hg5 hS5
    go_wp2
    go_ret2
    exact ⟨c, t, rfl, c1, c2, hl8, HB5.out⟩

set_option maxRecDepth 100000 in
theorem law_at (cv : Value) (B len : Nat) (k : Int) (most : Int) (w : World) (hC : Code w B cv len) (hk : 0 ≤ k) (hk2 : k ≤ 1000) (hm : 1 ≤ most) (hm2 : most ≤ 1000000) :
    Calls Try.prog 7 #[cv, .int .i64 k, .int .i64 most] w fun e w' => ∃ r : Int, e = .returned (.int .i64 r) ∧ 0 ≤ r ∧ r < most ∧ w = w' := by
  obtain ⟨a, cap, rfl, hl⟩ := hC.form
  by_cases h1 : most ≤ 1
  · clear hC
    go_enter Try.func7, Try.ntmps7
    go_wp2
    go_ret
    exact ⟨0, rfl, by omega, by omega, rfl⟩
  · by_cases h0 : len = 0
    · have h0' : ((len : Int) == 0) = true := by simp [h0]
      clear hC h0
      go_enter Try.func7, Try.ntmps7
      go_wp2
      go_ret
      exact ⟨0, rfl, by omega, by omega, rfl⟩
    · have h0' : ((len : Int) == 0) = false := by simp; omega
      obtain ⟨kn, rfl⟩ := Int.eq_ofNat_of_zero_le hk
      obtain ⟨b, off, v, rfl, hb, v1, v2, v3⟩ := hC.get (kn % len) (Nat.mod_lt _ (by omega))
      have hr := Int.emod_nonneg v (show most ≠ 0 by omega)
      have hr2 := Int.emod_lt_of_pos v (show 0 < most by omega)
      have hml : kn % len < len := Nat.mod_lt _ (by omega)
      clear hC
      go_enter Try.func7, Try.ntmps7
      go_wp2
      go_ret
      exact ⟨v % most, rfl, hr, hr2, rfl⟩

end Go.Proofs.Ytodhohkehbakoaa
