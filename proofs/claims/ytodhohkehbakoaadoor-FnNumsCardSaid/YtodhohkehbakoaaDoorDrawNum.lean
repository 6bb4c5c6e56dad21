/-
  Contracts of the draws of PutNum and PutText.
-/
import Derived.Test.YtodhohkehbakoaaDoorDrawE
namespace Go.Proofs.YtodhohkehbakoaaDoor
open Go.ChangeShapes Go.WideShapes Go.ChangeAt Go.RowKit

def SomeNum (w : World) (e : Ending) (w' : World) : Prop := ∃ n : Int, e = .returned (.int .i64 n) ∧ -9223372036854775808 ≤ n ∧ n ≤ 9223372036854775807 ∧ Below w.heap.size w w'

set_option maxRecDepth 100000 in
theorem draw_putnum (cv : Value) (len : Nat) (w : World) (hC : Code w w.heap.size cv len) :
    Calls Tryd.prog 4 #[cv] w (SomeNum w) := by
  have HC := Lib.hid hC; clear hC
  go_enter Tryd.func4, Tryd.ntmps4
  go_wp2_with fail
  refine (draw_source cv len w HC.out).mono ?_
  rintro e w1 ⟨rfl, hb1, hS1, hC1⟩
  have HB1 := Lib.hid hb1; have HS1 := Lib.hid hS1; have HC1 := Lib.hid hC1; clear hb1 hS1 hC1
  have hz1 := HB1.out.size
  have HANY : Hid (Calls Tryd.prog 13 #[.pointer (some ⟨w.heap.size, 0, none⟩)] w1 fun e w' => ∃ n : Int, e = .returned (.int .i64 n) ∧ -9223372036854775808 ≤ n ∧ n ≤ 9223372036854775807 ∧ w1.grownBy w' (some w.heap.size)) := Lib.hid (by
    go_enter Tryd.func13, Tryd.ntmps13
    go_wp2_with fail
    refine (draw_one _ cv len 4 w1 HS1.out HC1.out (by omega)).mono ?_
    rintro e w2 ⟨b, rfl, hg2, hS2⟩
    have HG2 := Lib.hid hg2; have HS2 := Lib.hid hS2; clear hg2 hS2
    cases b
    · go_wp2_with fail
      refine (draw_n _ cv len 1099511627776 w2 HS2.out (HC1.out.on HG2.out) (by omega) (by omega)).mono ?_
      rintro e w3 ⟨r, rfl, r1, r2, hg3, hS3⟩
      have HG3 := Lib.hid (grownBy_trans HG2.out hg3); clear hg3 hS3
      go_wp2
      go_ret
      exact ⟨r - 1048576, rfl, by omega, by omega, HG3.out⟩
    · go_wp2_with fail
      refine (draw_edge _ cv len w2 HS2.out (HC1.out.on HG2.out)).mono ?_
      rintro e w3 ⟨r, rfl, r1, r2, hg3, hS3⟩
      have HG3 := Lib.hid (grownBy_trans HG2.out hg3); clear hg3 hS3
      go_wp2
      go_ret
      exact ⟨r, rfl, r1, r2, HG3.out⟩)
  go_wp2_with fail
  refine HANY.out.mono ?_
  rintro e w2 ⟨n, rfl, n1, n2, hg⟩
  have HB2 := Lib.hid (HB1.out.grown hg hz1 (fun k hk => by cases hk; exact Nat.le_refl _))
  clear hg HANY
  go_wp2
  go_ret
  exact ⟨n, rfl, n1, n2, HB2.out⟩

set_option maxRecDepth 100000 in
set_option maxHeartbeats 2000000 in
theorem draw_puttext (cv : Value) (len : Nat) (w : World) (hC : Code w w.heap.size cv len) :
    Calls Tryd.prog 8 #[cv] w (SomeStr 20010 w) := by
  have HC := Lib.hid hC; clear hC
  go_enter Tryd.func8, Tryd.ntmps8
  go_wp2_with fail
  refine (draw_source cv len w HC.out).mono ?_
  rintro e w1 ⟨rfl, hb1, hS1, hC1⟩
  have HB1 := Lib.hid hb1; have HS1 := Lib.hid hS1; have HC1 := Lib.hid hC1; clear hb1 hS1 hC1
  go_wp2_with fail
  refine (draw_one _ cv len 8 w1 HS1.out HC1.out (by omega)).mono ?_
  rintro e w2 ⟨b, rfl, hg2, hS2⟩
  have hz1 := HB1.out.size
  have HC2 := Lib.hid (HC1.out.on hg2)
  have HB2 := Lib.hid (HB1.out.grown hg2 hz1 (fun k hk => by cases hk; exact Nat.le_refl _))
  have HS2 := Lib.hid hS2; clear hg2 hS2
  cases b
  · go_wp2_with fail
    refine (draw_n _ cv len 20 w2 HS2.out HC2.out (by omega) (by omega)).mono ?_
    rintro e w3 ⟨r, rfl, r1, r2, hg3, hS3⟩
    have hz2 := HB2.out.size
    have HC3 := Lib.hid (HC2.out.on hg3)
    have HB3 := Lib.hid (HB2.out.grown hg3 hz2 (fun k hk => by cases hk; exact Nat.le_refl _))
    have HS3 := Lib.hid hS3; clear hg3 hS3
    go_wp2_with fail
    refine (draw_bytes _ cv len r w3 HS3.out HC3.out (by omega)).mono ?_
    rintro e w4 ⟨l, rfl, hl, hg4, hS4⟩
    have hz3 := HB3.out.size
    have HB4 := Lib.hid (HB3.out.grown hg4 hz3 (fun k hk => by cases hk; exact Nat.le_refl _))
    have HL := Lib.hid hl; clear hg4 hS4 hl
    go_wp2
    go_ret
    exact ⟨_, rfl, by rw [str_size, HL.out]; omega, HB4.out⟩
  · go_wp2_with fail
    refine (draw_n _ cv len 3 w2 HS2.out HC2.out (by omega) (by omega)).mono ?_
    rintro e w3 ⟨r, rfl, r1, r2, hg3, hS3⟩
    have hz2 := HB2.out.size
    have HB3 := Lib.hid (HB2.out.grown hg3 hz2 (fun k hk => by cases hk; exact Nat.le_refl _))
    clear hg3 hS3
    obtain ⟨rn, rfl⟩ := Int.eq_ofNat_of_zero_le r1
    obtain ⟨M, hM, hmk⟩ := make_noughts (19999 + rn) (by omega) (19999 + (rn : Int)) (by omega)
    have hcv := block_string (P := Tryd.prog) (heap_alloc_new w3 (.cells M 5)) 22 5 9 Tryd.underlying22 Tryd.underlying5 Tryd.underlying9 (List.replicate (19999 + rn) 0) (19999 + rn) (19999 + rn) (by simp) hM
    generalize hl : List.replicate (19999 + rn) (0 : UInt8) = l at hcv
    have hl' : l.length = 19999 + rn := by rw [← hl]; simp
    have HL := Lib.hid hl'; clear hl hl' hM
    go_wp2
    go_ret
    exact ⟨_, rfl, by rw [str_size, HL.out]; omega, HB3.out.alloc HB3.out.size _⟩

end Go.Proofs.YtodhohkehbakoaaDoor
