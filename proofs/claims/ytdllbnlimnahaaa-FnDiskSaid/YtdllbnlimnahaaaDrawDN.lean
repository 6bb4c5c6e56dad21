/-
  The draw of an extent: DrawDiskNew.
-/
import Derived.Test.YtdllbnlimnahaaaDrawDM
namespace Go.Proofs.Ytdllbnlimnahaaa
open Go.ChangeShapes Go.WideShapes Go.ChangeAt Go.RowKit

/-- A number, whatever. -/
def SomeNum (w : World) (e : Ending) (w' : World) : Prop := ∃ n : Int, e = .returned (.int .i64 n) ∧ -9223372036854775808 ≤ n ∧ n ≤ 9223372036854775807 ∧ Below w.heap.size w w'

theorem five_at (x : Int) (h1 : -9223372036854775808 ≤ x) (h2 : x ≤ 9223372036854775807) (k : Nat) (h : k < 5) : ∃ y : Int, (#[.int .i64 0, .int .i64 1, .int .i64 64, .int .i64 65, .int .i64 x] : Array Value)[k]? = some (.int .i64 y) ∧ -9223372036854775808 ≤ y ∧ y ≤ 9223372036854775807 := by
  match k, h with
  | 0, _ => exact ⟨_, rfl, by omega, by omega⟩
  | 1, _ => exact ⟨_, rfl, by omega, by omega⟩
  | 2, _ => exact ⟨_, rfl, by omega, by omega⟩
  | 3, _ => exact ⟨_, rfl, by omega, by omega⟩
  | 4, _ => exact ⟨_, rfl, h1, h2⟩
  | k + 5, h => omega

set_option maxRecDepth 100000 in
set_option maxHeartbeats 2000000 in
theorem draw_disknew (cv : Value) (len : Nat) (w : World) (hC : Code w w.heap.size cv len) :
    Calls Try.prog 10 #[cv] w (SomeNum w) := by
  have HC := Lib.hid hC; clear hC
  go_enter Try.func10, Try.ntmps10
  go_wp2_with fail
  refine (draw_source cv len w HC.out).mono ?_
  rintro e w1 ⟨rfl, hb1, hS1, hC1⟩
  have HB1 := Lib.hid hb1; have HS1 := Lib.hid hS1; have HC1 := Lib.hid hC1; clear hb1 hS1 hC1
  go_wp2_with fail
  refine (draw_one _ cv len 3 w1 HS1.out HC1.out (by omega)).mono ?_
  rintro e w2 ⟨b, rfl, hg2, hS2⟩
  have hz1 := HB1.out.size
  have HB2 := Lib.hid (HB1.out.grown hg2 hz1 (fun k hk => by cases hk; exact Nat.le_refl _))
  have HC2 := Lib.hid (HC1.out.on hg2)
  have HS2 := Lib.hid hS2
  clear hg2 hS2
  cases b
  · go_wp2_with fail
    refine (draw_n _ cv len 20 w2 HS2.out HC2.out (by omega) (by omega)).mono ?_
    rintro e w3 ⟨r, rfl, r0, r1, hg3, hS3⟩
    have hz2 := HB2.out.size
    have HB3 := Lib.hid (HB2.out.grown hg3 hz2 (fun k hk => by cases hk; exact Nat.le_refl _))
    clear hg3 hS3
    go_wp2
    go_ret
    exact ⟨_, rfl, by omega, by omega, HB3.out⟩
  · go_wp2_with fail
    refine (draw_edge _ cv len w2 HS2.out HC2.out).mono ?_
    rintro e w3 ⟨x, rfl, x0, x1, hg3, hS3⟩
    have hz2 := HB2.out.size
    have HB3 := Lib.hid (HB2.out.grown hg3 hz2 (fun k hk => by cases hk; exact Nat.le_refl _))
    have HC3 := Lib.hid (HC2.out.on hg3)
    have HS3 := Lib.hid hS3
    have hsl := HS3.out.lt
    clear hg3 hS3
    go_wp2_with fail
    refine (draw_n _ cv len 5 _ (HS3.out.keep (heap_alloc_old _ _ hsl)) (HC3.out.on (World.grownBy_alloc _ _ _)) (by omega) (by omega)).mono ?_
    rintro e w4 ⟨r, rfl, r0, r1, hg4, hS4⟩
    have hz3 := HB3.out.size
    obtain ⟨k, rfl⟩ := Int.eq_ofNat_of_zero_le r0
    have r1' : k < 5 := by omega
    obtain ⟨y, hy, y0, y1⟩ := five_at x x0 x1 k r1'
    have hc : w4.cell? ⟨w3.heap.size, k, none⟩ = some (.int .i64 y) := by
      have hbk := blk_by (heap_alloc_new w3 (.cells #[.int .i64 0, .int .i64 1, .int .i64 64, .int .i64 65, .int .i64 x] 2)) hg4 hsl
      simp [World.cell?, hbk, hy]
    have HB4 := Lib.hid ((HB3.out.alloc hz3 (.cells #[.int .i64 0, .int .i64 1, .int .i64 64, .int .i64 65, .int .i64 x] 2)).grown hg4 (by simp only [World.size_alloc]; omega) (fun k hk => by cases hk; exact Nat.le_refl _))
    clear hg4 hS4 hy
    go_wp2
    go_ret
    exact ⟨y, rfl, y0, y1, HB4.out⟩

end Go.Proofs.Ytdllbnlimnahaaa
