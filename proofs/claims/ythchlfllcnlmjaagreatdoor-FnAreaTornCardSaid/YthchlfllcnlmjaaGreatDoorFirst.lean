/-
  Contracts of l03First, l01Min, sideStart, sectorsOf.
-/
import Derived.Test.YthchlfllcnlmjaaGreatDoorReadM
import Derived.Test.YthchlfllcnlmjaaGreatDoorRoomS
namespace Go.Proofs.YthchlfllcnlmjaaGreatDoor
open Go.ChangeShapes Go.WideShapes Go.ChangeAt Go.RowKit

theorem first_int (d : Dk) (s : Nat) : ((firstN d s : Nat) : Int) = 1 + (s : Int) * (((d.S.length - 1) / 2 : Nat) : Int) := by
  unfold firstN halfN
  omega

set_option maxRecDepth 100000 in
theorem spec_first (A : Option Addr) (vp : Value) (c s : Nat) (d : Dk) (w : World) (h1 : 1 ≤ d.S.length) (h2 : d.S.length ≤ 64) (hs : s ≤ 1) :
    Calls Tryz.prog 49 #[.agg #[.slice A d.S.length c, vp], .int .i64 (s : Int)] w fun e w' => e = .returned (.int .i64 (firstN d s : Nat)) ∧ Below w.heap.size w w' := by
  obtain ⟨f, hf⟩ : ∃ f : Int, f = (((d.S.length - 1) / 2 : Nat) : Int) := ⟨_, rfl⟩
  have HH := Lib.hid (fun W => spec_half A d.S.length c vp W h1 h2)
  rw [← hf] at HH
  have hm : IntKind.i64.wrap ((s : Int) * f) = (s : Int) * f := IntWalk.i64_in _ (by
    have : s = 0 ∨ s = 1 := by omega
    rcases this with rfl | rfl <;> omega)
  have ha : IntKind.i64.wrap (1 + (s : Int) * f) = 1 + (s : Int) * f := IntWalk.i64_in _ (by
    have : s = 0 ∨ s = 1 := by omega
    rcases this with rfl | rfl <;> omega)
  have HE := Lib.hid (first_int d s)
  rw [← hf] at HE
  clear hf
  go_enter Tryz.func49, Tryz.ntmps49
  go_wp2_with fail
  refine (HH.out _).mono ?_
  rintro e w1 ⟨rfl, hb⟩
  have HB := Lib.hid (below_call ((Below.refl w.heap.size w).alloc (Nat.le_refl _) _) (by simp) hb)
  clear hb
  go_wp2
  go_ret
  exact ⟨by rw [HE.out]; rfl, HB.out⟩

set_option maxRecDepth 100000 in
theorem impl_first (A : Option Addr) (vp : Value) (c s : Nat) (d : Dk) (w : World) (h1 : 1 ≤ d.S.length) (h2 : d.S.length ≤ 64) (hs : s ≤ 1) :
    Calls Tryz.prog 78 #[.agg #[.slice A d.S.length c, vp], .int .i64 (s : Int)] w fun e w' => e = .returned (.int .i64 (firstN d s : Nat)) ∧ Below w.heap.size w w' := by
  obtain ⟨f, hf⟩ : ∃ f : Int, f = (((d.S.length - 1) / 2 : Nat) : Int) := ⟨_, rfl⟩
  have HH := Lib.hid (fun W => impl_half A d.S.length c vp W h1 h2)
  rw [← hf] at HH
  have hm : IntKind.i64.wrap ((s : Int) * f) = (s : Int) * f := IntWalk.i64_in _ (by
    have : s = 0 ∨ s = 1 := by omega
    rcases this with rfl | rfl <;> omega)
  have ha : IntKind.i64.wrap (1 + (s : Int) * f) = 1 + (s : Int) * f := IntWalk.i64_in _ (by
    have : s = 0 ∨ s = 1 := by omega
    rcases this with rfl | rfl <;> omega)
  have HE := Lib.hid (first_int d s)
  rw [← hf] at HE
  clear hf
  go_enter Tryz.func78, Tryz.ntmps78
  go_wp2_with fail
  refine (HH.out _).mono ?_
  rintro e w1 ⟨rfl, hb⟩
  have HB := Lib.hid (below_call ((Below.refl w.heap.size w).alloc (Nat.le_refl _) _) (by simp) hb)
  clear hb
  go_wp2
  go_ret
  exact ⟨by rw [HE.out]; rfl, HB.out⟩

theorem spec_min (a b : Int) (w : World) :
    Calls Tryz.prog 50 #[.int .i64 a, .int .i64 b] w fun e w' => e = .returned (.int .i64 (min a b)) ∧ Below w.heap.size w w' := by
  by_cases h : a < b
  · have HE := Lib.hid (show min a b = a by omega)
    go_enter Tryz.func50, Tryz.ntmps50
    go_wp2
    go_ret
    exact ⟨by rw [HE.out]; rfl, Below.refl _ _⟩
  · have HE := Lib.hid (show min a b = b by omega)
    go_enter Tryz.func50, Tryz.ntmps50
    go_wp2
    go_ret
    exact ⟨by rw [HE.out]; rfl, Below.refl _ _⟩

theorem parts_int (n : Nat) : Int.tdiv ((n : Int) + 64 - 1) 64 = (partsN n : Nat) := by
  rw [Int.tdiv_eq_ediv_of_nonneg (by omega)]
  unfold partsN
  omega
theorem impl_sectors (n : Nat) (w : World) (hn : n ≤ 1048576) :
    Calls Tryz.prog 39 #[.int .i64 (n : Int)] w fun e w' => e = .returned (.int .i64 (partsN n : Nat)) ∧ Below w.heap.size w w' := by
  have e1 : IntKind.i64.wrap ((n : Int) + 64) = (n : Int) + 64 := IntWalk.i64_in _ (by omega)
  have e2 : IntKind.i64.wrap ((n : Int) + 64 - 1) = (n : Int) + 64 - 1 := IntWalk.i64_in _ (by omega)
  have e3 := parts_int n
  have e4 : IntKind.i64.wrap ((partsN n : Nat) : Int) = (partsN n : Nat) := IntWalk.i64_in _ (by unfold partsN; omega)
  go_enter Tryz.func39, Tryz.ntmps39
  go_wp2
  go_ret
  exact ⟨rfl, Below.refl _ _⟩

end Go.Proofs.YthchlfllcnlmjaaGreatDoor
