/-
  Contracts of AreaRoom, of the program and of the model.
-/
import Derived.Test.YthchlfllcnlmjaaGreatDoorRite
import Derived.Test.YthchlfllcnlmjaaGreatDoorBase2
import Derived.IntWalk
import Derived.Lib.Hide
namespace Go.Proofs.YthchlfllcnlmjaaGreatDoor
open Go.ChangeShapes Go.WideShapes Go.ChangeAt Go.RowKit

/-- How many sectors a side has. -/
def halfN (d : Dk) : Nat := (d.S.length - 1) / 2
open Classical in
/-- How many bytes a side has room for. -/
noncomputable def roomN (d : Dk) : Nat := if Right d then 64 * halfN d else 0
theorem roomN_yes {d : Dk} (h : Right d) : roomN d = 64 * halfN d := by classical unfold roomN; rw [if_pos h]
theorem roomN_no {d : Dk} (h : ¬ Right d) : roomN d = 0 := by classical unfold roomN; rw [if_neg h]

theorem half_eq (n : Nat) (h : 1 ≤ n) : Int.tdiv ((n : Int) - 1) 2 = (((n - 1) / 2 : Nat) : Int) := by
  rw [Int.tdiv_eq_ediv_of_nonneg (by omega)]
  omega

theorem spec_half (A : Option Addr) (n c : Nat) (vp : Value) (w : World) (h1 : 1 ≤ n) (h2 : n ≤ 64) :
    Calls Tryz.prog 52 #[.agg #[.slice A n c, vp]] w fun e w' => e = .returned (.int .i64 (((n - 1) / 2 : Nat) : Int)) ∧ Below w.heap.size w w' := by
  have e1 : IntKind.i64.wrap ((n : Int) - 1) = (n : Int) - 1 := IntWalk.i64_in _ (by omega)
  have e2 := half_eq n h1
  have e3 : IntKind.i64.wrap (((n - 1) / 2 : Nat) : Int) = (((n - 1) / 2 : Nat) : Int) := IntWalk.i64_in _ (by omega)
  go_enter Tryz.func52, Tryz.ntmps52
  go_wp2
  go_ret
  first | exact ⟨rfl, Below.refl _ _⟩ | exact ⟨rfl, (Below.refl _ _).alloc (Nat.le_refl _) _⟩

theorem impl_half (A : Option Addr) (n c : Nat) (vp : Value) (w : World) (h1 : 1 ≤ n) (h2 : n ≤ 64) :
    Calls Tryz.prog 56 #[.agg #[.slice A n c, vp]] w fun e w' => e = .returned (.int .i64 (((n - 1) / 2 : Nat) : Int)) ∧ Below w.heap.size w w' := by
  have e1 : IntKind.i64.wrap ((n : Int) - 1) = (n : Int) - 1 := IntWalk.i64_in _ (by omega)
  have e2 := half_eq n h1
  have e3 : IntKind.i64.wrap (((n - 1) / 2 : Nat) : Int) = (((n - 1) / 2 : Nat) : Int) := IntWalk.i64_in _ (by omega)
  go_enter Tryz.func56, Tryz.ntmps56
  go_wp2
  go_ret
  first | exact ⟨rfl, Below.refl _ _⟩ | exact ⟨rfl, (Below.refl _ _).alloc (Nat.le_refl _) _⟩

set_option maxRecDepth 100000 in
theorem impl_room (v : Value) (d : Dk) (w : World) (hv : DkAt w w.heap.size v d) (hS : d.S.length ≤ 140737488351232) (hP : d.P.length ≤ 140737488351232) :
    Calls Tryz.prog 17 #[v] w fun e w' => e = .returned (.int .i64 (roomN d : Int)) ∧ Below w.heap.size w w' := by
  have HR := Lib.hid (fun W (hb : Below w.heap.size w W) => impl_right v d W ((hv.below hb).more hb.size) hS hP)
  obtain ⟨vs, vp, rfl, hs, hp⟩ := hv
  obtain ⟨A1, c1, rfl⟩ := hs.form
  have HV := Lib.hid (show DkAt w w.heap.size _ d from ⟨_, _, rfl, hs, hp⟩)
  clear hs hp
  go_enter Tryz.func17, Tryz.ntmps17
  go_wp2_with fail
  refine (HR.out _ ((Below.refl _ _).alloc (Nat.le_refl _) _)).mono ?_
  rintro e w1 ⟨rfl, hb1⟩
  have HG1 := Lib.hid (box_kept hb1)
  obtain ⟨x0, x1⟩ := box2 HG1.out
  have HB1 := Lib.hid (below_alloc_call (Below.refl w.heap.size w) (Nat.le_refl _) hb1)
  clear hb1
  by_cases hR : Right d
  · have h1 := hR.1
    have h2 := hR.2.1
    have hm : IntKind.i64.wrap ((((d.S.length - 1) / 2 : Nat) : Int) * 64) = 64 * (((d.S.length - 1) / 2 : Nat) : Int) := by rw [Int.mul_comm]; exact IntWalk.i64_in _ (by omega)
    rw [rightB_yes hR]
    go_wp2_with fail
    refine (impl_half A1 d.S.length c1 vp _ h1 h2).mono ?_
    rintro e w2 ⟨rfl, hb2⟩
    have HB2 := Lib.hid (below_call HB1.out HB1.out.size hb2)
    clear hb2
    go_wp2
    go_ret
    exact ⟨by rw [roomN_yes hR, Nat.mul_comm 64]; unfold halfN; norm_cast, HB2.out⟩
  · rw [rightB_no hR]
    go_wp2
    go_ret
    exact ⟨by rw [roomN_no hR]; rfl, HB1.out⟩

end Go.Proofs.YthchlfllcnlmjaaGreatDoor
