/-
  Contract of the model's AreaRoom.
-/
import Derived.Test.YthchlfllcnlmjaaGreatDoorRoom
namespace Go.Proofs.YthchlfllcnlmjaaGreatDoor
open Go.ChangeShapes Go.WideShapes Go.ChangeAt Go.RowKit

set_option maxRecDepth 100000 in
theorem spec_room (v : Value) (d : Dk) (w : World) (hv : DkAt w w.heap.size v d) (hS : d.S.length ≤ 140737488351232) (hP : d.P.length ≤ 140737488351232) :
    Calls Tryz.prog 18 #[v] w fun e w' => e = .returned (.int .i64 (roomN d : Int)) ∧ Below w.heap.size w w' := by
  have HR := Lib.hid (fun W (hb : Below w.heap.size w W) => spec_right v d W ((hv.below hb).more hb.size) hS hP)
  obtain ⟨vs, vp, rfl, hs, hp⟩ := hv
  obtain ⟨A1, c1, rfl⟩ := hs.form
  have HV := Lib.hid (show DkAt w w.heap.size _ d from ⟨_, _, rfl, hs, hp⟩)
  clear hs hp
  go_enter Tryz.func18, Tryz.ntmps18
  go_wp2_with fail
  refine (HR.out _ ((Below.refl _ _).alloc (Nat.le_refl _) _)).mono ?_
  rintro e w1 ⟨rfl, hb1⟩
  have HG1 := Lib.hid (box_kept hb1)
  obtain ⟨x0, x1⟩ := box2 HG1.out
  have HB1 := Lib.hid (below_alloc_call (Below.refl w.heap.size w) (Nat.le_refl _) hb1)
  clear hb1
  by_cases hR : Right d
  · have h1 := hR.1
    have h2 := hR.2.1
    have hm : IntKind.i64.wrap (64 * (((d.S.length - 1) / 2 : Nat) : Int)) = 64 * (((d.S.length - 1) / 2 : Nat) : Int) := IntWalk.i64_in _ (by omega)
    rw [rightB_yes hR]
    go_wp2_with fail
    refine (spec_half A1 d.S.length c1 vp _ h1 h2).mono ?_
    rintro e w2 ⟨rfl, hb2⟩
    have HB2 := Lib.hid (below_call HB1.out HB1.out.size hb2)
    clear hb2
    go_wp2
    go_ret
    exact ⟨by rw [roomN_yes hR]; unfold halfN; norm_cast, HB2.out⟩
  · rw [rightB_no hR]
    go_wp2
    go_ret
    exact ⟨by rw [roomN_no hR]; rfl, HB1.out⟩

end Go.Proofs.YthchlfllcnlmjaaGreatDoor
