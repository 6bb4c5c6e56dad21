/-
  Whatever item comes in, ItemRight of the program tells what the model tells, and leaves what was handed in as it was. No condition.
-/
import Derived.Test.YtmkcfjopneaimaaRows
import Derived.Test.YtmkcfjopneaimaaOpenDoc
import Derived.Test.YtmkcfjopneaimaaItm2
import Derived.Test.YtmkcfjopneaimaaToDoc
import Derived.WalkKit
import Derived.ProofKit
import Derived.OpenShut
import Derived.ShutString
import Derived.ChangeOld
import Derived.Below
import Derived.Lib.Hide
namespace Go.Proofs.Ytmkcfjopneaimaa.FnExactItemRight
open Go.ChangeShapes Go.WideShapes Go.ChangeAt Go.RowKit
open Go.ChangeMaps (open_string shut_string)
set_option linter.unusedVariables false

set_option maxRecDepth 100000 in
set_option maxHeartbeats 4000000 in
theorem walk (v : Value) (x : Im) (w : World) (hv : v = vM x) (hx : HeldM x) :
    Calls Try.prog 3 #[v] w fun e w' => e = .returned (.bool true) ∧ Below w.heap.size w w' := by
  subst hv
  have hs := hx.2.2.2
  have HSZ := Lib.hid (fun W => sz_item x 1048576 W (by omega) (by omega) hs)
  have HS := Lib.hid (fun W => spec_item x W hs)
  have HI := Lib.hid (fun W => impl_item x W hs)
  clear hs hx
  go_enter Try.func3, Try.ntmps3
  go_wp2_with fail
  refine (HSZ.out _).mono ?_
  rintro e w1 ⟨r, rfl, r0, r1, hq, hb1⟩
  have g := box_kept hb1
  obtain ⟨c0, c1, c2, c3, c4, c5, c6, c7⟩ := box8 g
  have HG := Lib.hid g
  have HB := Lib.hid (below_alloc_call (Below.refl w.heap.size w) (Nat.le_refl _) hb1)
  clear hq hb1 g
  by_cases hr : r < 0
  · go_wp2
    go_ret
    exact ⟨rfl, HB.out⟩
  · go_wp2_with fail
    refine (to_item x _).mono ?_
    rintro e w2 ⟨rfl, hb2⟩
    have g := keep_blk hb2 HG.out
    replace HG := Lib.hid g
    replace HB := Lib.hid (below_call HB.out HB.out.size hb2)
    clear c0 c1 c2 c3 c4 c5 c6 c7 hb2 g
    go_wp2_with fail
    refine (HS.out _).mono ?_
    rintro e w3 ⟨rfl, hb3⟩
    have g := keep_blk hb3 HG.out
    obtain ⟨c0, c1, c2, c3, c4, c5, c6, c7⟩ := box8 g
    replace HG := Lib.hid g
    replace HB := Lib.hid (below_call HB.out HB.out.size hb3)
    clear hb3 g
    go_wp2_with fail
    refine (to_item x _).mono ?_
    rintro e w4 ⟨rfl, hb4⟩
    replace HB := Lib.hid (below_call HB.out HB.out.size hb4)
    clear c0 c1 c2 c3 c4 c5 c6 c7 hb4
    go_wp2_with fail
    refine (HI.out _).mono ?_
    rintro e w5 ⟨rfl, hb5⟩
    replace HB := Lib.hid (below_call HB.out HB.out.size hb5)
    clear hb5
    generalize itemB x = b
    go_wp2
    go_ret
    exact ⟨rfl, HB.out⟩

theorem laidOut : laidOutB Try.prog = true := by kernel_rfl
theorem own : ownKnob Try.prog.godebug = none := by kernel_rfl

set_option maxRecDepth 100000 in
theorem lifted (os : Os) (started : os.Started) (H : Type) (enc : TypeId × Value → H) :
    ReturnsInHanded {} Try.checked os 3 .any (Rows.fnExactItemRightSpec.pre6 enc Try.prog Try.f3 Rows.fnExactItemRightRow.domain false) (Rows.fnExactItemRightSpec.post enc Try.prog Try.f3 false true false false) := by
  refine returnsInHanded_of_change (C := Try.checked) own started (by kernel_rfl) Try.func3
    (ChangeSpec.witness6 (enc := enc) (C := Try.checked) false ⟨#[], #[.agg #[.int .i64 0, .int .i64 0, .int .i64 0, .int .i64 0, .int .i64 0, .int .i64 0, .string ByteArray.empty, .bool false]], []⟩ 8 (by kernel_rfl) (by kernel_rfl) (by kernel_rfl) (by kernel_rfl)) ?_
  intro W base args ds gs before hval0 hW hcnd _
  have hval : ∀ (j : Nat) t v, Try.f3.params[j]? = some t → args[j]? = some v → Value.okWide Try.prog W .any base t v := hval0
  have hW' := hW
  obtain ⟨p, q, hA0, hV, rfl, hfz, hnd⟩ := hW
  have hA : DataW.TrodAll enc Try.prog W 0 (fun _ => true) true Try.f3.params.toList args.toList ds p := hA0
  rw [Try.params3] at hA hval
  obtain ⟨v0, vs0, d0, ds0, p0, q0, hargs, rfl, rfl, h0, r0⟩ := trodAll_cons hA
  obtain ⟨rfl, rfl, rfl⟩ := trodAll_nil r0
  obtain rfl : args = #[v0] := by cases args; simp_all
  obtain ⟨rfl, rfl⟩ := trodVars_none hV
  have k0 := h0
  have lt0 : ∀ x ∈ p0, x.block < W.heap.size := by obtain ⟨m, hm⟩ := k0; exact DataW.trod_lt m _ _ _ hm
  obtain ⟨a0, w0, z0⟩ := came_item (hval 0 25 v0 rfl rfl) h0
  clear hA0 hval0
  simp only [List.append_nil] at hW'
  refine (walk v0 a0 W w0 z0).mono fun e W' ⟨he, bel⟩ => ?_
  subst he
  exact ⟨_, rfl, _, _, _, [], _, [], hW', trodAll_mk1 (shut_bool Try.underlying4 _), (trodAll_cons_mk (Below.trod laidOut (by kernel_rfl) (of_decide_eq_true (by kernel_rfl)) k0 bel lt0) trodAll_mk0), rfl, bel.frame _, fun h => by cases h⟩

theorem over : Rows.fnExactItemRightRow.holds Try.pinned (OpenSpec.ofChange Rows.fnExactItemRightSpec) :=
  OpenClaim.holds_of_wide 3 Try.f3 rfl rfl rfl rfl rfl rfl rfl ⟨rfl, rfl, rfl, rfl, rfl⟩ rfl rfl rfl rfl rfl (by kernel_rfl) Try.func3 (by kernel_rfl)
    (of_decide_eq_true (by kernel_rfl)) (by unfold Func.isWrapper; first | (rw [if_pos (by decide +kernel)]; kernel_rfl) | (rw [if_neg (by decide +kernel)]; exact ⟨rfl, rfl⟩))
    (fun os started H enc _ => lifted os started H enc)

theorem proved : Rows.FnExactItemRightSaid := over
#print axioms proved
end Go.Proofs.Ytmkcfjopneaimaa.FnExactItemRight
