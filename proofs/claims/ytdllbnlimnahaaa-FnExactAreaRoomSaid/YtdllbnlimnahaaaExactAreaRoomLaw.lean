/-
  Whatever disk comes in, AreaRoom of the program tells how many bytes the model tells, and leaves what was handed in as it was. No condition.
-/
import Derived.Test.YtdllbnlimnahaaaRows
import Derived.Test.YtdllbnlimnahaaaSz
import Derived.Test.YtdllbnlimnahaaaLawAid
import Derived.Test.YtdllbnlimnahaaaRoom
import Derived.Test.YtdllbnlimnahaaaOpenDisk
import Derived.WalkKit
import Derived.ProofKit
import Derived.OpenShut
import Derived.ShutString
import Derived.ChangeOld
import Derived.Below
import Derived.Lib.Hide
import Derived.Deep.RegionWith
namespace Go.Proofs.Ytdllbnlimnahaaa.FnExactAreaRoom
open Go.ChangeShapes Go.WideShapes Go.ChangeAt Go.RowKit
open Go.ChangeMaps (open_string shut_string)
set_option linter.unusedVariables false

set_option maxRecDepth 100000 in
set_option maxHeartbeats 4000000 in
theorem walk (v : Value) (d : Dk) (w : World) (hv : DkAt w w.heap.size v d) (hd : Held d) :
    Calls Try.prog 4 #[v] w fun e w' => e = .returned (.bool true) ∧ Below w.heap.size w w' := by
  obtain ⟨vs, vp, rfl, hs, hp⟩ := hv
  have HV := Lib.hid (show DkAt w w.heap.size (.agg #[vs, vp]) d from ⟨vs, vp, rfl, hs, hp⟩)
  have HSZ := Lib.hid (fun W (hb : Below w.heap.size w W) => sz_disk (.agg #[vs, vp]) d W ((HV.out.below hb).more hb.size) hd)
  clear hs hp
  go_enter Try.func4, Try.ntmps4
  go_wp2_with fail
  refine (HSZ.out _ ((Below.refl _ _).alloc (Nat.le_refl _) _)).mono ?_
  rintro e w1 ⟨r, rfl, r0, r1, hq, hb1⟩
  have HG1 := Lib.hid (box_kept hb1)
  obtain ⟨x0, x1⟩ := box2 HG1.out
  have HQ := Lib.hid hq; clear hq
  have HB1 := Lib.hid (below_alloc_call (Below.refl w.heap.size w) (Nat.le_refl _) hb1)
  clear hb1
  by_cases hr : r < 0
  · go_wp2
    go_ret
    exact ⟨rfl, HB1.out⟩
  · obtain ⟨q1, q2, q3, q4, q5⟩ := HQ.out (by omega)
    clear q2 q4 q5
    have HTD := Lib.hid (fun W (hb : Below w.heap.size w W) => to_disk (.agg #[vs, vp]) d W ((HV.out.below hb).more hb.size) q1 q3)
    have HN := Lib.hid (show d.S.length ≤ 140737488351232 ∧ d.P.length ≤ 140737488351232 from ⟨by omega, by omega⟩)
    go_wp2_with fail
    refine (HTD.out _ HB1.out).mono ?_
    intro e w2 h2
    obtain ⟨A1, c1, A2, c2, rfl, ho2, hb2⟩ := h2.parts
    have HO2 := Lib.hid ho2; have HB2 := Lib.hid (below_call HB1.out HB1.out.size hb2); have HG2 := Lib.hid (keep_blk hb2 HG1.out)
    clear h2 ho2 hb2 x0 x1
    go_wp2_with fail
    refine (spec_room _ d _ HO2.out.at_ HN.out.1 HN.out.2).mono ?_
    rintro e w3 ⟨rfl, hb3⟩
    have HB3 := Lib.hid (below_call HB2.out HB2.out.size hb3); have HG3 := Lib.hid (keep_blk hb3 HG2.out)
    clear hb3
    obtain ⟨x0, x1⟩ := box2 HG3.out
    go_wp2_with fail
    refine (HTD.out _ HB3.out).mono ?_
    intro e w4 h4
    obtain ⟨B1, e1, B2, e2, rfl, ho4, hb4⟩ := h4.parts
    have HO4 := Lib.hid ho4; have HB4 := Lib.hid (below_call HB3.out HB3.out.size hb4); have HG4 := Lib.hid (keep_blk hb4 HG3.out)
    clear h4 ho4 hb4 x0 x1
    go_wp2_with fail
    refine (impl_room _ d _ (HO4.out.lift ((Below.refl _ _).alloc (Nat.le_refl _) _)).at_ HN.out.1 HN.out.2).mono ?_
    rintro e w5 ⟨rfl, hb5⟩
    have HB5 := Lib.hid (below_alloc_call HB4.out HB4.out.size hb5); have HG5 := Lib.hid (keep_blk hb5 (alloc_blk HG4.out _)); have HX5 := Lib.hid (box_kept hb5)
    have HO5 := Lib.hid ((HO4.out.lift ((Below.refl _ _).alloc (Nat.le_refl _) _)).lift hb5)
    clear hb5
    obtain ⟨x0, x1⟩ := box2 HG5.out
    obtain ⟨y0, y1⟩ := box2 HX5.out
    generalize (roomN d : Int) = b
    have hbb : (b != b) = false := by simp
    go_wp2
    go_region_with (first
      | (go_at_call 25; refine (HTD.out _ HB5.out.drew).mono ?_; intro e w6 h6; obtain ⟨C1, f1, C2, f2, rfl, ho6, hb6⟩ := h6.parts; obtain ⟨z0, z1⟩ := box2 (keep_blk (undrew hb6) HX5.out))
      | (go_at_call 27; refine (eq_disk _ _ d _ ((HO5.out.at_.below (undrew hb6)).more (undrew hb6).size) ho6.at_ HN.out.1 HN.out.2).mono ?_; rintro e w7 ⟨rfl, hb7⟩))
    all_goals
      have HB7 := Lib.hid (below_call (Below.drewIn HB5.out HB5.out.size hb6) (Nat.le_trans HB5.out.size hb6.size) hb7)
      clear h6 ho6 hb6 hb7 x0 x1 y0 y1 z0 z1 hbb
      go_wp2
      go_ret
      exact ⟨rfl, HB7.out⟩

theorem laidOut : laidOutB Try.prog = true := by kernel_rfl
theorem own : ownKnob Try.prog.godebug = none := by kernel_rfl

set_option maxRecDepth 100000 in
theorem lifted (os : Os) (started : os.Started) (H : Type) (enc : TypeId × Value → H) :
    ReturnsInHanded {} Try.checked os 4 .any (Rows.fnExactAreaRoomSpec.pre6 enc Try.prog Try.f4 Rows.fnExactAreaRoomRow.domain false) (Rows.fnExactAreaRoomSpec.post enc Try.prog Try.f4 false true false false) := by
  refine returnsInHanded_of_change (C := Try.checked) own started (by kernel_rfl) Try.func4
    (ChangeSpec.witness6 (enc := enc) (C := Try.checked) false ⟨#[], #[.agg #[.slice none 0 0, .slice none 0 0]], []⟩ 8 (by kernel_rfl) (by kernel_rfl) (by kernel_rfl) (by kernel_rfl)) ?_
  intro W base args ds gs before hval0 hW hcnd _
  have hval : ∀ (j : Nat) t v, Try.f4.params[j]? = some t → args[j]? = some v → Value.okWide Try.prog W .any base t v := hval0
  have hW' := hW
  obtain ⟨p, q, hA0, hV, rfl, hfz, hnd⟩ := hW
  have hA : DataW.TrodAll enc Try.prog W 0 (fun _ => true) true Try.f4.params.toList args.toList ds p := hA0
  rw [Try.params4] at hA hval
  obtain ⟨v0, vs0, d0, ds0, p0, q0, hargs, rfl, rfl, h0, r0⟩ := trodAll_cons hA
  obtain ⟨rfl, rfl, rfl⟩ := trodAll_nil r0
  obtain rfl : args = #[v0] := by cases args; simp_all
  obtain ⟨rfl, rfl⟩ := trodVars_none hV
  have k0 := h0
  have lt0 : ∀ x ∈ p0, x.block < W.heap.size := by obtain ⟨m, hm⟩ := k0; exact DataW.trod_lt m _ _ _ hm
  obtain ⟨a0, w0, z0⟩ := open_disk (hval 0 50 v0 rfl rfl) h0
  clear hA0 hval0
  simp only [List.append_nil] at hW'
  refine (walk v0 a0 W w0 z0).mono fun e W' ⟨he, bel⟩ => ?_
  subst he
  exact ⟨_, rfl, _, _, _, [], _, [], hW', trodAll_mk1 (shut_bool Try.underlying4 _), (trodAll_cons_mk (Below.trod laidOut (by kernel_rfl) (of_decide_eq_true (by kernel_rfl)) k0 bel lt0) trodAll_mk0), rfl, bel.frame _, fun h => by cases h⟩

theorem over : Rows.fnExactAreaRoomRow.holds Try.pinned (OpenSpec.ofChange Rows.fnExactAreaRoomSpec) :=
  OpenClaim.holds_of_wide 4 Try.f4 rfl rfl rfl rfl rfl rfl rfl ⟨rfl, rfl, rfl, rfl, rfl⟩ rfl rfl rfl rfl rfl (by kernel_rfl) Try.func4 (by kernel_rfl)
    (of_decide_eq_true (by kernel_rfl)) (by unfold Func.isWrapper; first | (rw [if_pos (by decide +kernel)]; kernel_rfl) | (rw [if_neg (by decide +kernel)]; exact ⟨rfl, rfl⟩))
    (fun os started H enc _ => lifted os started H enc)

theorem proved : Rows.FnExactAreaRoomSaid := over
#print axioms proved
end Go.Proofs.Ytdllbnlimnahaaa.FnExactAreaRoom
