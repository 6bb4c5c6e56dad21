/-
  Whatever marks come in, MarksRight of the program tells what the model tells, and leaves what was handed in as it was. No condition.
-/
import Derived.Test.YtaggmcdfggmlhaaRows
import Derived.Test.YtaggmcdfggmlhaaMkQ
import Derived.WalkKit
import Derived.ProofKit
import Derived.OpenShut
import Derived.ShutString
import Derived.ChangeOld
import Derived.Below
import Derived.Lib.Hide
namespace Go.Proofs.Ytaggmcdfggmlhaa.FnExactMarksRight
open Go.ChangeShapes Go.WideShapes Go.ChangeAt Go.RowKit
open Go.ChangeMaps (open_string shut_string)
set_option linter.unusedVariables false

set_option maxRecDepth 100000 in
set_option maxHeartbeats 4000000 in
theorem walk (v : Value) (l : List Nm) (w : World) (hv : Sl w w.heap.size 2 encN v l) (hz : l.length ≤ 9223372036854775807) (hy : ∀ n ∈ l, HeldN n) :
    Calls Try.prog 6 #[v] w fun e w' => e = .returned (.bool true) ∧ Below w.heap.size w w' := by
  have HSZ := Lib.hid (fun W (hb : Below w.heap.size w W) => sz_marks v l 1048576 W W.heap.size ((hv.below hb).more hb.size) (by omega) (by omega) hz)
  have HTM := Lib.hid (fun (h : l.length ≤ 1048576) W (hb : Below w.heap.size w W) => to_marks v l W ((hv.below hb).more hb.size) h)
  obtain ⟨A, c, rfl⟩ := hv.form
  clear hv
  go_enter Try.func6, Try.ntmps6
  go_wp2_with fail
  refine (HSZ.out _ (Below.refl _ _)).mono ?_
  rintro e w1 ⟨r, rfl, r0, r1, hq, hb1⟩
  have HL := Lib.hid ((Lg.start w).lift hb1)
  have HQ := Lib.hid hq; clear hq hb1
  by_cases hr : r < 0
  · go_wp2
    go_ret
    exact ⟨rfl, HL.out.bel⟩
  · have q1 := HQ.out (by omega)
    replace HTM := Lib.hid (HTM.out q1)
    have hn : l.length ≤ 140737488351232 := by omega
    go_wp2_with fail
    refine (HTM.out _ HL.out.bel).mono ?_
    rintro e w2 ⟨v2, rfl, ho, hb2⟩
    obtain ⟨B1, e1, rfl⟩ := ho.form
    replace HL := Lib.hid (HL.out.lift hb2)
    have HO := Lib.hid ho; clear ho hb2
    go_wp2_with fail
    refine (spec_marksR _ l _ (HO.out.sl encN_len) hn).mono ?_
    rintro e w3 ⟨rfl, hb3⟩
    replace HL := Lib.hid (HL.out.lift hb3); clear hb3 HO
    go_wp2_with fail
    refine (HTM.out _ HL.out.bel).mono ?_
    rintro e w4 ⟨v4, rfl, ho, hb4⟩
    obtain ⟨B2, e2, rfl⟩ := ho.form
    replace HL := Lib.hid (HL.out.lift hb4)
    have HO := Lib.hid ho; clear ho hb4
    go_wp2_with fail
    refine (impl_marksR _ l _ (HO.out.sl encN_len) hn).mono ?_
    rintro e w5 ⟨rfl, hb5⟩
    replace HL := Lib.hid (HL.out.lift hb5)
    replace HO := Lib.hid (HO.out.lift hb5); clear hb5
    generalize marksB l = b
    have hbb : (b != b) = false := by simp
    go_wp2_with fail
    refine (HTM.out _ HL.out.bel).mono ?_
    rintro e w6 ⟨v6, rfl, ho, hb6⟩
    obtain ⟨B3, e3, rfl⟩ := ho.form
    replace HL := Lib.hid (HL.out.lift hb6)
    replace HO := Lib.hid (HO.out.lift hb6)
    have HO2 := Lib.hid ho; clear ho hb6
    go_wp2_with fail
    refine (eq_marks _ _ l _ (HO.out.sl encN_len) (HO2.out.sl encN_len) hn).mono ?_
    rintro e w7 ⟨rfl, hb7⟩
    replace HL := Lib.hid (HL.out.lift hb7); clear hb7
    go_wp2
    go_ret
    exact ⟨rfl, HL.out.bel⟩

theorem laidOut : laidOutB Try.prog = true := by kernel_rfl
theorem own : ownKnob Try.prog.godebug = none := by kernel_rfl

set_option maxRecDepth 100000 in
theorem lifted (os : Os) (started : os.Started) (H : Type) (enc : TypeId × Value → H) :
    ReturnsInHanded {} Try.checked os 6 .any (Rows.fnExactMarksRightSpec.pre6 enc Try.prog Try.f6 Rows.fnExactMarksRightRow.domain false) (Rows.fnExactMarksRightSpec.post enc Try.prog Try.f6 false true false false) := by
  refine returnsInHanded_of_change (C := Try.checked) own started (by kernel_rfl) Try.func6
    (ChangeSpec.witness6 (enc := enc) (C := Try.checked) false ⟨#[], #[.slice none 0 0], []⟩ 8 (by kernel_rfl) (by kernel_rfl) (by kernel_rfl) (by kernel_rfl)) ?_
  intro W base args ds gs before hval0 hW hcnd _
  have hval : ∀ (j : Nat) t v, Try.f6.params[j]? = some t → args[j]? = some v → Value.okWide Try.prog W .any base t v := hval0
  have hW' := hW
  obtain ⟨p, q, hA0, hV, rfl, hfz, hnd⟩ := hW
  have hA : DataW.TrodAll enc Try.prog W 0 (fun _ => true) true Try.f6.params.toList args.toList ds p := hA0
  rw [Try.params6] at hA hval
  obtain ⟨v0, vs0, d0, ds0, p0, q0, hargs, rfl, rfl, h0, r0⟩ := trodAll_cons hA
  obtain ⟨rfl, rfl, rfl⟩ := trodAll_nil r0
  obtain rfl : args = #[v0] := by cases args; simp_all
  obtain ⟨rfl, rfl⟩ := trodVars_none hV
  have k0 := h0
  have lt0 : ∀ x ∈ p0, x.block < W.heap.size := by obtain ⟨m, hm⟩ := k0; exact DataW.trod_lt m _ _ _ hm
  obtain ⟨a0, w0, z0, y0⟩ := came_marks (hval 0 57 v0 rfl rfl) h0
  clear hA0 hval0
  simp only [List.append_nil] at hW'
  refine (walk v0 a0 W w0 z0 y0).mono fun e W' ⟨he, bel⟩ => ?_
  subst he
  exact ⟨_, rfl, _, _, _, [], _, [], hW', trodAll_mk1 (shut_bool Try.underlying4 _), (trodAll_cons_mk (Below.trod laidOut (by kernel_rfl) (of_decide_eq_true (by kernel_rfl)) k0 bel lt0) trodAll_mk0), rfl, bel.frame _, fun h => by cases h⟩

theorem over : Rows.fnExactMarksRightRow.holds Try.pinned (OpenSpec.ofChange Rows.fnExactMarksRightSpec) :=
  OpenClaim.holds_of_wide 6 Try.f6 rfl rfl rfl rfl rfl rfl rfl ⟨rfl, rfl, rfl, rfl, rfl⟩ rfl rfl rfl rfl rfl (by kernel_rfl) Try.func6 (by kernel_rfl)
    (of_decide_eq_true (by kernel_rfl)) (by unfold Func.isWrapper; first | (rw [if_pos (by decide +kernel)]; kernel_rfl) | (rw [if_neg (by decide +kernel)]; exact ⟨rfl, rfl⟩))
    (fun os started H enc _ => lifted os started H enc)

theorem proved : Rows.FnExactMarksRightSaid := over
#print axioms proved
end Go.Proofs.Ytaggmcdfggmlhaa.FnExactMarksRight
