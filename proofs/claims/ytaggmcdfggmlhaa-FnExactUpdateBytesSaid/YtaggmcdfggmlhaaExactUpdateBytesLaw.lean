/-
  Whatever update comes in, UpdateBytes of the program tells what the model tells, and leaves what was handed in as it was. No condition.
-/
import Derived.Test.YtaggmcdfggmlhaaRows
import Derived.Test.YtaggmcdfggmlhaaUpZ
import Derived.WalkKit
import Derived.ProofKit
import Derived.OpenShut
import Derived.ShutString
import Derived.ChangeOld
import Derived.Below
import Derived.Lib.Hide
namespace Go.Proofs.Ytaggmcdfggmlhaa.FnExactUpdateBytes
open Go.ChangeShapes Go.WideShapes Go.ChangeAt Go.RowKit
open Go.ChangeMaps (open_string shut_string)
set_option linter.unusedVariables false

set_option maxRecDepth 100000 in
set_option maxHeartbeats 4000000 in
theorem walk (v : Value) (u : Up) (w : World) (hv : UpAt w w.heap.size v u) (hd : HeldU u) :
    Calls Try.prog 9 #[v] w fun e w' => e = .returned (.bool true) ∧ Below w.heap.size w w' := by
  have HSZ := Lib.hid (fun W (hb : Below w.heap.size w W) => sz_update v u W W.heap.size 1048576 (by omega) (by omega) ((hv.below hb).more hb.size) (Nat.le_refl _) hd)
  have HTX := Lib.hid (show ∀ x ∈ u.X, x.t.size ≤ maxLen from fun x h => (hd.2.1 x h).2.2.2)
  obtain ⟨vx, vh, rfl, hx, hh⟩ := hv
  have HHU := Lib.hid hd
  have HV := Lib.hid (show UpAt w w.heap.size (.agg #[vx, vh]) u from ⟨vx, vh, rfl, hx, hh⟩)
  clear hx hh hd
  go_enter Try.func9, Try.ntmps9
  go_wp2_with fail
  refine (HSZ.out _ (by (repeat (first | with_reducible refine bset ?_ _ (by omega) | with_reducible refine ball ?_ _ (by first | exact Nat.le_refl _ | (simp only [World.size_alloc, World.size_setCell]; omega)) | with_reducible exact Below.refl _ _ | with_reducible refine Below.drew ?_)))).mono ?_
  rintro e w1 ⟨r, rfl, r0, r1, hq, hb1⟩
  have HL := Lib.hid (((Lg.start w).alloc _).lift hb1)
  have HQ := Lib.hid hq; clear hq hb1
  obtain ⟨x0, x1⟩ := box2 (HL.out.blk _ List.mem_cons_self)
  by_cases hr : r < 0
  · go_wp2
    go_ret
    exact ⟨rfl, HL.out.bel⟩
  · have hsm := HQ.out (by omega)
    have HTD := Lib.hid (fun W (hb : Below w.heap.size w W) => to_update (.agg #[vx, vh]) u W ((HV.out.below hb).more hb.size) hsm.1 hsm.2.2)
    have HN := Lib.hid hsm.fit
    clear hsm
    go_wp2_with fail
    refine (HTD.out _ HL.out.bel).mono ?_
    intro e w2 h2
    obtain ⟨A1, c1, A2, c2, rfl, ho, hb2⟩ := h2.parts
    replace HL := Lib.hid (HL.out.lift hb2)
    have HO := Lib.hid ho; clear h2 ho hb2 x0 x1
    go_wp2_with fail
    refine (spec_updBytes _ u _ HO.out.at_ HN.out HHU.out).mono ?_
    rintro e w3 ⟨rfl, hb3⟩
    replace HL := Lib.hid (HL.out.lift hb3); clear hb3 HO
    obtain ⟨x0, x1⟩ := box2 (HL.out.blk _ List.mem_cons_self)
    go_wp2_with fail
    refine (HTD.out _ HL.out.bel).mono ?_
    intro e w4 h4
    obtain ⟨B1, e1, B2, e2, rfl, ho, hb4⟩ := h4.parts
    have HL4 := Lib.hid ((HL.out.lift hb4).alloc (.cells #[.slice B1 u.X.length e1, .slice B2 u.H.length e2] 37))
    have HO := Lib.hid (ho.at_.lift (ball (Below.refl _ _) (.cells #[.slice B1 u.X.length e1, .slice B2 u.H.length e2] 37) (Nat.le_refl _)))
    clear h4 ho hb4 x0 x1 HL
    go_wp2_with fail
    refine (impl_updBytes _ u _ HO.out HN.out HHU.out).mono ?_
    rintro e w5 ⟨rfl, hb5⟩
    have HO5 := Lib.hid (HO.out.lift hb5)
    have HL := Lib.hid (((HL4.out.lift hb5)).add (p := fun W => w5.heap.size ≤ W.heap.size ∧ UpAt W w5.heap.size (.agg #[.slice B1 u.X.length e1, .slice B2 u.H.length e2]) u) ⟨Nat.le_refl _, HO5.out⟩ (fun _ _ hb h => ⟨Nat.le_trans h.1 hb.size, h.2.below (hb.mono h.1)⟩))
    clear hb5 HL4 HO HO5
    generalize updBy u = b
    have hbb : (b.toList != b.toList) = false := by simp
    have hbb2 : (b.toList == b.toList) = true := by simp
    go_upto_region 10 with fail
    refine wp_region_calm_lg [(2, (fun u' => ∃ C1 f1 C2 f2, u' = .agg #[.slice C1 u.X.length f1, .slice C2 u.H.length f2]), fun u' W => UpAt W W.heap.size u' u), (3, (fun u' => u' = .bool true), fun _ _ => True)] (by kernel_rfl) (by kernel_rfl) (by intro x hx v; simp only [List.mem_cons, List.not_mem_nil, or_false] at hx; rcases hx with rfl | rfl; exact fun W W' hb h => UpAt.lift h hb; exact fun _ _ _ h => h) HL.out ?_
    repeat (first
      | (refine calm_skip (by rfl) ?_; try simp only [Act.put, List.setIfInBounds_toArray, List.set_cons_zero, List.set_cons_succ])
      | (refine calm_plain (by rfl) (by rfl) ?_; apply Exists.intro; refine ⟨fun wc hC hD => ?_, ?_⟩; (focus (clear hD; obtain ⟨y0, y1⟩ := box2 (hC.blk _ List.mem_cons_self); obtain ⟨x0, x1⟩ := box2 (hC.blk _ (List.mem_cons_of_mem _ List.mem_cons_self)); clear hC; go_simp; first | done | with_reducible rfl)); try simp only [Act.put, List.setIfInBounds_toArray, List.set_cons_zero, List.set_cons_succ]))
    refine calm_call _ _ (by rfl) (by rfl) ?_ ?_
    focus
      apply Exists.intro
      apply Exists.intro
      refine ⟨fun wc hC hD => ?_, fun wc hC hD => ?_⟩
      focus (clear hD; obtain ⟨y0, y1⟩ := box2 (hC.blk _ List.mem_cons_self); obtain ⟨x0, x1⟩ := box2 (hC.blk _ (List.mem_cons_of_mem _ List.mem_cons_self)); clear hC; go_simp; first | done | with_reducible exact ⟨rfl, rfl⟩ | with_reducible rfl)
      clear hD
      with_reducible refine (HTD.out _ hC.bel).mono ?_
      intro e wx h
      obtain ⟨C1, f1, C2, f2, rfl, ho, hb⟩ := h.parts
      exact ⟨_, rfl, hb, ⟨_, _, _, _, rfl⟩, ho.at_⟩
    rintro _ ⟨C1, f1, C2, f2, rfl⟩
    try simp only [Act.put, List.setIfInBounds_toArray, List.set_cons_zero, List.set_cons_succ]
    repeat (first
      | (refine calm_skip (by rfl) ?_; try simp only [Act.put, List.setIfInBounds_toArray, List.set_cons_zero, List.set_cons_succ])
      | (refine calm_plain (by rfl) (by rfl) ?_; apply Exists.intro; refine ⟨fun wc hC hD => ?_, ?_⟩; (focus (clear hD; obtain ⟨y0, y1⟩ := box2 (hC.blk _ List.mem_cons_self); obtain ⟨x0, x1⟩ := box2 (hC.blk _ (List.mem_cons_of_mem _ List.mem_cons_self)); clear hC; go_simp; first | done | with_reducible rfl)); try simp only [Act.put, List.setIfInBounds_toArray, List.set_cons_zero, List.set_cons_succ]))
    refine calm_call _ _ (by rfl) (by rfl) ?_ ?_
    focus
      apply Exists.intro
      apply Exists.intro
      refine ⟨fun wc hC hD => ?_, fun wc hC hD => ?_⟩
      focus (clear hD; obtain ⟨y0, y1⟩ := box2 (hC.blk _ List.mem_cons_self); obtain ⟨x0, x1⟩ := box2 (hC.blk _ (List.mem_cons_of_mem _ List.mem_cons_self)); clear hC; go_simp; first | done | with_reducible exact ⟨rfl, rfl⟩ | with_reducible rfl)
      have ha := Deps.get hD 2 (by kernel_rfl)
      simp [upd, noF] at ha
      clear hD
      have hn := hC.now _ List.mem_cons_self
      with_reducible refine (eq_update _ _ u _ (hn.2.more hn.1) ha HN.out).mono ?_
      rintro e wx ⟨rfl, hb⟩
      exact ⟨_, rfl, hb, rfl, trivial⟩
    rintro _ rfl
    try simp only [Act.put, List.setIfInBounds_toArray, List.set_cons_zero, List.set_cons_succ]
    repeat (first
      | (refine calm_skip (by rfl) ?_; try simp only [Act.put, List.setIfInBounds_toArray, List.set_cons_zero, List.set_cons_succ])
      | (refine calm_plain (by rfl) (by rfl) ?_; apply Exists.intro; refine ⟨fun wc hC hD => ?_, ?_⟩; (focus (clear hD; obtain ⟨y0, y1⟩ := box2 (hC.blk _ List.mem_cons_self); obtain ⟨x0, x1⟩ := box2 (hC.blk _ (List.mem_cons_of_mem _ List.mem_cons_self)); clear hC; go_simp; first | done | with_reducible rfl)); try simp only [Act.put, List.setIfInBounds_toArray, List.set_cons_zero, List.set_cons_succ]))
    refine calm_end ?_
    intro w7 hL7 hF7
    clear hF7
    replace HL := Lib.hid hL7
    clear hL7
    go_wp2
    go_ret
    exact ⟨rfl, HL.out.bel⟩

theorem laidOut : laidOutB Try.prog = true := by kernel_rfl
theorem own : ownKnob Try.prog.godebug = none := by kernel_rfl

set_option maxRecDepth 100000 in
theorem lifted (os : Os) (started : os.Started) (H : Type) (enc : TypeId × Value → H) :
    ReturnsInHanded {} Try.checked os 9 .any (Rows.fnExactUpdateBytesSpec.pre6 enc Try.prog Try.f9 Rows.fnExactUpdateBytesRow.domain false) (Rows.fnExactUpdateBytesSpec.post enc Try.prog Try.f9 false true false false) := by
  refine returnsInHanded_of_change (C := Try.checked) own started (by kernel_rfl) Try.func9
    (ChangeSpec.witness6 (enc := enc) (C := Try.checked) false ⟨#[], #[.agg #[.slice none 0 0, .slice none 0 0]], []⟩ 8 (by kernel_rfl) (by kernel_rfl) (by kernel_rfl) (by kernel_rfl)) ?_
  intro W base args ds gs before hval0 hW hcnd _
  have hval : ∀ (j : Nat) t v, Try.f9.params[j]? = some t → args[j]? = some v → Value.okWide Try.prog W .any base t v := hval0
  have hW' := hW
  obtain ⟨p, q, hA0, hV, rfl, hfz, hnd⟩ := hW
  have hA : DataW.TrodAll enc Try.prog W 0 (fun _ => true) true Try.f9.params.toList args.toList ds p := hA0
  rw [Try.params9] at hA hval
  obtain ⟨v0, vs0, d0, ds0, p0, q0, hargs, rfl, rfl, h0, r0⟩ := trodAll_cons hA
  obtain ⟨rfl, rfl, rfl⟩ := trodAll_nil r0
  obtain rfl : args = #[v0] := by cases args; simp_all
  obtain ⟨rfl, rfl⟩ := trodVars_none hV
  have k0 := h0
  have lt0 : ∀ x ∈ p0, x.block < W.heap.size := by obtain ⟨m, hm⟩ := k0; exact DataW.trod_lt m _ _ _ hm
  obtain ⟨a0, w0, z0⟩ := came_update (hval 0 63 v0 rfl rfl) h0
  clear hA0 hval0
  simp only [List.append_nil] at hW'
  refine (walk v0 a0 W w0 z0).mono fun e W' ⟨he, bel⟩ => ?_
  subst he
  exact ⟨_, rfl, _, _, _, [], _, [], hW', trodAll_mk1 (shut_bool Try.underlying4 _), (trodAll_cons_mk (Below.trod laidOut (by kernel_rfl) (of_decide_eq_true (by kernel_rfl)) k0 bel lt0) trodAll_mk0), rfl, bel.frame _, fun h => by cases h⟩

theorem over : Rows.fnExactUpdateBytesRow.holds Try.pinned (OpenSpec.ofChange Rows.fnExactUpdateBytesSpec) :=
  OpenClaim.holds_of_wide 9 Try.f9 rfl rfl rfl rfl rfl rfl rfl ⟨rfl, rfl, rfl, rfl, rfl⟩ rfl rfl rfl rfl rfl (by kernel_rfl) Try.func9 (by kernel_rfl)
    (of_decide_eq_true (by kernel_rfl)) (by unfold Func.isWrapper; first | (rw [if_pos (by decide +kernel)]; kernel_rfl) | (rw [if_neg (by decide +kernel)]; exact ⟨rfl, rfl⟩))
    (fun os started H enc _ => lifted os started H enc)

theorem proved : Rows.FnExactUpdateBytesSaid := over
#print axioms proved
end Go.Proofs.Ytaggmcdfggmlhaa.FnExactUpdateBytes
