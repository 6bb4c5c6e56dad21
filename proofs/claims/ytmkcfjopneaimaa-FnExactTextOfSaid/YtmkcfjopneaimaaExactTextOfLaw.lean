/-
  Whatever doc comes in, TextOf of the program tells what the model tells, and leaves what was handed in as it was. No condition.
-/
import Derived.Test.YtmkcfjopneaimaaRows
import Derived.Test.YtmkcfjopneaimaaOpenDoc
import Derived.Test.YtmkcfjopneaimaaText
import Derived.WalkKit
import Derived.ProofKit
import Derived.OpenShut
import Derived.ShutString
import Derived.ChangeOld
import Derived.Below
import Derived.Lib.Hide
namespace Go.Proofs.Ytmkcfjopneaimaa.FnExactTextOf
open Go.ChangeShapes Go.WideShapes Go.ChangeAt Go.RowKit
open Go.ChangeMaps (open_string shut_string)
set_option linter.unusedVariables false

set_option maxRecDepth 100000 in
set_option maxHeartbeats 4000000 in
theorem walk (v : Value) (d : Dc) (w : World) (hv : DcAt w w.heap.size v d) (hd : HeldD d) :
    Calls Try.prog 5 #[v] w fun e w' => e = .returned (.bool true) ∧ Below w.heap.size w w' := by
  have HSZ := Lib.hid (fun W (hb : Below w.heap.size w W) => sz_doc v d W W.heap.size ((hv.below hb).more hb.size) (Nat.le_refl _) hd)
  have HTX := Lib.hid (show (∀ x ∈ d.X, x.t.size ≤ maxLen) ∧ ∀ x ∈ d.P, x.t.size ≤ maxLen from ⟨fun x h => (hd.2.1 x h).2.2.2, fun x h => (hd.2.2.2.1 x h).2.2.2⟩)
  obtain ⟨vx, vp, vh, rfl, hx, hp, hh⟩ := hv
  have HV := Lib.hid (show DcAt w w.heap.size (.agg #[vx, vp, vh]) d from ⟨vx, vp, vh, rfl, hx, hp, hh⟩)
  clear hx hp hh hd
  have HL := Lib.hid ((Lg.start w).alloc (.cells #[vx, vp, vh] 36))
  go_enter Try.func5, Try.ntmps5
  go_wp2_with fail
  refine (HSZ.out _ HL.out.bel).mono ?_
  rintro e w1 ⟨r, rfl, r0, r1, hq, hb1⟩
  replace HL := Lib.hid (HL.out.lift hb1)
  have HQ := Lib.hid hq; clear hq hb1
  by_cases hr : r < 0
  · go_wp2
    go_ret
    exact ⟨rfl, HL.out.bel⟩
  · obtain ⟨q1, q2, q3, q4, q5⟩ := HQ.out (by omega)
    have HTD := Lib.hid (fun W (hb : Below w.heap.size w W) => to_doc (.agg #[vx, vp, vh]) d W ((HV.out.below hb).more hb.size) q1 q3 q5)
    have HF := Lib.hid (show Fit d from ⟨⟨by omega, by omega, by omega⟩, HTX.out⟩)
    clear q2 q4
    obtain ⟨p, hp⟩ : ∃ p, p = textD d := ⟨_, rfl⟩
    have HPP := Lib.hid hp; clear hp
    have hpp : (p.toList != p.toList) = false := by simp
    have hpq : (p.toList == p.toList) = true := by simp
    obtain ⟨x0, x1, x2⟩ := box3 (HL.out.blk _ List.mem_cons_self)
    go_wp2_with fail
    refine (HTD.out _ HL.out.bel).mono ?_
    intro e w2 h2
    obtain ⟨C1, f1, C2, f2, C3, f3, rfl, ho, hb⟩ := h2.parts
    replace HL := Lib.hid (HL.out.lift hb)
    have HO := Lib.hid ho.at_; clear h2 ho hb x0 x1 x2
    go_wp2_with fail
    refine (spec_textOf _ d _ HO.out HF.out).mono ?_
    rintro e w3 ⟨rfl, hb⟩
    replace HL := Lib.hid (HL.out.lift hb); clear hb HO
    rw [← HPP.out]
    obtain ⟨x0, x1, x2⟩ := box3 (HL.out.blk _ List.mem_cons_self)
    go_wp2_with fail
    refine (HTD.out _ HL.out.bel).mono ?_
    intro e w4 h4
    obtain ⟨B1, e1, B2, e2, B3, e3, rfl, ho, hb4⟩ := h4.parts
    have HL4 := Lib.hid ((HL.out.lift hb4).alloc (.cells #[.slice B1 d.X.length e1, .slice B2 d.P.length e2, .slice B3 d.H.length e3] 42))
    have HO := Lib.hid (ho.at_.up (.cells #[.slice B1 d.X.length e1, .slice B2 d.P.length e2, .slice B3 d.H.length e3] 42))
    generalize hw5 : w4.alloc (.cells #[.slice B1 d.X.length e1, .slice B2 d.P.length e2, .slice B3 d.H.length e3] 42) = w5 at HL4 HO
    have HW5 := Lib.hid hw5
    replace HL := Lib.hid (HL4.out.add (p := fun W => w5.heap.size ≤ W.heap.size ∧ DcAt W w5.heap.size (.agg #[.slice B1 d.X.length e1, .slice B2 d.P.length e2, .slice B3 d.H.length e3]) d) ⟨Nat.le_refl _, HO.out⟩ (fun _ _ hb h => ⟨Nat.le_trans h.1 hb.size, h.2.below (hb.mono h.1)⟩))
    clear h4 ho hb4 HL4 HO hw5
    clear x0 x1 x2
    have hn := HL.out.now _ List.mem_cons_self
    go_upto_region 7 with fail
    rw [HW5.out]
    obtain ⟨y0, y1, y2⟩ := box3 (HL.out.blk _ List.mem_cons_self)
    go_wp2_with fail
    refine (impl_textOf _ d _ (hn.2.more hn.1) HF.out).mono ?_
    rintro e w8 ⟨rfl, hb⟩
    replace HL := Lib.hid (HL.out.lift hb); clear hb hn y0 y1 y2
    rw [← HPP.out]
    go_upto_region 10 with fail
    refine wp_region_calm_lg [(2, (fun u => ∃ C1 f1 C2 f2 C3 f3, u = .agg #[.slice C1 d.X.length f1, .slice C2 d.P.length f2, .slice C3 d.H.length f3]), fun u W => DcAt W W.heap.size u d), (3, (fun u => u = .bool true), fun _ _ => True)] (by kernel_rfl) (by kernel_rfl) (by intro x hx v; simp only [List.mem_cons, List.not_mem_nil, or_false] at hx; rcases hx with rfl | rfl; exact fun W W' hb h => (h.below hb).more hb.size; exact fun _ _ _ h => h) HL.out ?_
    repeat (first
      | (refine calm_skip (by rfl) ?_; try simp only [Act.put, List.setIfInBounds_toArray, List.set_cons_zero, List.set_cons_succ])
      | (refine calm_plain (by rfl) (by rfl) ?_; apply Exists.intro; refine ⟨fun wc hC hD => ?_, ?_⟩; (focus (clear hD; obtain ⟨y0, y1, y2⟩ := box3 (hC.blk _ List.mem_cons_self); obtain ⟨x0, x1, x2⟩ := box3 (hC.blk _ (List.mem_cons_of_mem _ List.mem_cons_self)); clear hC; go_simp; first | done | with_reducible rfl)); try simp only [Act.put, List.setIfInBounds_toArray, List.set_cons_zero, List.set_cons_succ]))
    refine calm_call _ _ (by rfl) (by rfl) ?_ ?_
    focus
      apply Exists.intro
      apply Exists.intro
      refine ⟨fun wc hC hD => ?_, fun wc hC hD => ?_⟩
      focus (clear hD; obtain ⟨y0, y1, y2⟩ := box3 (hC.blk _ List.mem_cons_self); obtain ⟨x0, x1, x2⟩ := box3 (hC.blk _ (List.mem_cons_of_mem _ List.mem_cons_self)); clear hC; go_simp; first | done | with_reducible exact ⟨rfl, rfl⟩)
      clear hD
      with_reducible refine (HTD.out _ hC.bel).mono ?_
      intro e wx h
      obtain ⟨C1, f1, C2, f2, C3, f3, rfl, ho, hb⟩ := h.parts
      exact ⟨_, rfl, hb, ⟨_, _, _, _, _, _, rfl⟩, ho.at_⟩
    rintro _ ⟨C1, f1, C2, f2, C3, f3, rfl⟩
    try simp only [Act.put, List.setIfInBounds_toArray, List.set_cons_zero, List.set_cons_succ]
    repeat (first
      | (refine calm_skip (by rfl) ?_; try simp only [Act.put, List.setIfInBounds_toArray, List.set_cons_zero, List.set_cons_succ])
      | (refine calm_plain (by rfl) (by rfl) ?_; apply Exists.intro; refine ⟨fun wc hC hD => ?_, ?_⟩; (focus (clear hD; obtain ⟨y0, y1, y2⟩ := box3 (hC.blk _ List.mem_cons_self); obtain ⟨x0, x1, x2⟩ := box3 (hC.blk _ (List.mem_cons_of_mem _ List.mem_cons_self)); clear hC; go_simp; first | done | with_reducible rfl)); try simp only [Act.put, List.setIfInBounds_toArray, List.set_cons_zero, List.set_cons_succ]))
    refine calm_call _ _ (by rfl) (by rfl) ?_ ?_
    focus
      apply Exists.intro
      apply Exists.intro
      refine ⟨fun wc hC hD => ?_, fun wc hC hD => ?_⟩
      focus (clear hD; obtain ⟨y0, y1, y2⟩ := box3 (hC.blk _ List.mem_cons_self); obtain ⟨x0, x1, x2⟩ := box3 (hC.blk _ (List.mem_cons_of_mem _ List.mem_cons_self)); clear hC; go_simp; first | done | with_reducible exact ⟨rfl, rfl⟩)
      have ha := Deps.get hD 2 (by kernel_rfl)
      simp [upd, noF] at ha
      clear hD
      have hn := hC.now _ List.mem_cons_self
      with_reducible refine (eq_docF _ _ d _ (hn.2.more hn.1) ha HF.out).mono ?_
      rintro e wx ⟨rfl, hb⟩
      exact ⟨_, rfl, hb, rfl, trivial⟩
    rintro _ rfl
    try simp only [Act.put, List.setIfInBounds_toArray, List.set_cons_zero, List.set_cons_succ]
    repeat (first
      | (refine calm_skip (by rfl) ?_; try simp only [Act.put, List.setIfInBounds_toArray, List.set_cons_zero, List.set_cons_succ])
      | (refine calm_plain (by rfl) (by rfl) ?_; apply Exists.intro; refine ⟨fun wc hC hD => ?_, ?_⟩; (focus (clear hD; obtain ⟨y0, y1, y2⟩ := box3 (hC.blk _ List.mem_cons_self); obtain ⟨x0, x1, x2⟩ := box3 (hC.blk _ (List.mem_cons_of_mem _ List.mem_cons_self)); clear hC; go_simp; first | done | with_reducible rfl)); try simp only [Act.put, List.setIfInBounds_toArray, List.set_cons_zero, List.set_cons_succ]))
    refine calm_end ?_
    intro w9 hL7 hF7
    clear hF7
    replace HL := Lib.hid hL7
    clear hL7
    go_wp2
    go_ret
    exact ⟨rfl, HL.out.bel⟩

theorem laidOut : laidOutB Try.prog = true := by kernel_rfl
theorem own : ownKnob Try.prog.godebug = none := by kernel_rfl

set_option maxRecDepth 100000 in
theorem lifted (os : Os) (started : os.Started) (H : Type) (enc : TypeId × Value → H) :
    ReturnsInHanded {} Try.checked os 5 .any (Rows.fnExactTextOfSpec.pre6 enc Try.prog Try.f5 Rows.fnExactTextOfRow.domain false) (Rows.fnExactTextOfSpec.post enc Try.prog Try.f5 false true false false) := by
  refine returnsInHanded_of_change (C := Try.checked) own started (by kernel_rfl) Try.func5
    (ChangeSpec.witness6 (enc := enc) (C := Try.checked) false ⟨#[], #[.agg #[.slice none 0 0, .slice none 0 0, .slice none 0 0]], []⟩ 8 (by kernel_rfl) (by kernel_rfl) (by kernel_rfl) (by kernel_rfl)) ?_
  intro W base args ds gs before hval0 hW hcnd _
  have hval : ∀ (j : Nat) t v, Try.f5.params[j]? = some t → args[j]? = some v → Value.okWide Try.prog W .any base t v := hval0
  have hW' := hW
  obtain ⟨p, q, hA0, hV, rfl, hfz, hnd⟩ := hW
  have hA : DataW.TrodAll enc Try.prog W 0 (fun _ => true) true Try.f5.params.toList args.toList ds p := hA0
  rw [Try.params5] at hA hval
  obtain ⟨v0, vs0, d0, ds0, p0, q0, hargs, rfl, rfl, h0, r0⟩ := trodAll_cons hA
  obtain ⟨rfl, rfl, rfl⟩ := trodAll_nil r0
  obtain rfl : args = #[v0] := by cases args; simp_all
  obtain ⟨rfl, rfl⟩ := trodVars_none hV
  have k0 := h0
  have lt0 : ∀ x ∈ p0, x.block < W.heap.size := by obtain ⟨m, hm⟩ := k0; exact DataW.trod_lt m _ _ _ hm
  obtain ⟨a0, w0, z0⟩ := came_doc (hval 0 36 v0 rfl rfl) h0
  clear hA0 hval0
  simp only [List.append_nil] at hW'
  refine (walk v0 a0 W w0 z0).mono fun e W' ⟨he, bel⟩ => ?_
  subst he
  exact ⟨_, rfl, _, _, _, [], _, [], hW', trodAll_mk1 (shut_bool Try.underlying4 _), (trodAll_cons_mk (Below.trod laidOut (by kernel_rfl) (of_decide_eq_true (by kernel_rfl)) k0 bel lt0) trodAll_mk0), rfl, bel.frame _, fun h => by cases h⟩

theorem over : Rows.fnExactTextOfRow.holds Try.pinned (OpenSpec.ofChange Rows.fnExactTextOfSpec) :=
  OpenClaim.holds_of_wide 5 Try.f5 rfl rfl rfl rfl rfl rfl rfl ⟨rfl, rfl, rfl, rfl, rfl⟩ rfl rfl rfl rfl rfl (by kernel_rfl) Try.func5 (by kernel_rfl)
    (of_decide_eq_true (by kernel_rfl)) (by unfold Func.isWrapper; first | (rw [if_pos (by decide +kernel)]; kernel_rfl) | (rw [if_neg (by decide +kernel)]; exact ⟨rfl, rfl⟩))
    (fun os started H enc _ => lifted os started H enc)

theorem proved : Rows.FnExactTextOfSaid := over
#print axioms proved
end Go.Proofs.Ytmkcfjopneaimaa.FnExactTextOf
