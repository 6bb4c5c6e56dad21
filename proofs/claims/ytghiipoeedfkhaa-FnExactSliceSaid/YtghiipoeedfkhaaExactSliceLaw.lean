/-
  Whatever doc and whatever two numbers come in, Slice of the program tells what the model tells, and leaves what was handed in as it was. No condition.
-/
import Derived.Test.YtghiipoeedfkhaaRows
import Derived.Test.YtghiipoeedfkhaaOpenDoc
import Derived.Test.YtghiipoeedfkhaaSlc
import Derived.WalkKit
import Derived.ProofKit
import Derived.OpenShut
import Derived.ShutString
import Derived.ChangeOld
import Derived.Below
import Derived.Lib.Hide
namespace Go.Proofs.Ytghiipoeedfkhaa.FnExactSlice
open Go.ChangeShapes Go.WideShapes Go.ChangeAt Go.RowKit
open Go.ChangeMaps (open_string shut_string)
set_option linter.unusedVariables false

set_option maxRecDepth 100000 in
set_option maxHeartbeats 4000000 in
theorem walk (v : Value) (d : Dc) (a : Int) (ha : (Lit.int .i64 a).wf = true) (b : Int) (hbb : (Lit.int .i64 b).wf = true) (w : World) (hv : DcAt w w.heap.size v d) (hd : HeldD d) :
    Calls Try.prog 8 #[v, .int .i64 a, .int .i64 b] w fun e w' => e = .returned (.bool true) ∧ Below w.heap.size w w' := by
  clear ha hbb
  have HSZ := Lib.hid (fun W (hb : Below w.heap.size w W) => sz_doc v d W W.heap.size ((hv.below hb).more hb.size) (Nat.le_refl _) hd)
  have HTX := Lib.hid (show (∀ x ∈ d.X, x.t.size ≤ maxLen) ∧ ∀ x ∈ d.P, x.t.size ≤ maxLen from ⟨fun x h => (hd.2.1 x h).2.2.2, fun x h => (hd.2.2.2.1 x h).2.2.2⟩)
  obtain ⟨vx, vp, vh, rfl, hx, hp, hh⟩ := hv
  have HV := Lib.hid (show DcAt w w.heap.size (.agg #[vx, vp, vh]) d from ⟨vx, vp, vh, rfl, hx, hp, hh⟩)
  clear hx hp hh hd
  have HL := Lib.hid ((Lg.start w).alloc (.cells #[vx, vp, vh] 46))
  go_enter Try.func8, Try.ntmps8
  go_wp2_with fail
  refine (HSZ.out _ HL.out.bel).mono ?_
  rintro e w1 ⟨r, rfl, r0, r1, hq, hb1⟩
  replace HL := Lib.hid (HL.out.lift hb1)
  have HQ := Lib.hid hq; clear hq hb1
  by_cases hr : r < 0
  · go_wp2
    go_ret
    exact ⟨rfl, HL.out.bel⟩
  · obtain ⟨q1, q2, q3, q4, q5⟩ := HQ.out (by omega)
    have HTD := Lib.hid (fun W (hb : Below w.heap.size w W) => to_doc (.agg #[vx, vp, vh]) d W ((HV.out.below hb).more hb.size) q1 q3 q5)
    have HF := Lib.hid (show Fit d from ⟨⟨by omega, by omega, by omega⟩, HTX.out⟩)
    clear q2 q4
    obtain ⟨p, hp⟩ : ∃ p, p = sliceD d a b := ⟨_, rfl⟩
    have HPP := Lib.hid hp; clear hp
    have hpp : (p.toList != p.toList) = false := by simp
    have hpq : (p.toList == p.toList) = true := by simp
    obtain ⟨x0, x1, x2⟩ := box3 (HL.out.blk _ List.mem_cons_self)
    go_wp2_with fail
    refine (HTD.out _ HL.out.bel).mono ?_
    intro e w2 h2
    obtain ⟨C1, f1, C2, f2, C3, f3, rfl, ho, hb⟩ := h2.parts
    replace HL := Lib.hid (HL.out.lift hb)
    have HO := Lib.hid ho.at_; clear h2 ho hb x0 x1 x2
    go_wp2_with fail
    refine (spec_slice _ d a b _ HO.out HF.out).mono ?_
    rintro e w3 ⟨rfl, hb⟩
    replace HL := Lib.hid (HL.out.lift hb); clear hb HO
    rw [← HPP.out]
    obtain ⟨x0, x1, x2⟩ := box3 (HL.out.blk _ List.mem_cons_self)
    go_wp2_with fail
    refine (HTD.out _ HL.out.bel).mono ?_
    intro e w4 h4
    obtain ⟨B1, e1, B2, e2, B3, e3, rfl, ho, hb4⟩ := h4.parts
    have HL4 := Lib.hid ((HL.out.lift hb4).alloc (.cells #[.slice B1 d.X.length e1, .slice B2 d.P.length e2, .slice B3 d.H.length e3] 29))
    have HO := Lib.hid (ho.at_.up (.cells #[.slice B1 d.X.length e1, .slice B2 d.P.length e2, .slice B3 d.H.length e3] 29))
    generalize hw5 : w4.alloc (.cells #[.slice B1 d.X.length e1, .slice B2 d.P.length e2, .slice B3 d.H.length e3] 29) = w5 at HL4 HO
    have HW5 := Lib.hid hw5
    replace HL := Lib.hid (HL4.out.add (p := fun W => w5.heap.size ≤ W.heap.size ∧ DcAt W w5.heap.size (.agg #[.slice B1 d.X.length e1, .slice B2 d.P.length e2, .slice B3 d.H.length e3]) d) ⟨Nat.le_refl _, HO.out⟩ (fun _ _ hb h => ⟨Nat.le_trans h.1 hb.size, h.2.below (hb.mono h.1)⟩))
    clear h4 ho hb4 HL4 HO hw5
    clear x0 x1 x2
    have hn := HL.out.now _ List.mem_cons_self
    go_upto_region 7 with fail
    rw [HW5.out]
    obtain ⟨y0, y1, y2⟩ := box3 (HL.out.blk _ List.mem_cons_self)
    go_wp2_with fail
    refine (impl_slice _ d a b _ (hn.2.more hn.1) HF.out (by have := textD_len d; omega)).mono ?_
    rintro e w8 ⟨rfl, hb⟩
    replace HL := Lib.hid (HL.out.lift hb); clear hb hn y0 y1 y2
    rw [← HPP.out]
    go_upto_region 10 with fail
    refine wp_region_calm_lg [(2, (fun u => ∃ C1 f1 C2 f2 C3 f3, u = .agg #[.slice C1 d.X.length f1, .slice C2 d.P.length f2, .slice C3 d.H.length f3]), fun u W => DcAt W W.heap.size u d), (3, (fun u => u = .bool true), fun _ _ => True)] (by kernel_rfl) (by kernel_rfl) (by intro x hx v; simp only [List.mem_cons, List.not_mem_nil, or_false] at hx; rcases hx with rfl | rfl; exact fun W W' hb h => (h.below hb).more hb.size; exact fun _ _ _ h => h) HL.out ?_
    repeat (first
      | (refine calm_skip (by rfl) ?_; try simp only [Act.put, List.setIfInBounds_toArray, List.set_cons_zero, List.set_cons_succ])
      | (refine calm_plain (by rfl) (by rfl) ?_; apply Exists.intro; refine ⟨fun wc hC hD => ?_, ?_⟩; (focus (clear hD; obtain ⟨y0, y1, y2⟩ := box3 (hC.blk _ List.mem_cons_self); obtain ⟨x0, x1, x2⟩ := box3 (hC.blk _ (List.mem_cons_of_mem _ List.mem_cons_self)); clear hC; go_simp; first | done | with_reducible rfl)); try simp only [Act.put, List.setIfInBounds_toArray, List.set_cons_zero, List.set_cons_succ]))
    refine calm_call _ _ (by rfl) (by rfl) ?_ ?_
    focus
      apply Exists.intro
      apply Exists.intro
      refine ⟨fun wc hC hD => ?_, fun wc hC hD => ?_⟩
      focus (clear hD; obtain ⟨y0, y1, y2⟩ := box3 (hC.blk _ List.mem_cons_self); obtain ⟨x0, x1, x2⟩ := box3 (hC.blk _ (List.mem_cons_of_mem _ List.mem_cons_self)); clear hC; go_simp; first | done | with_reducible exact ⟨rfl, rfl⟩)
      clear hD
      with_reducible refine (HTD.out _ hC.bel).mono ?_
      intro e wx h
      obtain ⟨C1, f1, C2, f2, C3, f3, rfl, ho, hb⟩ := h.parts
      exact ⟨_, rfl, hb, ⟨_, _, _, _, _, _, rfl⟩, ho.at_⟩
    rintro _ ⟨C1, f1, C2, f2, C3, f3, rfl⟩
    try simp only [Act.put, List.setIfInBounds_toArray, List.set_cons_zero, List.set_cons_succ]
    repeat (first
      | (refine calm_skip (by rfl) ?_; try simp only [Act.put, List.setIfInBounds_toArray, List.set_cons_zero, List.set_cons_succ])
      | (refine calm_plain (by rfl) (by rfl) ?_; apply Exists.intro; refine ⟨fun wc hC hD => ?_, ?_⟩; (focus (clear hD; obtain ⟨y0, y1, y2⟩ := box3 (hC.blk _ List.mem_cons_self); obtain ⟨x0, x1, x2⟩ := box3 (hC.blk _ (List.mem_cons_of_mem _ List.mem_cons_self)); clear hC; go_simp; first | done | with_reducible rfl)); try simp only [Act.put, List.setIfInBounds_toArray, List.set_cons_zero, List.set_cons_succ]))
    refine calm_call _ _ (by rfl) (by rfl) ?_ ?_
    focus
      apply Exists.intro
      apply Exists.intro
      refine ⟨fun wc hC hD => ?_, fun wc hC hD => ?_⟩
      focus (clear hD; obtain ⟨y0, y1, y2⟩ := box3 (hC.blk _ List.mem_cons_self); obtain ⟨x0, x1, x2⟩ := box3 (hC.blk _ (List.mem_cons_of_mem _ List.mem_cons_self)); clear hC; go_simp; first | done | with_reducible exact ⟨rfl, rfl⟩)
      have ha := Deps.get hD 2 (by kernel_rfl)
      simp [upd, noF] at ha
      clear hD
      have hn := hC.now _ List.mem_cons_self
      with_reducible refine (eq_docF _ _ d _ (hn.2.more hn.1) ha HF.out).mono ?_
      rintro e wx ⟨rfl, hb⟩
      exact ⟨_, rfl, hb, rfl, trivial⟩
    rintro _ rfl
    try simp only [Act.put, List.setIfInBounds_toArray, List.set_cons_zero, List.set_cons_succ]
    repeat (first
      | (refine calm_skip (by rfl) ?_; try simp only [Act.put, List.setIfInBounds_toArray, List.set_cons_zero, List.set_cons_succ])
      | (refine calm_plain (by rfl) (by rfl) ?_; apply Exists.intro; refine ⟨fun wc hC hD => ?_, ?_⟩; (focus (clear hD; obtain ⟨y0, y1, y2⟩ := box3 (hC.blk _ List.mem_cons_self); obtain ⟨x0, x1, x2⟩ := box3 (hC.blk _ (List.mem_cons_of_mem _ List.mem_cons_self)); clear hC; go_simp; first | done | with_reducible rfl)); try simp only [Act.put, List.setIfInBounds_toArray, List.set_cons_zero, List.set_cons_succ]))
    refine calm_end ?_
    intro w9 hL7 hF7
    clear hF7
    replace HL := Lib.hid hL7
    clear hL7
    go_wp2
    go_ret
    exact ⟨rfl, HL.out.bel⟩

theorem laidOut : laidOutB Try.prog = true := by kernel_rfl
theorem own : ownKnob Try.prog.godebug = none := by kernel_rfl

set_option maxRecDepth 100000 in
theorem lifted (os : Os) (started : os.Started) (H : Type) (enc : TypeId × Value → H) :
    ReturnsInHanded {} Try.checked os 8 .any (Rows.fnExactSliceSpec.pre6 enc Try.prog Try.f8 Rows.fnExactSliceRow.domain false) (Rows.fnExactSliceSpec.post enc Try.prog Try.f8 false true false false) := by
  refine returnsInHanded_of_change (C := Try.checked) own started (by kernel_rfl) Try.func8
    (ChangeSpec.witness6 (enc := enc) (C := Try.checked) false ⟨#[], #[.agg #[.slice none 0 0, .slice none 0 0, .slice none 0 0], .int .i64 0, .int .i64 0], []⟩ 8 (by kernel_rfl) (by kernel_rfl) (by kernel_rfl) (by kernel_rfl)) ?_
  intro W base args ds gs before hval0 hW hcnd _
  have hval : ∀ (j : Nat) t v, Try.f8.params[j]? = some t → args[j]? = some v → Value.okWide Try.prog W .any base t v := hval0
  have hW' := hW
  obtain ⟨p, q, hA0, hV, rfl, hfz, hnd⟩ := hW
  have hA : DataW.TrodAll enc Try.prog W 0 (fun _ => true) true Try.f8.params.toList args.toList ds p := hA0
  rw [Try.params8] at hA hval
  obtain ⟨v0, vs0, d0, ds0, p0, q0, hargs, rfl, rfl, h0, r0⟩ := trodAll_cons hA
  obtain ⟨v1, vs1, d1, ds1, p1, q1, rfl, rfl, rfl, h1, r1⟩ := trodAll_cons r0
  obtain ⟨v2, vs2, d2, ds2, p2, q2, rfl, rfl, rfl, h2, r2⟩ := trodAll_cons r1
  obtain ⟨rfl, rfl, rfl⟩ := trodAll_nil r2
  obtain rfl : args = #[v0, v1, v2] := by cases args; simp_all
  obtain ⟨rfl, rfl⟩ := trodVars_none hV
  have k0 := h0
  have lt0 : ∀ x ∈ p0, x.block < W.heap.size := by obtain ⟨m, hm⟩ := k0; exact DataW.trod_lt m _ _ _ hm
  obtain ⟨a0, w0, z0⟩ := came_doc (hval 0 46 v0 rfl rfl) h0
  obtain ⟨a1, rfl, rfl, rfl, w1⟩ := open_int Try.underlying2 (hval 1 2 v1 rfl rfl) h1
  obtain ⟨a2, rfl, rfl, rfl, w2⟩ := open_int Try.underlying2 (hval 2 2 v2 rfl rfl) h2
  clear hA0 hval0
  simp only [List.append_nil] at hW'
  refine (walk v0 a0 a1 w1 a2 w2 W w0 z0).mono fun e W' ⟨he, bel⟩ => ?_
  subst he
  exact ⟨_, rfl, _, _, _, [], _, [], hW', trodAll_mk1 (shut_bool Try.underlying4 _), (trodAll_cons_mk (Below.trod laidOut (by kernel_rfl) (of_decide_eq_true (by kernel_rfl)) k0 bel lt0) (trodAll_cons_mk (shut_int Try.underlying2 w1) (trodAll_cons_mk (shut_int Try.underlying2 w2) trodAll_mk0))), rfl, bel.frame _, fun h => by cases h⟩

theorem over : Rows.fnExactSliceRow.holds Try.pinned (OpenSpec.ofChange Rows.fnExactSliceSpec) :=
  OpenClaim.holds_of_wide 8 Try.f8 rfl rfl rfl rfl rfl rfl rfl ⟨rfl, rfl, rfl, rfl, rfl⟩ rfl rfl rfl rfl rfl (by kernel_rfl) Try.func8 (by kernel_rfl)
    (of_decide_eq_true (by kernel_rfl)) (by unfold Func.isWrapper; first | (rw [if_pos (by decide +kernel)]; kernel_rfl) | (rw [if_neg (by decide +kernel)]; exact ⟨rfl, rfl⟩))
    (fun os started H enc _ => lifted os started H enc)

theorem proved : Rows.FnExactSliceSaid := over
#print axioms proved
end Go.Proofs.Ytghiipoeedfkhaa.FnExactSlice
