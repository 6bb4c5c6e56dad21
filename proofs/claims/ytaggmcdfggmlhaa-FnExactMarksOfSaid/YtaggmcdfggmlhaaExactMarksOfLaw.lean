/-
  Whatever doc comes in, MarksOf of the program tells what the model tells, twice, and leaves what was handed in as it was; what it tells shares nothing with it. No condition.
-/
import Derived.Test.YtaggmcdfggmlhaaRows
import Derived.Test.YtaggmcdfggmlhaaOpenDoc
import Derived.Test.YtaggmcdfggmlhaaLawQ
import Derived.Test.YtaggmcdfggmlhaaMarkK
import Derived.Test.YtaggmcdfggmlhaaMksI
import Derived.WalkKit
import Derived.ProofKit
import Derived.OpenShut
import Derived.ShutString
import Derived.ChangeOld
import Derived.Below
import Derived.Lib.Hide
namespace Go.Proofs.Ytaggmcdfggmlhaa.FnExactMarksOf
open Go.ChangeShapes Go.WideShapes Go.ChangeAt Go.RowKit
open Go.ChangeMaps (open_string shut_string)
set_option linter.unusedVariables false

theorem marksD_len (d : Dc) : (marksD d).length ≤ d.X.length := by
  cases h : docB d with
  | true => rw [marksD_yes h]; exact marksTo_len d.X _ (Nat.le_refl _)
  | false => rw [marksD_no h]; simp

set_option maxRecDepth 100000 in
set_option maxHeartbeats 8000000 in
theorem walk (v : Value) (d : Dc) (w : World) (hv : DcAt w w.heap.size v d) (hd : HeldD d) :
    Calls Try.prog 5 #[v] w fun e w' => e = .returned (.bool true) ∧ Below w.heap.size w w' := by
  have HSZ := Lib.hid (fun W (hb : Below w.heap.size w W) => sz_doc v d W W.heap.size ((hv.below hb).more hb.size) (Nat.le_refl _) hd)
  have HTX := Lib.hid (show (∀ x ∈ d.X, x.t.size ≤ maxLen) ∧ ∀ x ∈ d.P, x.t.size ≤ maxLen from ⟨fun x h => (hd.2.1 x h).2.2.2, fun x h => (hd.2.2.2.1 x h).2.2.2⟩)
  obtain ⟨vx, vp, vh, rfl, hx, hp, hh⟩ := hv
  have HV := Lib.hid (show DcAt w w.heap.size (.agg #[vx, vp, vh]) d from ⟨vx, vp, vh, rfl, hx, hp, hh⟩)
  clear hx hp hh hd
  have HL := Lib.hid ((Lg.start w).alloc (.cells #[vx, vp, vh] 46))
  go_enter Try.func5, Try.ntmps5
  go_wp2_with fail
  refine (HSZ.out _ HL.out.bel).mono ?_
  rintro e w1 ⟨r, rfl, r0, r1, hq, hb1⟩
  replace HL := Lib.hid (HL.out.lift hb1)
  have HQ := Lib.hid hq; clear hq hb1
  by_cases hr : r < 0
  · go_wp2
    go_ret
    exact ⟨rfl, HL.out.bel⟩
  · obtain ⟨q1, q2, q3, q4, q5⟩ := HQ.out (by omega)
    have HTD := Lib.hid (fun W (hb : Below w.heap.size w W) => to_doc (.agg #[vx, vp, vh]) d W ((HV.out.below hb).more hb.size) q1 q3 q5)
    have HTA := Lib.hid (fun W (hb : Below w.heap.size w W) => to_doc2 (.agg #[vx, vp, vh]) d W ((HV.out.below hb).more hb.size) q1 q3 q5)
    have HF := Lib.hid (show Fit d from ⟨⟨by omega, by omega, by omega⟩, HTX.out⟩)
    have HSP := Lib.hid (fun v W (h : DcAt W W.heap.size v d) => spec_marksOf v d W h HF.out)
    have HIM := Lib.hid (fun v W (h : DcAt W W.heap.size v d) => impl_marksOf v d W h HF.out)
    have s1 := marksD_len d
    generalize marksD d = o at *
    have HED := Lib.hid (show markEndC 1 d ≤ 100000000 by unfold markEndC; omega)
    have HEO := Lib.hid (show 1 + 2 * o.length ≤ 100000000 by omega)
    have HOO := Lib.hid (show o.length ≤ 140737488351232 by omega)
    clear q1 q2 q3 q4 q5 s1 HV HTX HQ HSZ
    obtain ⟨x0, x1, x2⟩ := box3 (HL.out.blk _ List.mem_cons_self)
    go_wp2_with fail
    refine (HTD.out _ HL.out.bel).mono ?_
    intro e w2 h2
    obtain ⟨C1, f1, C2, f2, C3, f3, rfl, ho, hb⟩ := h2.parts
    replace HL := Lib.hid (HL.out.lift hb)
    have HO := Lib.hid ho.at_; clear h2 ho hb x0 x1 x2
    go_wp2_with fail
    refine (HSP.out _ _ HO.out).mono ?_
    rintro e w3 ⟨v3, rfl, ho, hb⟩
    obtain ⟨D1, t1, rfl⟩ := ho.form
    replace HL := Lib.hid ((HL.out.lift hb).add (p := fun W => w3.heap.size ≤ W.heap.size ∧ Sl W w3.heap.size 2 encN (.slice D1 o.length t1) o) ⟨Nat.le_refl _, ho.sl encN_len⟩ (fun _ _ hb h => ⟨Nat.le_trans h.1 hb.size, h.2.below (hb.mono h.1)⟩))
    have hz3 := block_lt (HL.out.blk _ List.mem_cons_self)
    clear ho hb HO
    obtain ⟨x0, x1, x2⟩ := box3 (HL.out.blk _ List.mem_cons_self)
    go_wp2_with fail
    refine (HTA.out _ HL.out.bel).mono ?_
    intro e w4 h4
    obtain ⟨G1, g1, G2, g2, G3, g3, rfl, ho, hap, hb⟩ := h4.parts
    have hz4 := hb.size
    have HAX := Lib.hid hap
    have HSX := Lib.hid (ho.span.wide (lo' := w3.heap.size) (Nat.le_refl _) (Nat.le_refl _))
    replace HL := Lib.hid (((HL.out.lift hb).add (p := fun W => DcOw W w3.heap.size (.agg #[.slice G1 d.X.length g1, .slice G2 d.P.length g2, .slice G3 d.H.length g3]) d) ho (fun _ _ hb h => h.lift hb)).alloc (.cells #[.slice G1 d.X.length g1, .slice G2 d.P.length g2, .slice G3 d.H.length g3] 29))
    clear h4 ho hap hb x0 x1 x2
    obtain ⟨x0, x1, x2⟩ := box3 (HL.out.blk _ List.mem_cons_self)
    go_wp2_with fail
    refine (HIM.out _ _ (DcOw.at_ (HL.out.now _ List.mem_cons_self))).mono ?_
    rintro e w5 ⟨v5, rfl, ho, hb⟩
    obtain ⟨K1, k1, rfl⟩ := ho.form
    have hz5 := hb.size
    simp only [World.size_alloc] at hz5 ho
    have HSG := Lib.hid (show ∀ g, (Value.slice K1 o.length k1).ownBlock = some g → w4.heap.size + 1 ≤ g ∧ g < w5.heap.size from fun g hg => ho.lies g hg)
    replace HL := Lib.hid ((HL.out.lift hb).add (p := fun W => Ow W (w4.heap.size + 1) 113 2 encN (.slice K1 o.length k1) o) ho (fun _ _ hb h => h.lift hb))
    clear ho hb x0 x1 x2
    have hw := HL.out.now _ (List.mem_cons_of_mem _ (List.mem_cons_of_mem _ List.mem_cons_self))
    go_wp2_with fail
    refine (eq_marks _ _ o _ (Ow.sl (HL.out.now _ List.mem_cons_self) encN_len) (hw.2.more hw.1) HOO.out).mono ?_
    rintro e w6 ⟨rfl, hb⟩
    replace HL := Lib.hid (HL.out.lift hb)
    clear hb hw
    go_upto_region 10 with fail
    refine wp_region_calm_lg [(2, (fun u => ∃ C1 f1 C2 f2 C3 f3, u = .agg #[.slice C1 d.X.length f1, .slice C2 d.P.length f2, .slice C3 d.H.length f3]), fun u W => DcAt W W.heap.size u d), (3, (fun u => u = .bool true), fun _ _ => True)] (by kernel_rfl) (by kernel_rfl) (by intro x hx v; simp only [List.mem_cons, List.not_mem_nil, or_false] at hx; rcases hx with rfl | rfl; exact fun W W' hb h => (h.below hb).more hb.size; exact fun _ _ _ h => h) HL.out ?_
    repeat (first
      | (refine calm_skip (by rfl) ?_; try simp only [Act.put, List.setIfInBounds_toArray, List.set_cons_zero, List.set_cons_succ])
      | (refine calm_plain (by rfl) (by rfl) ?_; apply Exists.intro; refine ⟨fun wc hC hD => ?_, ?_⟩; (focus (clear hD; obtain ⟨y0, y1, y2⟩ := box3 (hC.blk _ List.mem_cons_self); obtain ⟨x0, x1, x2⟩ := box3 (hC.blk _ (List.mem_cons_of_mem _ List.mem_cons_self)); clear hC; go_simp; first | done | with_reducible rfl)); try simp only [Act.put, List.setIfInBounds_toArray, List.set_cons_zero, List.set_cons_succ]))
    refine calm_call _ _ (by rfl) (by rfl) ?_ ?_
    focus
      apply Exists.intro
      apply Exists.intro
      refine ⟨fun wc hC hD => ?_, fun wc hC hD => ?_⟩
      focus (clear hD; obtain ⟨y0, y1, y2⟩ := box3 (hC.blk _ List.mem_cons_self); obtain ⟨x0, x1, x2⟩ := box3 (hC.blk _ (List.mem_cons_of_mem _ List.mem_cons_self)); clear hC; go_simp; first | done | with_reducible exact ⟨rfl, rfl⟩ | with_reducible rfl)
      clear hD
      with_reducible refine (HTD.out _ hC.bel).mono ?_
      intro e wx h
      obtain ⟨C1, f1, C2, f2, C3, f3, rfl, ho, hb⟩ := h.parts
      exact ⟨_, rfl, hb, ⟨_, _, _, _, _, _, rfl⟩, ho.at_⟩
    rintro _ ⟨C1, f1, C2, f2, C3, f3, rfl⟩
    try simp only [Act.put, List.setIfInBounds_toArray, List.set_cons_zero, List.set_cons_succ]
    repeat (first
      | (refine calm_skip (by rfl) ?_; try simp only [Act.put, List.setIfInBounds_toArray, List.set_cons_zero, List.set_cons_succ])
      | (refine calm_plain (by rfl) (by rfl) ?_; apply Exists.intro; refine ⟨fun wc hC hD => ?_, ?_⟩; (focus (clear hD; obtain ⟨y0, y1, y2⟩ := box3 (hC.blk _ List.mem_cons_self); obtain ⟨x0, x1, x2⟩ := box3 (hC.blk _ (List.mem_cons_of_mem _ List.mem_cons_self)); clear hC; go_simp; first | done | with_reducible rfl)); try simp only [Act.put, List.setIfInBounds_toArray, List.set_cons_zero, List.set_cons_succ]))
    refine calm_call _ _ (by rfl) (by rfl) ?_ ?_
    focus
      apply Exists.intro
      apply Exists.intro
      refine ⟨fun wc hC hD => ?_, fun wc hC hD => ?_⟩
      focus (clear hD; obtain ⟨y0, y1, y2⟩ := box3 (hC.blk _ List.mem_cons_self); obtain ⟨x0, x1, x2⟩ := box3 (hC.blk _ (List.mem_cons_of_mem _ List.mem_cons_self)); clear hC; go_simp; first | done | with_reducible exact ⟨rfl, rfl⟩ | with_reducible rfl)
      have ha := Deps.get hD 2 (by kernel_rfl)
      simp [upd, noF] at ha
      clear hD
      with_reducible refine (eq_docF _ _ d _ (DcOw.at_ (hC.now _ (List.mem_cons_of_mem _ List.mem_cons_self))) ha HF.out).mono ?_
      rintro e wx ⟨rfl, hb⟩
      exact ⟨_, rfl, hb, rfl, trivial⟩
    rintro _ rfl
    try simp only [Act.put, List.setIfInBounds_toArray, List.set_cons_zero, List.set_cons_succ]
    repeat (first
      | (refine calm_skip (by rfl) ?_; try simp only [Act.put, List.setIfInBounds_toArray, List.set_cons_zero, List.set_cons_succ])
      | (refine calm_plain (by rfl) (by rfl) ?_; apply Exists.intro; refine ⟨fun wc hC hD => ?_, ?_⟩; (focus (clear hD; obtain ⟨y0, y1, y2⟩ := box3 (hC.blk _ List.mem_cons_self); obtain ⟨x0, x1, x2⟩ := box3 (hC.blk _ (List.mem_cons_of_mem _ List.mem_cons_self)); clear hC; go_simp; first | done | with_reducible rfl)); try simp only [Act.put, List.setIfInBounds_toArray, List.set_cons_zero, List.set_cons_succ]))
    refine calm_end ?_
    intro w7 hL7 hF7
    clear hF7
    replace HL := Lib.hid hL7
    clear hL7
    obtain ⟨y0, y1, y2⟩ := box3 (HL.out.blk _ List.mem_cons_self)
    have HWN := Lib.hid (HL.out.now _ (List.mem_cons_of_mem _ (List.mem_cons_of_mem _ List.mem_cons_self))); have HGN := Lib.hid (HL.out.now _ List.mem_cons_self)
    go_wp2_with fail
    refine (mark_doc _ d _ 1 w3.heap.size w4.heap.size _ (HL.out.now _ (List.mem_cons_of_mem _ List.mem_cons_self)) HAX.out HSX.out (by have := HWN.out.1; have := block_lt (HL.out.blk _ List.mem_cons_self); omega) (by omega) HED.out).mono ?_
    rintro e w8 ⟨rfl, ha, hw⟩
    replace HL := Lib.hid (HL.out.within (F' := [fun W => Ow W (w4.heap.size + 1) 113 2 encN (.slice K1 o.length k1) o, fun W => w3.heap.size ≤ W.heap.size ∧ Sl W w3.heap.size 2 encN (.slice D1 o.length t1) o]) hw (by omega) (fun p hp => by
      simp only [List.mem_cons, List.not_mem_nil, or_false] at hp
      rcases hp with rfl | rfl <;> simp only <;> omega) (by
      intro q hq
      simp only [List.mem_cons, List.not_mem_nil, or_false] at hq
      rcases hq with rfl | rfl
      · exact Ow.kept HGN.out hw (.inl (by omega))
      · exact ⟨Nat.le_trans HWN.out.1 hw.size, HWN.out.2.below (hw.below (Nat.le_refl _) HWN.out.1)⟩) (by
      intro q hq
      simp only [List.mem_cons, List.not_mem_nil, or_false] at hq
      rcases hq with rfl | rfl
      · exact fun _ _ hb h => h.lift hb
      · exact fun _ _ hb h => ⟨Nat.le_trans h.1 hb.size, h.2.below (hb.mono h.1)⟩))
    clear HWN HGN ha hw y0 y1 y2
    obtain ⟨mk, hmk⟩ : ∃ mk : Nat, mk = markEndC 1 d := ⟨_, rfl⟩
    rw [← hmk]
    have hm0 : ¬ ((mk : Nat) : Int) < 0 := by omega
    clear hmk
    have hw := HL.out.now _ (List.mem_cons_of_mem _ List.mem_cons_self)
    go_wp2_with fail
    refine (eq_marks _ _ o _ (Ow.sl (HL.out.now _ List.mem_cons_self) encN_len) (hw.2.more hw.1) HOO.out).mono ?_
    rintro e w9 ⟨rfl, hb⟩
    replace HL := Lib.hid (HL.out.lift hb)
    clear hb hw
    have HWN := Lib.hid (HL.out.now _ (List.mem_cons_of_mem _ List.mem_cons_self))
    have hgn := HL.out.now _ List.mem_cons_self
    go_wp2_with fail
    refine (mark_marks _ o _ 1 _ hgn (by omega) HEO.out).mono ?_
    rintro e w10 ⟨rfl, ha, hg⟩
    have hw : Within (w4.heap.size + 1) w5.heap.size _ w10 := Within.of_grown hg HSG.out
    replace HL := Lib.hid ((HL.out.within (F' := [fun W => w3.heap.size ≤ W.heap.size ∧ Sl W w3.heap.size 2 encN (.slice D1 o.length t1) o]) hw (by omega) (fun p hp => by
      simp only [List.mem_cons, List.not_mem_nil, or_false] at hp
      rcases hp with rfl | rfl <;> simp only <;> omega) (by
      intro q hq
      simp only [List.mem_cons, List.not_mem_nil, or_false] at hq
      subst hq
      exact ⟨Nat.le_trans HWN.out.1 hw.size, HWN.out.2.below (hw.below (by omega) HWN.out.1)⟩) (by
      intro q hq
      simp only [List.mem_cons, List.not_mem_nil, or_false] at hq
      subst hq
      exact fun _ _ hb h => ⟨Nat.le_trans h.1 hb.size, h.2.below (hb.mono h.1)⟩)).add (p := fun W => Ow W (w4.heap.size + 1) 113 2 encN (.slice K1 o.length k1) (marksN 1 o.length)) ha (fun _ _ hb h => h.lift hb))
    clear HWN hgn ha hw hg hm0
    obtain ⟨r2, hr2⟩ : ∃ r2 : Nat, r2 = 1 + 2 * o.length := ⟨_, rfl⟩
    rw [← hr2]
    have HR2 := Lib.hid hr2; clear hr2
    have hrr : ((r2 : Int) != (r2 : Int)) = false := by simp
    have hr2 : ¬ (r2 : Int) < 0 := by omega
    have hn := HL.out.now _ List.mem_cons_self
    go_wp2_with fail
    refine (held_marks _ 1 o.length _ (Ow.sl hn encN_len) (by omega) HEO.out).mono ?_
    rintro e w11 ⟨rfl, hb⟩
    rw [← HR2.out]
    replace HL := Lib.hid (HL.out.lift hb)
    clear hb hn
    obtain ⟨x0, x1, x2⟩ := box3 (HL.out.blk _ (List.mem_cons_of_mem _ List.mem_cons_self))
    go_wp2_with fail
    refine (HTD.out _ HL.out.bel).mono ?_
    intro e w12 h12
    obtain ⟨M1, m1, M2, m2, M3, m3, rfl, ho, hb⟩ := h12.parts
    replace HL := Lib.hid (HL.out.lift hb)
    have HO := Lib.hid ho.at_; clear h12 ho hb x0 x1 x2
    go_wp2_with fail
    refine (HIM.out _ _ HO.out).mono ?_
    rintro e w13 ⟨v13, rfl, ho, hb⟩
    obtain ⟨N1, n1, rfl⟩ := ho.form
    replace HL := Lib.hid ((HL.out.lift hb).add (p := fun W => Ow W w12.heap.size 113 2 encN (.slice N1 o.length n1) o) ho (fun _ _ hb h => h.lift hb))
    clear ho hb HO
    have hw := HL.out.now _ (List.mem_cons_of_mem _ (List.mem_cons_of_mem _ List.mem_cons_self))
    go_wp2_with fail
    refine (eq_marks _ _ o _ (Ow.sl (HL.out.now _ List.mem_cons_self) encN_len) (hw.2.more hw.1) HOO.out).mono ?_
    rintro e w14 ⟨rfl, hb⟩
    replace HL := Lib.hid (HL.out.lift hb)
    clear hb hw
    have hn := HL.out.now _ (List.mem_cons_of_mem _ List.mem_cons_self)
    go_wp2_with fail
    refine (held_marks _ 1 o.length _ (Ow.sl hn encN_len) (by omega) HEO.out).mono ?_
    rintro e w15 ⟨rfl, hb⟩
    rw [← HR2.out]
    replace HL := Lib.hid (HL.out.lift hb)
    clear hb hn
    go_wp2
    go_ret
    exact ⟨rfl, HL.out.bel⟩

theorem laidOut : laidOutB Try.prog = true := by kernel_rfl
theorem own : ownKnob Try.prog.godebug = none := by kernel_rfl

set_option maxRecDepth 100000 in
theorem lifted (os : Os) (started : os.Started) (H : Type) (enc : TypeId × Value → H) :
    ReturnsInHanded {} Try.checked os 5 .any (Rows.fnExactMarksOfSpec.pre6 enc Try.prog Try.f5 Rows.fnExactMarksOfRow.domain false) (Rows.fnExactMarksOfSpec.post enc Try.prog Try.f5 false true false false) := by
  refine returnsInHanded_of_change (C := Try.checked) own started (by kernel_rfl) Try.func5
    (ChangeSpec.witness6 (enc := enc) (C := Try.checked) false ⟨#[], #[.agg #[.slice none 0 0, .slice none 0 0, .slice none 0 0]], []⟩ 8 (by kernel_rfl) (by kernel_rfl) (by kernel_rfl) (by kernel_rfl)) ?_
  intro W base args ds gs before hval0 hW hcnd _
  have hval : ∀ (j : Nat) t v, Try.f5.params[j]? = some t → args[j]? = some v → Value.okWide Try.prog W .any base t v := hval0
  have hW' := hW
  obtain ⟨p, q, hA0, hV, rfl, hfz, hnd⟩ := hW
  have hA : DataW.TrodAll enc Try.prog W 0 (fun _ => true) true Try.f5.params.toList args.toList ds p := hA0
  rw [Try.params5] at hA hval
  obtain ⟨v0, vs0, d0, ds0, p0, q0, hargs, rfl, rfl, h0, r0⟩ := trodAll_cons hA
  obtain ⟨rfl, rfl, rfl⟩ := trodAll_nil r0
  obtain rfl : args = #[v0] := by cases args; simp_all
  obtain ⟨rfl, rfl⟩ := trodVars_none hV
  have k0 := h0
  have lt0 : ∀ x ∈ p0, x.block < W.heap.size := by obtain ⟨m, hm⟩ := k0; exact DataW.trod_lt m _ _ _ hm
  obtain ⟨a0, w0, z0⟩ := came_doc (hval 0 46 v0 rfl rfl) h0
  clear hA0 hval0
  simp only [List.append_nil] at hW'
  refine (walk v0 a0 W w0 z0).mono fun e W' ⟨he, bel⟩ => ?_
  subst he
  exact ⟨_, rfl, _, _, _, [], _, [], hW', trodAll_mk1 (shut_bool Try.underlying4 _), (trodAll_cons_mk (Below.trod laidOut (by kernel_rfl) (of_decide_eq_true (by kernel_rfl)) k0 bel lt0) trodAll_mk0), rfl, bel.frame _, fun h => by cases h⟩

theorem over : Rows.fnExactMarksOfRow.holds Try.pinned (OpenSpec.ofChange Rows.fnExactMarksOfSpec) :=
  OpenClaim.holds_of_wide 5 Try.f5 rfl rfl rfl rfl rfl rfl rfl ⟨rfl, rfl, rfl, rfl, rfl⟩ rfl rfl rfl rfl rfl (by kernel_rfl) Try.func5 (by kernel_rfl)
    (of_decide_eq_true (by kernel_rfl)) (by unfold Func.isWrapper; first | (rw [if_pos (by decide +kernel)]; kernel_rfl) | (rw [if_neg (by decide +kernel)]; exact ⟨rfl, rfl⟩))
    (fun os started H enc _ => lifted os started H enc)

theorem proved : Rows.FnExactMarksOfSaid := over
#print axioms proved
end Go.Proofs.Ytaggmcdfggmlhaa.FnExactMarksOf
