/-
  Whatever doc and marks come in, DiffOf of the program tells what the model tells, twice, and leaves what was handed in as it was; what it tells shares nothing with it. No condition.
-/
import Derived.Test.YtaggmcdfggmlhaaRows
import Derived.Test.YtaggmcdfggmlhaaOpenDoc
import Derived.Test.YtaggmcdfggmlhaaLawQ
import Derived.Test.YtaggmcdfggmlhaaMarkU
import Derived.Test.YtaggmcdfggmlhaaDfO
import Derived.WalkKit
import Derived.ProofKit
import Derived.OpenShut
import Derived.ShutString
import Derived.ChangeOld
import Derived.Below
import Derived.Lib.Hide
namespace Go.Proofs.Ytaggmcdfggmlhaa.FnExactDiffOf
open Go.ChangeShapes Go.WideShapes Go.ChangeAt Go.RowKit
open Go.ChangeMaps (open_string shut_string)
set_option linter.unusedVariables false

theorem diffX_texts {X : List Im} {l : List Nm} (h : ∀ x ∈ X, x.t.size ≤ maxLen) (k : Nat) (hk : k ≤ X.length) : ∀ x ∈ diffX X l k, x.t.size ≤ maxLen := by
  induction k with
  | zero => intro x hx; simp [diffX_zero] at hx
  | succ k ih =>
    intro x hx
    by_cases hq : ofK l X[k].i.c ≤ X[k].i.k
    · rw [diffX_yes (by omega) hq] at hx
      rcases with_mem hx with hx | rfl
      · exact ih (by omega) x hx
      · exact h (X[k]'(by omega)) (List.getElem_mem _)
    · rw [diffX_not (by omega) hq] at hx
      exact ih (by omega) x hx
theorem diffD_fit (d : Dc) (l : List Nm) (h : ∀ x ∈ d.X, x.t.size ≤ maxLen) (h1 : d.X.length ≤ 1048576) (h2 : d.H.length ≤ 1048576) : FitU (diffD d l) := by
  have hl := diffD_len d l
  refine ⟨⟨Nat.le_trans hl.1 (by omega), Nat.le_trans hl.2 (by omega)⟩, ?_⟩
  by_cases hh : docB d = true ∧ marksB l = true
  · rw [diffD_yes hh.1 hh.2]; exact diffX_texts h _ (Nat.le_refl _)
  · unfold diffD; rw [if_neg hh]; simp

set_option maxRecDepth 100000 in
set_option maxHeartbeats 8000000 in
theorem walk (v : Value) (d : Dc) (vl : Value) (l : List Nm) (w : World) (hv : DcAt w w.heap.size v d) (hd : HeldD d) (hm : Sl w w.heap.size 2 encN vl l) (hz : l.length ≤ 9223372036854775807) (hy : ∀ n ∈ l, HeldN n) :
    Calls Try.prog 8 #[v, vl] w fun e w' => e = .returned (.bool true) ∧ Below w.heap.size w w' := by
  have HSZ := Lib.hid (fun W (hb : Below w.heap.size w W) => sz_doc v d W W.heap.size ((hv.below hb).more hb.size) (Nat.le_refl _) hd)
  have HSM := Lib.hid (fun left W (hb : Below w.heap.size w W) h0 h1 => sz_marks vl l left W W.heap.size ((hm.below hb).more hb.size) h0 h1 hz)
  have HTM := Lib.hid (fun (h : l.length ≤ 1048576) W (hb : Below w.heap.size w W) => to_marks vl l W ((hm.below hb).more hb.size) h)
  have HTX := Lib.hid (show (∀ x ∈ d.X, x.t.size ≤ maxLen) ∧ ∀ x ∈ d.P, x.t.size ≤ maxLen from ⟨fun x h => (hd.2.1 x h).2.2.2, fun x h => (hd.2.2.2.1 x h).2.2.2⟩)
  obtain ⟨vx, vp, vh, rfl, hx, hp, hh⟩ := hv
  have HV := Lib.hid (show DcAt w w.heap.size (.agg #[vx, vp, vh]) d from ⟨vx, vp, vh, rfl, hx, hp, hh⟩)
  obtain ⟨AM, kM, rfl⟩ := hm.form
  clear hx hp hh hd hm hy
  have HL := Lib.hid ((Lg.start w).alloc (.cells #[vx, vp, vh] 46))
  go_enter Try.func8, Try.ntmps8
  go_wp2_with fail
  refine (HSZ.out _ HL.out.bel).mono ?_
  rintro e w1 ⟨r, rfl, r0, r1, hq, hb1⟩
  replace HL := Lib.hid (HL.out.lift hb1)
  have HQ := Lib.hid hq; clear hq hb1
  by_cases hr : r < 0
  · go_wp2
    go_ret
    exact ⟨rfl, HL.out.bel⟩
  · go_wp2_with fail
    refine (HSM.out r _ HL.out.bel (by omega) r1).mono ?_
    rintro e w1 ⟨r2, rfl, r20, r21, hq, hb1⟩
    replace HL := Lib.hid (HL.out.lift hb1)
    have HQ2 := Lib.hid hq; clear hq hb1
    by_cases hr2 : r2 < 0
    · go_wp2
      go_ret
      exact ⟨rfl, HL.out.bel⟩
    obtain ⟨q1, q2, q3, q4, q5⟩ := HQ.out (by omega)
    have qm := HQ2.out (by omega)
    replace HTM := Lib.hid (HTM.out qm)
    have HTD := Lib.hid (fun W (hb : Below w.heap.size w W) => to_doc (.agg #[vx, vp, vh]) d W ((HV.out.below hb).more hb.size) q1 q3 q5)
    have HTA := Lib.hid (fun W (hb : Below w.heap.size w W) => to_doc2 (.agg #[vx, vp, vh]) d W ((HV.out.below hb).more hb.size) q1 q3 q5)
    have HF := Lib.hid (show Fit d from ⟨⟨by omega, by omega, by omega⟩, HTX.out⟩)
    have HSP := Lib.hid (fun v vl W (h : DcAt W W.heap.size v d) (hm : Sl W W.heap.size 2 encN vl l) => spec_diffOf v vl d l W h hm HF.out (by omega))
    have HIM := Lib.hid (fun v vl W (h : DcAt W W.heap.size v d) (hm : Sl W W.heap.size 2 encN vl l) => impl_diffOf v vl d l W h hm HF.out (by omega))
    obtain ⟨s1, s2⟩ := diffD_len d l
    have HFO := Lib.hid (diffD_fit d l HTX.out.1 (by omega) (by omega))
    generalize diffD d l = o at *
    have HED := Lib.hid (show markEndC 1 d ≤ 100000000 by unfold markEndC; omega)
    have HEM := Lib.hid (show markEndC 1 d + 2 * l.length ≤ 100000000 by unfold markEndC; omega)
    have HE1 := Lib.hid (show 0 < markEndC 1 d by unfold markEndC; omega)
    have HEO := Lib.hid (show markEndU 1 o ≤ 100000000 by unfold markEndU; omega)
    have hlm : l.length ≤ 140737488351232 := by omega
    clear q1 q2 q3 q4 q5 qm s1 s2 HV HTX HQ HSZ HSM HQ2
    obtain ⟨x0, x1, x2⟩ := box3 (HL.out.blk _ List.mem_cons_self)
    go_wp2_with fail
    refine (HTD.out _ HL.out.bel).mono ?_
    intro e w2 h2
    obtain ⟨C1, f1, C2, f2, C3, f3, rfl, ho, hb⟩ := h2.parts
    replace HL := Lib.hid (HL.out.lift hb)
    have HO := Lib.hid ho; clear h2 ho hb x0 x1 x2
    go_wp2_with fail
    refine (HTM.out _ HL.out.bel).mono ?_
    rintro e w2b ⟨v2, rfl, hom, hb⟩
    obtain ⟨C4, f4, rfl⟩ := hom.form
    replace HL := Lib.hid (HL.out.lift hb)
    replace HO := Lib.hid (HO.out.lift hb)
    have HOM := Lib.hid (hom.sl encN_len); clear hom hb
    go_wp2_with fail
    refine (HSP.out _ _ _ HO.out.at_ HOM.out).mono ?_
    intro e w3 h3
    obtain ⟨D1, t1, D2, t2, rfl, ho, hb⟩ := h3.parts
    replace HL := Lib.hid ((HL.out.lift hb).add (p := fun W => w3.heap.size ≤ W.heap.size ∧ UpAt W w3.heap.size (.agg #[.slice D1 o.X.length t1, .slice D2 o.H.length t2]) o) ⟨Nat.le_refl _, ho.at_⟩ (fun _ _ hb h => ⟨Nat.le_trans h.1 hb.size, h.2.below (hb.mono h.1)⟩))
    have hz3 := block_lt (HL.out.blk _ List.mem_cons_self)
    replace HL := Lib.hid (HL.out.alloc (.cells #[.slice D1 o.X.length t1, .slice D2 o.H.length t2] 37))
    clear h3 ho hb HO HOM
    obtain ⟨x0, x1, x2⟩ := box3 (HL.out.blk _ (List.mem_cons_of_mem _ List.mem_cons_self))
    go_wp2_with fail
    refine (HTA.out _ HL.out.bel).mono ?_
    intro e w4 h4
    obtain ⟨G1, g1, G2, g2, G3, g3, rfl, ho, hap, hb⟩ := h4.parts
    have hz4 := hb.size
    simp only [World.size_alloc] at hz4
    have HAX := Lib.hid hap
    have HSX := Lib.hid (ho.span.wide (lo' := w3.heap.size + 1) (by simp) (Nat.le_refl _))
    replace HL := Lib.hid (((HL.out.lift hb).add (p := fun W => DcOw W (w3.heap.size + 1) (.agg #[.slice G1 d.X.length g1, .slice G2 d.P.length g2, .slice G3 d.H.length g3]) d) (ho.base (by simp)) (fun _ _ hb h => h.lift hb)).alloc (.cells #[.slice G1 d.X.length g1, .slice G2 d.P.length g2, .slice G3 d.H.length g3] 29))
    clear h4 ho hap hb x0 x1 x2
    go_wp2_with fail
    refine (HTM.out _ HL.out.bel).mono ?_
    rintro e w5 ⟨v5, rfl, hom, hb⟩
    obtain ⟨J1, j1, rfl⟩ := hom.form
    have hz5 := hb.size
    simp only [World.size_alloc] at hz5 hom
    have HSM := Lib.hid (show ∀ g, (Value.slice J1 l.length j1).ownBlock = some g → w4.heap.size + 1 ≤ g ∧ g < w5.heap.size from fun g hg => hom.lies g hg)
    replace HL := Lib.hid ((HL.out.lift hb).add (p := fun W => Ow W (w4.heap.size + 1) 113 2 encN (.slice J1 l.length j1) l) hom (fun _ _ hb h => Ow.lift h hb))
    clear hom hb
    obtain ⟨x0, x1, x2⟩ := box3 (HL.out.blk _ List.mem_cons_self)
    go_wp2_with fail
    refine (HIM.out _ _ _ (DcOw.at_ (HL.out.now _ (List.mem_cons_of_mem _ List.mem_cons_self))) (Ow.sl (HL.out.now _ List.mem_cons_self) encN_len)).mono ?_
    intro e w6 h6
    obtain ⟨K1, k1, K2, k2, rfl, ho, hb⟩ := h6.parts
    have hz6 := hb.size
    have HSG := Lib.hid ho.span
    replace HL := Lib.hid (((HL.out.lift hb).add (p := fun W => UpOw W w5.heap.size (.agg #[.slice K1 o.X.length k1, .slice K2 o.H.length k2]) o) ho (fun _ _ hb h => h.lift hb)).alloc (.cells #[.slice K1 o.X.length k1, .slice K2 o.H.length k2] 37))
    clear h6 ho hb x0 x1 x2
    obtain ⟨y0, y1⟩ := box2 (HL.out.blk _ List.mem_cons_self)
    obtain ⟨z0, z1⟩ := box2 (HL.out.blk _ (List.mem_cons_of_mem _ (List.mem_cons_of_mem _ List.mem_cons_self)))
    have hw := HL.out.now _ (List.mem_cons_of_mem _ (List.mem_cons_of_mem _ (List.mem_cons_of_mem _ List.mem_cons_self)))
    go_wp2_with fail
    refine (eq_update _ _ o _ (UpOw.at_ (HL.out.now _ List.mem_cons_self)) (hw.2.more hw.1) HFO.out).mono ?_
    rintro e w7 ⟨rfl, hb⟩
    replace HL := Lib.hid (HL.out.lift hb)
    clear hb hw y0 y1 z0 z1
    go_upto_region 14 with fail
    refine wp_region_calm_lg [(2, (fun u => ∃ C1 f1 C2 f2 C3 f3, u = .agg #[.slice C1 d.X.length f1, .slice C2 d.P.length f2, .slice C3 d.H.length f3]), fun u W => DcAt W W.heap.size u d), (3, (fun u => u = .bool true), fun _ _ => True)] (by kernel_rfl) (by kernel_rfl) (by intro x hx v; simp only [List.mem_cons, List.not_mem_nil, or_false] at hx; rcases hx with rfl | rfl; exact fun W W' hb h => (h.below hb).more hb.size; exact fun _ _ _ h => h) HL.out ?_
    repeat (first
      | (refine calm_skip (by rfl) ?_; try simp only [Act.put, List.setIfInBounds_toArray, List.set_cons_zero, List.set_cons_succ])
      | (refine calm_plain (by rfl) (by rfl) ?_; apply Exists.intro; refine ⟨fun wc hC hD => ?_, ?_⟩; (focus (clear hD; obtain ⟨y0, y1, y2⟩ := box3 (hC.blk _ (List.mem_cons_of_mem _ List.mem_cons_self)); obtain ⟨x0, x1, x2⟩ := box3 (hC.blk _ (List.mem_cons_of_mem _ (List.mem_cons_of_mem _ (List.mem_cons_of_mem _ List.mem_cons_self)))); clear hC; go_simp; first | done | with_reducible rfl)); try simp only [Act.put, List.setIfInBounds_toArray, List.set_cons_zero, List.set_cons_succ]))
    refine calm_call _ _ (by rfl) (by rfl) ?_ ?_
    focus
      apply Exists.intro
      apply Exists.intro
      refine ⟨fun wc hC hD => ?_, fun wc hC hD => ?_⟩
      focus (clear hD; obtain ⟨y0, y1, y2⟩ := box3 (hC.blk _ (List.mem_cons_of_mem _ List.mem_cons_self)); obtain ⟨x0, x1, x2⟩ := box3 (hC.blk _ (List.mem_cons_of_mem _ (List.mem_cons_of_mem _ (List.mem_cons_of_mem _ List.mem_cons_self)))); clear hC; go_simp; first | done | with_reducible exact ⟨rfl, rfl⟩ | with_reducible rfl)
      clear hD
      with_reducible refine (HTD.out _ hC.bel).mono ?_
      intro e wx h
      obtain ⟨C1, f1, C2, f2, C3, f3, rfl, ho, hb⟩ := h.parts
      exact ⟨_, rfl, hb, ⟨_, _, _, _, _, _, rfl⟩, ho.at_⟩
    rintro _ ⟨C1, f1, C2, f2, C3, f3, rfl⟩
    try simp only [Act.put, List.setIfInBounds_toArray, List.set_cons_zero, List.set_cons_succ]
    repeat (first
      | (refine calm_skip (by rfl) ?_; try simp only [Act.put, List.setIfInBounds_toArray, List.set_cons_zero, List.set_cons_succ])
      | (refine calm_plain (by rfl) (by rfl) ?_; apply Exists.intro; refine ⟨fun wc hC hD => ?_, ?_⟩; (focus (clear hD; obtain ⟨y0, y1, y2⟩ := box3 (hC.blk _ (List.mem_cons_of_mem _ List.mem_cons_self)); obtain ⟨x0, x1, x2⟩ := box3 (hC.blk _ (List.mem_cons_of_mem _ (List.mem_cons_of_mem _ (List.mem_cons_of_mem _ List.mem_cons_self)))); clear hC; go_simp; first | done | with_reducible rfl)); try simp only [Act.put, List.setIfInBounds_toArray, List.set_cons_zero, List.set_cons_succ]))
    refine calm_call _ _ (by rfl) (by rfl) ?_ ?_
    focus
      apply Exists.intro
      apply Exists.intro
      refine ⟨fun wc hC hD => ?_, fun wc hC hD => ?_⟩
      focus (clear hD; obtain ⟨y0, y1, y2⟩ := box3 (hC.blk _ (List.mem_cons_of_mem _ List.mem_cons_self)); obtain ⟨x0, x1, x2⟩ := box3 (hC.blk _ (List.mem_cons_of_mem _ (List.mem_cons_of_mem _ (List.mem_cons_of_mem _ List.mem_cons_self)))); clear hC; go_simp; first | done | with_reducible exact ⟨rfl, rfl⟩ | with_reducible rfl)
      have ha := Deps.get hD 2 (by kernel_rfl)
      simp [upd, noF] at ha
      clear hD
      with_reducible refine (eq_docF _ _ d _ (DcOw.at_ (hC.now _ (List.mem_cons_of_mem _ (List.mem_cons_of_mem _ List.mem_cons_self)))) ha HF.out).mono ?_
      rintro e wx ⟨rfl, hb⟩
      exact ⟨_, rfl, hb, rfl, trivial⟩
    rintro _ rfl
    try simp only [Act.put, List.setIfInBounds_toArray, List.set_cons_zero, List.set_cons_succ]
    repeat (first
      | (refine calm_skip (by rfl) ?_; try simp only [Act.put, List.setIfInBounds_toArray, List.set_cons_zero, List.set_cons_succ])
      | (refine calm_plain (by rfl) (by rfl) ?_; apply Exists.intro; refine ⟨fun wc hC hD => ?_, ?_⟩; (focus (clear hD; obtain ⟨y0, y1, y2⟩ := box3 (hC.blk _ (List.mem_cons_of_mem _ List.mem_cons_self)); obtain ⟨x0, x1, x2⟩ := box3 (hC.blk _ (List.mem_cons_of_mem _ (List.mem_cons_of_mem _ (List.mem_cons_of_mem _ List.mem_cons_self)))); clear hC; go_simp; first | done | with_reducible rfl)); try simp only [Act.put, List.setIfInBounds_toArray, List.set_cons_zero, List.set_cons_succ]))
    refine calm_end ?_
    intro w7 hL7 hF7
    clear hF7
    replace HL := Lib.hid hL7
    clear hL7
    go_wp2_with fail
    refine (HTM.out _ HL.out.bel).mono ?_
    rintro e w8 ⟨v8, rfl, hom, hb⟩
    obtain ⟨C5, f5, rfl⟩ := hom.form
    replace HL := Lib.hid (HL.out.lift hb)
    have HOM := Lib.hid (hom.sl encN_len); clear hom hb
    go_wp2_with fail
    refine (eq_marks _ _ l _ (Ow.sl (HL.out.now _ (List.mem_cons_of_mem _ List.mem_cons_self)) encN_len) HOM.out hlm).mono ?_
    rintro e w9 ⟨rfl, hb⟩
    replace HL := Lib.hid (HL.out.lift hb); clear hb HOM
    obtain ⟨y0, y1, y2⟩ := box3 (HL.out.blk _ (List.mem_cons_of_mem _ List.mem_cons_self))
    have HWN := Lib.hid (HL.out.now _ (List.mem_cons_of_mem _ (List.mem_cons_of_mem _ (List.mem_cons_of_mem _ List.mem_cons_self)))); have HMN := Lib.hid (HL.out.now _ (List.mem_cons_of_mem _ List.mem_cons_self)); have HGN := Lib.hid (HL.out.now _ List.mem_cons_self)
    go_wp2_with fail
    refine (mark_doc _ d _ 1 (w3.heap.size + 1) w4.heap.size _ (HL.out.now _ (List.mem_cons_of_mem _ (List.mem_cons_of_mem _ List.mem_cons_self))) HAX.out HSX.out (by have := HWN.out.1; have := block_lt (HL.out.blk _ (List.mem_cons_of_mem _ List.mem_cons_self)); omega) (by omega) HED.out).mono ?_
    rintro e w10 ⟨rfl, ha, hw⟩
    replace HL := Lib.hid (HL.out.within (F' := [fun W => UpOw W w5.heap.size (.agg #[.slice K1 o.X.length k1, .slice K2 o.H.length k2]) o, fun W => Ow W (w4.heap.size + 1) 113 2 encN (.slice J1 l.length j1) l, fun W => w3.heap.size ≤ W.heap.size ∧ UpAt W w3.heap.size (.agg #[.slice D1 o.X.length t1, .slice D2 o.H.length t2]) o]) hw (by omega) (fun p hp => by
      simp only [List.mem_cons, List.not_mem_nil, or_false] at hp
      rcases hp with rfl | rfl | rfl | rfl <;> simp only <;> omega) (by
      intro q hq
      simp only [List.mem_cons, List.not_mem_nil, or_false] at hq
      rcases hq with rfl | rfl | rfl
      · exact UpOw.kept HGN.out hw (by omega)
      · exact Ow.kept HMN.out hw (.inl (by omega))
      · exact ⟨Nat.le_trans HWN.out.1 hw.size, UpAt.kept HWN.out.2 hw (by omega) HWN.out.1⟩) (by
      intro q hq
      simp only [List.mem_cons, List.not_mem_nil, or_false] at hq
      rcases hq with rfl | rfl | rfl
      · exact fun _ _ hb h => h.lift hb
      · exact fun _ _ hb h => Ow.lift h hb
      · exact fun _ _ hb h => ⟨Nat.le_trans h.1 hb.size, h.2.below (hb.mono h.1)⟩))
    clear HWN HMN HGN ha hw y0 y1 y2
    obtain ⟨mk, hmk⟩ : ∃ mk : Nat, mk = markEndC 1 d := ⟨_, rfl⟩
    rw [← hmk]
    rw [← hmk] at HEM HE1
    clear hmk
    have HWN := Lib.hid (HL.out.now _ (List.mem_cons_of_mem _ (List.mem_cons_of_mem _ List.mem_cons_self))); have HGN := Lib.hid (HL.out.now _ List.mem_cons_self)
    go_wp2_with fail
    refine (mark_marks _ l _ mk _ (HL.out.now _ (List.mem_cons_of_mem _ List.mem_cons_self)) HE1.out HEM.out).mono ?_
    rintro e w11 ⟨rfl, ha, hg⟩
    have hw : Within (w4.heap.size + 1) w5.heap.size _ w11 := Within.of_grown hg HSM.out
    replace HL := Lib.hid (HL.out.within (F' := [fun W => UpOw W w5.heap.size (.agg #[.slice K1 o.X.length k1, .slice K2 o.H.length k2]) o, fun W => w3.heap.size ≤ W.heap.size ∧ UpAt W w3.heap.size (.agg #[.slice D1 o.X.length t1, .slice D2 o.H.length t2]) o]) hw (by omega) (fun p hp => by
      simp only [List.mem_cons, List.not_mem_nil, or_false] at hp
      rcases hp with rfl | rfl | rfl | rfl <;> simp only <;> omega) (by
      intro q hq
      simp only [List.mem_cons, List.not_mem_nil, or_false] at hq
      rcases hq with rfl | rfl
      · exact UpOw.kept HGN.out hw (by omega)
      · exact ⟨Nat.le_trans HWN.out.1 hw.size, UpAt.kept HWN.out.2 hw (by omega) HWN.out.1⟩) (by
      intro q hq
      simp only [List.mem_cons, List.not_mem_nil, or_false] at hq
      rcases hq with rfl | rfl
      · exact fun _ _ hb h => h.lift hb
      · exact fun _ _ hb h => ⟨Nat.le_trans h.1 hb.size, h.2.below (hb.mono h.1)⟩))
    clear HWN HGN ha hw hg
    obtain ⟨mk2, hmk2⟩ : ∃ mk2 : Nat, mk2 = mk + 2 * l.length := ⟨_, rfl⟩
    rw [← hmk2]
    have hm0 : ¬ ((mk2 : Nat) : Int) < 0 := by omega
    clear hmk2
    obtain ⟨y0, y1⟩ := box2 (HL.out.blk _ List.mem_cons_self)
    obtain ⟨z0, z1⟩ := box2 (HL.out.blk _ (List.mem_cons_of_mem _ (List.mem_cons_of_mem _ List.mem_cons_self)))
    have hw := HL.out.now _ (List.mem_cons_of_mem _ List.mem_cons_self)
    go_wp2_with fail
    refine (eq_update _ _ o _ (UpOw.at_ (HL.out.now _ List.mem_cons_self)) (hw.2.more hw.1) HFO.out).mono ?_
    rintro e w12 ⟨rfl, hb⟩
    replace HL := Lib.hid (HL.out.lift hb)
    clear hb hw y0 y1 z0 z1
    obtain ⟨y0, y1⟩ := box2 (HL.out.blk _ List.mem_cons_self)
    have HWN := Lib.hid (HL.out.now _ (List.mem_cons_of_mem _ List.mem_cons_self))
    have hgn := HL.out.now _ List.mem_cons_self
    go_wp2_with fail
    refine (mark_update _ o _ 1 w5.heap.size w6.heap.size _ hgn HSG.out (by have := block_lt (HL.out.blk _ List.mem_cons_self); omega) (by omega) HEO.out).mono ?_
    rintro e w13 ⟨rfl, ha, hw⟩
    replace HL := Lib.hid ((HL.out.within (F' := [fun W => w3.heap.size ≤ W.heap.size ∧ UpAt W w3.heap.size (.agg #[.slice D1 o.X.length t1, .slice D2 o.H.length t2]) o]) hw (by omega) (fun p hp => by
      simp only [List.mem_cons, List.not_mem_nil, or_false] at hp
      rcases hp with rfl | rfl | rfl | rfl <;> simp only <;> omega) (by
      intro q hq
      simp only [List.mem_cons, List.not_mem_nil, or_false] at hq
      subst hq
      exact ⟨Nat.le_trans HWN.out.1 hw.size, UpAt.kept HWN.out.2 hw (by omega) HWN.out.1⟩) (by
      intro q hq
      simp only [List.mem_cons, List.not_mem_nil, or_false] at hq
      subst hq
      exact fun _ _ hb h => ⟨Nat.le_trans h.1 hb.size, h.2.below (hb.mono h.1)⟩)).add (p := fun W => w13.heap.size ≤ W.heap.size ∧ UpAt W w13.heap.size (.agg #[.slice K1 o.X.length k1, .slice K2 o.H.length k2]) (markUp 1 o)) ⟨Nat.le_refl _, ha⟩ (fun _ _ hb h => ⟨Nat.le_trans h.1 hb.size, h.2.below (hb.mono h.1)⟩))
    clear HWN hgn ha hw y0 y1 hm0
    obtain ⟨r3, hr3⟩ : ∃ r3 : Nat, r3 = markEndU 1 o := ⟨_, rfl⟩
    rw [← hr3]
    have HR3 := Lib.hid hr3; clear hr3
    have hrr : ((r3 : Int) != (r3 : Int)) = false := by simp
    have hr3 : ¬ (r3 : Int) < 0 := by omega
    obtain ⟨y0, y1⟩ := box2 (HL.out.blk _ List.mem_cons_self)
    have hn := HL.out.now _ List.mem_cons_self
    go_wp2_with fail
    refine (held_update _ o 1 _ (hn.2.more hn.1) (by omega) HEO.out).mono ?_
    rintro e w14 ⟨rfl, hb⟩
    rw [← HR3.out]
    replace HL := Lib.hid (HL.out.lift hb)
    clear hb hn y0 y1
    obtain ⟨x0, x1, x2⟩ := box3 (HL.out.blk _ (List.mem_cons_of_mem _ (List.mem_cons_of_mem _ (List.mem_cons_of_mem _ List.mem_cons_self))))
    go_wp2_with fail
    refine (HTD.out _ HL.out.bel).mono ?_
    intro e w15 h15
    obtain ⟨C1, f1, C2, f2, C3, f3, rfl, ho, hb⟩ := h15.parts
    replace HL := Lib.hid (HL.out.lift hb)
    have HO := Lib.hid ho; clear h15 ho hb x0 x1 x2
    go_wp2_with fail
    refine (HTM.out _ HL.out.bel).mono ?_
    rintro e w15b ⟨v2, rfl, hom, hb⟩
    obtain ⟨C4, f4, rfl⟩ := hom.form
    replace HL := Lib.hid (HL.out.lift hb)
    replace HO := Lib.hid (HO.out.lift hb)
    have HOM := Lib.hid (hom.sl encN_len); clear hom hb
    go_wp2_with fail
    refine (HIM.out _ _ _ HO.out.at_ HOM.out).mono ?_
    intro e w16 h16
    obtain ⟨N1, n1, N2, n2, rfl, ho, hb⟩ := h16.parts
    replace HL := Lib.hid (((HL.out.lift hb).add (p := fun W => UpOw W w15b.heap.size (.agg #[.slice N1 o.X.length n1, .slice N2 o.H.length n2]) o) ho (fun _ _ hb h => h.lift hb)).alloc (.cells #[.slice N1 o.X.length n1, .slice N2 o.H.length n2] 37))
    clear h16 ho hb HO HOM
    obtain ⟨y0, y1⟩ := box2 (HL.out.blk _ List.mem_cons_self)
    obtain ⟨z0, z1⟩ := box2 (HL.out.blk _ (List.mem_cons_of_mem _ (List.mem_cons_of_mem _ (List.mem_cons_of_mem _ List.mem_cons_self))))
    have hw := HL.out.now _ (List.mem_cons_of_mem _ (List.mem_cons_of_mem _ List.mem_cons_self))
    go_wp2_with fail
    refine (eq_update _ _ o _ (UpOw.at_ (HL.out.now _ List.mem_cons_self)) (hw.2.more hw.1) HFO.out).mono ?_
    rintro e w17 ⟨rfl, hb⟩
    replace HL := Lib.hid (HL.out.lift hb)
    clear hb hw y0 y1 z0 z1
    obtain ⟨y0, y1⟩ := box2 (HL.out.blk _ (List.mem_cons_of_mem _ List.mem_cons_self))
    have hn := HL.out.now _ (List.mem_cons_of_mem _ List.mem_cons_self)
    go_wp2_with fail
    refine (held_update _ o 1 _ (hn.2.more hn.1) (by omega) HEO.out).mono ?_
    rintro e w18 ⟨rfl, hb⟩
    rw [← HR3.out]
    replace HL := Lib.hid (HL.out.lift hb)
    clear hb hn y0 y1
    go_wp2
    go_ret
    exact ⟨rfl, HL.out.bel⟩

theorem laidOut : laidOutB Try.prog = true := by kernel_rfl
theorem own : ownKnob Try.prog.godebug = none := by kernel_rfl

set_option maxRecDepth 100000 in
theorem lifted (os : Os) (started : os.Started) (H : Type) (enc : TypeId × Value → H) :
    ReturnsInHanded {} Try.checked os 8 .any (Rows.fnExactDiffOfSpec.pre6 enc Try.prog Try.f8 Rows.fnExactDiffOfRow.domain false) (Rows.fnExactDiffOfSpec.post enc Try.prog Try.f8 false true false false) := by
  refine returnsInHanded_of_change (C := Try.checked) own started (by kernel_rfl) Try.func8
    (ChangeSpec.witness6 (enc := enc) (C := Try.checked) false ⟨#[], #[.agg #[.slice none 0 0, .slice none 0 0, .slice none 0 0], .slice none 0 0], []⟩ 8 (by kernel_rfl) (by kernel_rfl) (by kernel_rfl) (by kernel_rfl)) ?_
  intro W base args ds gs before hval0 hW hcnd _
  have hval : ∀ (j : Nat) t v, Try.f8.params[j]? = some t → args[j]? = some v → Value.okWide Try.prog W .any base t v := hval0
  have hW' := hW
  obtain ⟨p, q, hA0, hV, rfl, hfz, hnd⟩ := hW
  have hA : DataW.TrodAll enc Try.prog W 0 (fun _ => true) true Try.f8.params.toList args.toList ds p := hA0
  rw [Try.params8] at hA hval
  obtain ⟨v0, vs0, d0, ds0, p0, q0, hargs, rfl, rfl, h0, r0⟩ := trodAll_cons hA
  obtain ⟨v1, vs1, d1, ds1, p1, q1, rfl, rfl, rfl, h1, r1⟩ := trodAll_cons r0
  obtain ⟨rfl, rfl, rfl⟩ := trodAll_nil r1
  obtain rfl : args = #[v0, v1] := by cases args; simp_all
  obtain ⟨rfl, rfl⟩ := trodVars_none hV
  have k0 := h0
  have lt0 : ∀ x ∈ p0, x.block < W.heap.size := by obtain ⟨m, hm⟩ := k0; exact DataW.trod_lt m _ _ _ hm
  obtain ⟨a0, w0, z0⟩ := came_doc (hval 0 46 v0 rfl rfl) h0
  have k1 := h1
  have lt1 : ∀ x ∈ p1, x.block < W.heap.size := by obtain ⟨m, hm⟩ := k1; exact DataW.trod_lt m _ _ _ hm
  obtain ⟨a1, w1, z1, y1⟩ := came_marks (hval 1 57 v1 rfl rfl) h1
  clear hA0 hval0
  simp only [List.append_nil] at hW'
  refine (walk v0 a0 v1 a1 W w0 z0 w1 z1 y1).mono fun e W' ⟨he, bel⟩ => ?_
  subst he
  exact ⟨_, rfl, _, _, _, [], _, [], hW', trodAll_mk1 (shut_bool Try.underlying4 _), (trodAll_cons_mk (Below.trod laidOut (by kernel_rfl) (of_decide_eq_true (by kernel_rfl)) k0 bel lt0) (trodAll_cons_mk (Below.trod laidOut (by kernel_rfl) (of_decide_eq_true (by kernel_rfl)) k1 bel lt1) trodAll_mk0)), rfl, bel.frame _, fun h => by cases h⟩

theorem over : Rows.fnExactDiffOfRow.holds Try.pinned (OpenSpec.ofChange Rows.fnExactDiffOfSpec) :=
  OpenClaim.holds_of_wide 8 Try.f8 rfl rfl rfl rfl rfl rfl rfl ⟨rfl, rfl, rfl, rfl, rfl⟩ rfl rfl rfl rfl rfl (by kernel_rfl) Try.func8 (by kernel_rfl)
    (of_decide_eq_true (by kernel_rfl)) (by unfold Func.isWrapper; first | (rw [if_pos (by decide +kernel)]; kernel_rfl) | (rw [if_neg (by decide +kernel)]; exact ⟨rfl, rfl⟩))
    (fun os started H enc _ => lifted os started H enc)

theorem proved : Rows.FnExactDiffOfSaid := over
#print axioms proved
end Go.Proofs.Ytaggmcdfggmlhaa.FnExactDiffOf
