/-
  Whatever doc, place and number come in, Delete of the program tells what the model tells, twice, and leaves what was handed in as it was; what it tells shares nothing with it. No condition.
-/
import Derived.Test.YtmkcfjopneaimaaRows
import Derived.Test.YtmkcfjopneaimaaOpenDoc
import Derived.Test.YtmkcfjopneaimaaDelQ
import Derived.WalkKit
import Derived.ProofKit
import Derived.OpenShut
import Derived.ShutString
import Derived.ChangeOld
import Derived.Below
import Derived.Lib.Hide
namespace Go.Proofs.Ytmkcfjopneaimaa.FnExactDelete
open Go.ChangeShapes Go.WideShapes Go.ChangeAt Go.RowKit
open Go.ChangeMaps (open_string shut_string)
set_option linter.unusedVariables false

set_option maxRecDepth 100000 in
set_option maxHeartbeats 8000000 in
theorem walk (v : Value) (d : Dc) (p : Int) (wp : (Lit.int .i64 p).wf = true) (m : Int) (wm : (Lit.int .i64 m).wf = true) (w : World) (hv : DcAt w w.heap.size v d) (hd : HeldD d) :
    Calls Try.prog 9 #[v, .int .i64 p, .int .i64 m] w fun e w' => e = .returned (.bool true) ∧ Below w.heap.size w w' := by
  have hp0 : -9223372036854775808 ≤ p ∧ p ≤ 9223372036854775807 := by
    have e1 : IntKind.i64.min = -9223372036854775808 := by rfl
    have e2 : IntKind.i64.max = 9223372036854775807 := by rfl
    simp [Lit.wf, go_sem] at wp
    omega
  clear wp wm
  have HSZ := Lib.hid (fun W (hb : Below w.heap.size w W) => sz_doc v d W W.heap.size ((hv.below hb).more hb.size) (Nat.le_refl _) hd)
  have HTX := Lib.hid (show (∀ x ∈ d.X, x.t.size ≤ maxLen) ∧ ∀ x ∈ d.P, x.t.size ≤ maxLen from ⟨fun x h => (hd.2.1 x h).2.2.2, fun x h => (hd.2.2.2.1 x h).2.2.2⟩)
  obtain ⟨vx, vp, vh, rfl, hx, hp, hh⟩ := hv
  have HV := Lib.hid (show DcAt w w.heap.size (.agg #[vx, vp, vh]) d from ⟨vx, vp, vh, rfl, hx, hp, hh⟩)
  clear hx hp hh hd
  have HL := Lib.hid ((Lg.start w).alloc (.cells #[vx, vp, vh] 36))
  go_enter Try.func9, Try.ntmps9
  go_wp2_with fail
  refine (HSZ.out _ HL.out.bel).mono ?_
  rintro e w1 ⟨r, rfl, r0, r1, hq, hb1⟩
  replace HL := Lib.hid (HL.out.lift hb1)
  have HQ := Lib.hid hq; clear hq hb1
  by_cases hr : r < 0
  · go_wp2
    go_ret
    exact ⟨rfl, HL.out.bel⟩
  · obtain ⟨q1, q2, q3, q4, q5⟩ := HQ.out (by omega)
    have HTD := Lib.hid (fun W (hb : Below w.heap.size w W) => to_doc (.agg #[vx, vp, vh]) d W ((HV.out.below hb).more hb.size) q1 q3 q5)
    have HTA := Lib.hid (fun W (hb : Below w.heap.size w W) => to_doc2 (.agg #[vx, vp, vh]) d W ((HV.out.below hb).more hb.size) q1 q3 q5)
    have HF := Lib.hid (show Fit d from ⟨⟨by omega, by omega, by omega⟩, HTX.out⟩)
    have HSP := Lib.hid (fun v W (h : DcAt W W.heap.size v d) => spec_delete v d p m W h HF.out hp0.1 hp0.2)
    have HIM := Lib.hid (fun v W (h : DcAt W W.heap.size v d) => impl_delete v d p m W h HF.out hp0.1 hp0.2)
    obtain ⟨s1, s2, s3, s4⟩ := delete_small d p m
    generalize deleteO d p m = o at *
    have HED := Lib.hid (show markEndC 1 d ≤ 100000000 by unfold markEndC; omega)
    have HEO := Lib.hid (show markEndC 1 o.dc ≤ 100000000 by unfold markEndC; omega)
    have HOO := Lib.hid (show o.dc.X.length ≤ 140737488351232 ∧ o.dc.P.length ≤ 140737488351232 ∧ o.dc.H.length ≤ 140737488351232 from ⟨by omega, by omega, by omega⟩)
    have HAO := Lib.hid (fun (W : World) (base : Nat) (v : Value) (h : DcOw W base v o.dc) => apart_unlike h s4)
    clear q1 q2 q3 q4 q5 s1 s2 s3 s4 hp0 HV HTX HQ HSZ
    obtain ⟨x0, x1, x2⟩ := box3 (HL.out.blk _ List.mem_cons_self)
    go_wp2_with fail
    refine (HTD.out _ HL.out.bel).mono ?_
    intro e w2 h2
    obtain ⟨C1, f1, C2, f2, C3, f3, rfl, ho, hb⟩ := h2.parts
    replace HL := Lib.hid (HL.out.lift hb)
    have HO := Lib.hid ho.at_; clear h2 ho hb x0 x1 x2
    go_wp2_with fail
    refine (HSP.out _ _ HO.out).mono ?_
    intro e w3 h3
    obtain ⟨D1, t1, D2, t2, D3, t3, rfl, ho, hb⟩ := h3.parts
    replace HL := Lib.hid ((HL.out.lift hb).add (p := fun W => w3.heap.size ≤ W.heap.size ∧ DcAt W w3.heap.size (.agg #[.slice D1 o.dc.X.length t1, .slice D2 o.dc.P.length t2, .slice D3 o.dc.H.length t3]) o.dc) ⟨Nat.le_refl _, ho.at_⟩ (fun _ _ hb h => ⟨Nat.le_trans h.1 hb.size, h.2.below (hb.mono h.1)⟩))
    have hz3 := block_lt (HL.out.blk _ List.mem_cons_self)
    replace HL := Lib.hid (HL.out.alloc (.cells #[.slice D1 o.dc.X.length t1, .slice D2 o.dc.P.length t2, .slice D3 o.dc.H.length t3, .int .i64 o.code] 53))
    clear h3 ho hb HO
    obtain ⟨x0, x1, x2⟩ := box3 (HL.out.blk _ (List.mem_cons_of_mem _ List.mem_cons_self))
    go_wp2_with fail
    refine (HTA.out _ HL.out.bel).mono ?_
    intro e w4 h4
    obtain ⟨G1, g1, G2, g2, G3, g3, rfl, ho, hap, hb⟩ := h4.parts
    have hz4 := hb.size
    simp only [World.size_alloc] at hz4
    have HAX := Lib.hid hap
    have HSX := Lib.hid (ho.span.wide (lo' := w3.heap.size + 1) (by simp) (Nat.le_refl _))
    replace HL := Lib.hid (((HL.out.lift hb).add (p := fun W => DcOw W (w3.heap.size + 1) (.agg #[.slice G1 d.X.length g1, .slice G2 d.P.length g2, .slice G3 d.H.length g3]) d) (ho.base (by simp)) (fun _ _ hb h => h.lift hb)).alloc (.cells #[.slice G1 d.X.length g1, .slice G2 d.P.length g2, .slice G3 d.H.length g3] 42))
    clear h4 ho hap hb x0 x1 x2
    obtain ⟨x0, x1, x2⟩ := box3 (HL.out.blk _ List.mem_cons_self)
    go_wp2_with fail
    refine (HIM.out _ _ (DcOw.at_ (HL.out.now _ List.mem_cons_self))).mono ?_
    intro e w5 h5
    obtain ⟨K1, k1, K2, k2, K3, k3, rfl, ho, hb⟩ := h5.parts
    have hz5 := hb.size
    simp only [World.size_alloc] at hz5
    have HSG := Lib.hid (ho.span.wide (lo' := w4.heap.size + 1) (by simp) (Nat.le_refl _))
    replace HL := Lib.hid (((HL.out.lift hb).add (p := fun W => DcOw W (w4.heap.size + 1) (.agg #[.slice K1 o.dc.X.length k1, .slice K2 o.dc.P.length k2, .slice K3 o.dc.H.length k3]) o.dc) (ho.base (by simp)) (fun _ _ hb h => h.lift hb)).alloc (.cells #[.slice K1 o.dc.X.length k1, .slice K2 o.dc.P.length k2, .slice K3 o.dc.H.length k3, .int .i64 o.code] 53))
    clear h5 ho hb x0 x1 x2
    obtain ⟨y0, y1, y2, y3⟩ := box4c (HL.out.blk _ List.mem_cons_self)
    obtain ⟨z0, z1, z2, z3⟩ := box4c (HL.out.blk _ (List.mem_cons_of_mem _ (List.mem_cons_of_mem _ List.mem_cons_self)))
    have hw := HL.out.now _ (List.mem_cons_of_mem _ (List.mem_cons_of_mem _ List.mem_cons_self))
    go_wp2_with fail
    refine (eq_out _ _ o _ ⟨_, _, _, rfl, DcOw.at_ (HL.out.now _ List.mem_cons_self)⟩ ⟨_, _, _, rfl, hw.2.more hw.1⟩ HOO.out.1 HOO.out.2.1 HOO.out.2.2).mono ?_
    rintro e w6 ⟨rfl, hb⟩
    replace HL := Lib.hid (HL.out.lift hb)
    clear hb hw y0 y1 y2 y3 z0 z1 z2 z3
    go_upto_region 10 with fail
    refine wp_region_calm_lg [(2, (fun u => ∃ C1 f1 C2 f2 C3 f3, u = .agg #[.slice C1 d.X.length f1, .slice C2 d.P.length f2, .slice C3 d.H.length f3]), fun u W => DcAt W W.heap.size u d), (3, (fun u => u = .bool true), fun _ _ => True)] (by kernel_rfl) (by kernel_rfl) (by intro x hx v; simp only [List.mem_cons, List.not_mem_nil, or_false] at hx; rcases hx with rfl | rfl; exact fun W W' hb h => (h.below hb).more hb.size; exact fun _ _ _ h => h) HL.out ?_
    repeat (first
      | (refine calm_skip (by rfl) ?_; try simp only [Act.put, List.setIfInBounds_toArray, List.set_cons_zero, List.set_cons_succ])
      | (refine calm_plain (by rfl) (by rfl) ?_; apply Exists.intro; refine ⟨fun wc hC hD => ?_, ?_⟩; (focus (clear hD; obtain ⟨y0, y1, y2⟩ := box3 (hC.blk _ (List.mem_cons_of_mem _ List.mem_cons_self)); obtain ⟨x0, x1, x2⟩ := box3 (hC.blk _ (List.mem_cons_of_mem _ (List.mem_cons_of_mem _ (List.mem_cons_of_mem _ List.mem_cons_self)))); clear hC; go_simp; first | done | with_reducible rfl)); try simp only [Act.put, List.setIfInBounds_toArray, List.set_cons_zero, List.set_cons_succ]))
    refine calm_call _ _ (by rfl) (by rfl) ?_ ?_
    focus
      apply Exists.intro
      apply Exists.intro
      refine ⟨fun wc hC hD => ?_, fun wc hC hD => ?_⟩
      focus (clear hD; obtain ⟨y0, y1, y2⟩ := box3 (hC.blk _ (List.mem_cons_of_mem _ List.mem_cons_self)); obtain ⟨x0, x1, x2⟩ := box3 (hC.blk _ (List.mem_cons_of_mem _ (List.mem_cons_of_mem _ (List.mem_cons_of_mem _ List.mem_cons_self)))); clear hC; go_simp; first | done | with_reducible exact ⟨rfl, rfl⟩)
      clear hD
      with_reducible refine (HTD.out _ hC.bel).mono ?_
      intro e wx h
      obtain ⟨C1, f1, C2, f2, C3, f3, rfl, ho, hb⟩ := h.parts
      exact ⟨_, rfl, hb, ⟨_, _, _, _, _, _, rfl⟩, ho.at_⟩
    rintro _ ⟨C1, f1, C2, f2, C3, f3, rfl⟩
    try simp only [Act.put, List.setIfInBounds_toArray, List.set_cons_zero, List.set_cons_succ]
    repeat (first
      | (refine calm_skip (by rfl) ?_; try simp only [Act.put, List.setIfInBounds_toArray, List.set_cons_zero, List.set_cons_succ])
      | (refine calm_plain (by rfl) (by rfl) ?_; apply Exists.intro; refine ⟨fun wc hC hD => ?_, ?_⟩; (focus (clear hD; obtain ⟨y0, y1, y2⟩ := box3 (hC.blk _ (List.mem_cons_of_mem _ List.mem_cons_self)); obtain ⟨x0, x1, x2⟩ := box3 (hC.blk _ (List.mem_cons_of_mem _ (List.mem_cons_of_mem _ (List.mem_cons_of_mem _ List.mem_cons_self)))); clear hC; go_simp; first | done | with_reducible rfl)); try simp only [Act.put, List.setIfInBounds_toArray, List.set_cons_zero, List.set_cons_succ]))
    refine calm_call _ _ (by rfl) (by rfl) ?_ ?_
    focus
      apply Exists.intro
      apply Exists.intro
      refine ⟨fun wc hC hD => ?_, fun wc hC hD => ?_⟩
      focus (clear hD; obtain ⟨y0, y1, y2⟩ := box3 (hC.blk _ (List.mem_cons_of_mem _ List.mem_cons_self)); obtain ⟨x0, x1, x2⟩ := box3 (hC.blk _ (List.mem_cons_of_mem _ (List.mem_cons_of_mem _ (List.mem_cons_of_mem _ List.mem_cons_self)))); clear hC; go_simp; first | done | with_reducible exact ⟨rfl, rfl⟩)
      have ha := Deps.get hD 2 (by kernel_rfl)
      simp [upd, noF] at ha
      clear hD
      with_reducible refine (eq_docF _ _ d _ (DcOw.at_ (hC.now _ (List.mem_cons_of_mem _ List.mem_cons_self))) ha HF.out).mono ?_
      rintro e wx ⟨rfl, hb⟩
      exact ⟨_, rfl, hb, rfl, trivial⟩
    rintro _ rfl
    try simp only [Act.put, List.setIfInBounds_toArray, List.set_cons_zero, List.set_cons_succ]
    repeat (first
      | (refine calm_skip (by rfl) ?_; try simp only [Act.put, List.setIfInBounds_toArray, List.set_cons_zero, List.set_cons_succ])
      | (refine calm_plain (by rfl) (by rfl) ?_; apply Exists.intro; refine ⟨fun wc hC hD => ?_, ?_⟩; (focus (clear hD; obtain ⟨y0, y1, y2⟩ := box3 (hC.blk _ (List.mem_cons_of_mem _ List.mem_cons_self)); obtain ⟨x0, x1, x2⟩ := box3 (hC.blk _ (List.mem_cons_of_mem _ (List.mem_cons_of_mem _ (List.mem_cons_of_mem _ List.mem_cons_self)))); clear hC; go_simp; first | done | with_reducible rfl)); try simp only [Act.put, List.setIfInBounds_toArray, List.set_cons_zero, List.set_cons_succ]))
    refine calm_end ?_
    intro w7 hL7 hF7
    clear hF7
    replace HL := Lib.hid hL7
    clear hL7
    obtain ⟨y0, y1, y2⟩ := box3 (HL.out.blk _ (List.mem_cons_of_mem _ List.mem_cons_self))
    have HWN := Lib.hid (HL.out.now _ (List.mem_cons_of_mem _ (List.mem_cons_of_mem _ List.mem_cons_self))); have HGN := Lib.hid (HL.out.now _ List.mem_cons_self)
    go_wp2_with fail
    refine (mark_doc _ d _ 1 (w3.heap.size + 1) w4.heap.size _ (HL.out.now _ (List.mem_cons_of_mem _ List.mem_cons_self)) HAX.out HSX.out (by have := HWN.out.1; have := block_lt (HL.out.blk _ List.mem_cons_self); omega) (by omega) HED.out).mono ?_
    rintro e w8 ⟨rfl, ha, hw⟩
    replace HL := Lib.hid (HL.out.within (F' := [fun W => DcOw W (w4.heap.size + 1) (.agg #[.slice K1 o.dc.X.length k1, .slice K2 o.dc.P.length k2, .slice K3 o.dc.H.length k3]) o.dc, fun W => w3.heap.size ≤ W.heap.size ∧ DcAt W w3.heap.size (.agg #[.slice D1 o.dc.X.length t1, .slice D2 o.dc.P.length t2, .slice D3 o.dc.H.length t3]) o.dc]) hw (by omega) (fun p hp => by
      simp only [List.mem_cons, List.not_mem_nil, or_false] at hp
      rcases hp with rfl | rfl | rfl | rfl <;> simp only <;> omega) (by
      intro q hq
      simp only [List.mem_cons, List.not_mem_nil, or_false] at hq
      rcases hq with rfl | rfl
      · exact DcOw.kept HGN.out hw (by omega)
      · exact ⟨Nat.le_trans HWN.out.1 hw.size, DcAt.kept HWN.out.2 hw (by omega) HWN.out.1⟩) (by
      intro q hq
      simp only [List.mem_cons, List.not_mem_nil, or_false] at hq
      rcases hq with rfl | rfl
      · exact fun _ _ hb h => h.lift hb
      · exact fun _ _ hb h => ⟨Nat.le_trans h.1 hb.size, h.2.below (hb.mono h.1)⟩))
    clear HWN HGN ha hw y0 y1 y2
    obtain ⟨mk, hmk⟩ : ∃ mk : Nat, mk = markEndC 1 d := ⟨_, rfl⟩
    rw [← hmk]
    have hm0 : ¬ ((mk : Nat) : Int) < 0 := by omega
    clear hmk
    obtain ⟨y0, y1, y2, y3⟩ := box4c (HL.out.blk _ List.mem_cons_self)
    obtain ⟨z0, z1, z2, z3⟩ := box4c (HL.out.blk _ (List.mem_cons_of_mem _ (List.mem_cons_of_mem _ List.mem_cons_self)))
    have hw := HL.out.now _ (List.mem_cons_of_mem _ List.mem_cons_self)
    go_wp2_with fail
    refine (eq_out _ _ o _ ⟨_, _, _, rfl, DcOw.at_ (HL.out.now _ List.mem_cons_self)⟩ ⟨_, _, _, rfl, hw.2.more hw.1⟩ HOO.out.1 HOO.out.2.1 HOO.out.2.2).mono ?_
    rintro e w9 ⟨rfl, hb⟩
    replace HL := Lib.hid (HL.out.lift hb)
    clear hb hw y0 y1 y2 y3 z0 z1 z2 z3
    obtain ⟨y0, y1, y2, y3⟩ := box4c (HL.out.blk _ List.mem_cons_self)
    have HWN := Lib.hid (HL.out.now _ (List.mem_cons_of_mem _ List.mem_cons_self))
    have hgn := HL.out.now _ List.mem_cons_self
    go_wp2_with fail
    refine (mark_out _ _ _ _ o.dc _ 1 (w4.heap.size + 1) w5.heap.size _ hgn (HAO.out _ _ _ hgn) HSG.out (by have := block_lt (HL.out.blk _ List.mem_cons_self); omega) (by omega) HEO.out).mono ?_
    rintro e w10 ⟨rfl, ha, hw⟩
    replace HL := Lib.hid ((HL.out.within (F' := [fun W => w3.heap.size ≤ W.heap.size ∧ DcAt W w3.heap.size (.agg #[.slice D1 o.dc.X.length t1, .slice D2 o.dc.P.length t2, .slice D3 o.dc.H.length t3]) o.dc]) hw (by omega) (fun p hp => by
      simp only [List.mem_cons, List.not_mem_nil, or_false] at hp
      rcases hp with rfl | rfl | rfl | rfl <;> simp only <;> omega) (by
      intro q hq
      simp only [List.mem_cons, List.not_mem_nil, or_false] at hq
      subst hq
      exact ⟨Nat.le_trans HWN.out.1 hw.size, DcAt.kept HWN.out.2 hw (by omega) HWN.out.1⟩) (by
      intro q hq
      simp only [List.mem_cons, List.not_mem_nil, or_false] at hq
      subst hq
      exact fun _ _ hb h => ⟨Nat.le_trans h.1 hb.size, h.2.below (hb.mono h.1)⟩)).add (p := fun W => w10.heap.size ≤ W.heap.size ∧ DcAt W w10.heap.size (.agg #[.slice K1 o.dc.X.length k1, .slice K2 o.dc.P.length k2, .slice K3 o.dc.H.length k3]) (markDc 1 o.dc)) ⟨Nat.le_refl _, ha⟩ (fun _ _ hb h => ⟨Nat.le_trans h.1 hb.size, h.2.below (hb.mono h.1)⟩))
    clear HWN hgn ha hw y0 y1 y2 y3 hm0
    obtain ⟨r2, hr2⟩ : ∃ r2 : Nat, r2 = markEndC 1 o.dc := ⟨_, rfl⟩
    rw [← hr2]
    have HR2 := Lib.hid hr2; clear hr2
    have hrr : ((r2 : Int) != (r2 : Int)) = false := by simp
    have hr2 : ¬ (r2 : Int) < 0 := by omega
    obtain ⟨y0, y1, y2, y3⟩ := box4c (HL.out.blk _ List.mem_cons_self)
    have hn := HL.out.now _ List.mem_cons_self
    go_wp2_with fail
    refine (held_out _ _ _ _ o.dc 1 _ (hn.2.more hn.1) (by omega) HEO.out).mono ?_
    rintro e w11 ⟨rfl, hb⟩
    rw [← HR2.out]
    replace HL := Lib.hid (HL.out.lift hb)
    clear hb hn y0 y1 y2 y3
    obtain ⟨x0, x1, x2⟩ := box3 (HL.out.blk _ (List.mem_cons_of_mem _ (List.mem_cons_of_mem _ (List.mem_cons_of_mem _ List.mem_cons_self))))
    go_wp2_with fail
    refine (HTD.out _ HL.out.bel).mono ?_
    intro e w12 h12
    obtain ⟨M1, m1, M2, m2, M3, m3, rfl, ho, hb⟩ := h12.parts
    replace HL := Lib.hid (HL.out.lift hb)
    have HO := Lib.hid ho.at_; clear h12 ho hb x0 x1 x2
    go_wp2_with fail
    refine (HIM.out _ _ HO.out).mono ?_
    intro e w13 h13
    obtain ⟨N1, n1, N2, n2, N3, n3, rfl, ho, hb⟩ := h13.parts
    replace HL := Lib.hid (((HL.out.lift hb).add (p := fun W => DcOw W w12.heap.size (.agg #[.slice N1 o.dc.X.length n1, .slice N2 o.dc.P.length n2, .slice N3 o.dc.H.length n3]) o.dc) ho (fun _ _ hb h => h.lift hb)).alloc (.cells #[.slice N1 o.dc.X.length n1, .slice N2 o.dc.P.length n2, .slice N3 o.dc.H.length n3, .int .i64 o.code] 53))
    clear h13 ho hb HO
    obtain ⟨y0, y1, y2, y3⟩ := box4c (HL.out.blk _ List.mem_cons_self)
    obtain ⟨z0, z1, z2, z3⟩ := box4c (HL.out.blk _ (List.mem_cons_of_mem _ (List.mem_cons_of_mem _ (List.mem_cons_of_mem _ List.mem_cons_self))))
    have hw := HL.out.now _ (List.mem_cons_of_mem _ (List.mem_cons_of_mem _ List.mem_cons_self))
    go_wp2_with fail
    refine (eq_out _ _ o _ ⟨_, _, _, rfl, DcOw.at_ (HL.out.now _ List.mem_cons_self)⟩ ⟨_, _, _, rfl, hw.2.more hw.1⟩ HOO.out.1 HOO.out.2.1 HOO.out.2.2).mono ?_
    rintro e w14 ⟨rfl, hb⟩
    replace HL := Lib.hid (HL.out.lift hb)
    clear hb hw y0 y1 y2 y3 z0 z1 z2 z3
    obtain ⟨y0, y1, y2, y3⟩ := box4c (HL.out.blk _ (List.mem_cons_of_mem _ List.mem_cons_self))
    have hn := HL.out.now _ (List.mem_cons_of_mem _ List.mem_cons_self)
    go_wp2_with fail
    refine (held_out _ _ _ _ o.dc 1 _ (hn.2.more hn.1) (by omega) HEO.out).mono ?_
    rintro e w15 ⟨rfl, hb⟩
    rw [← HR2.out]
    replace HL := Lib.hid (HL.out.lift hb)
    clear hb hn y0 y1 y2 y3
    go_wp2
    go_ret
    exact ⟨rfl, HL.out.bel⟩

theorem laidOut : laidOutB Try.prog = true := by kernel_rfl
theorem own : ownKnob Try.prog.godebug = none := by kernel_rfl

set_option maxRecDepth 100000 in
theorem lifted (os : Os) (started : os.Started) (H : Type) (enc : TypeId × Value → H) :
    ReturnsInHanded {} Try.checked os 9 .any (Rows.fnExactDeleteSpec.pre6 enc Try.prog Try.f9 Rows.fnExactDeleteRow.domain false) (Rows.fnExactDeleteSpec.post enc Try.prog Try.f9 false true false false) := by
  refine returnsInHanded_of_change (C := Try.checked) own started (by kernel_rfl) Try.func9
    (ChangeSpec.witness6 (enc := enc) (C := Try.checked) false ⟨#[], #[.agg #[.slice none 0 0, .slice none 0 0, .slice none 0 0], .int .i64 0, .int .i64 0], []⟩ 8 (by kernel_rfl) (by kernel_rfl) (by kernel_rfl) (by kernel_rfl)) ?_
  intro W base args ds gs before hval0 hW hcnd _
  have hval : ∀ (j : Nat) t v, Try.f9.params[j]? = some t → args[j]? = some v → Value.okWide Try.prog W .any base t v := hval0
  have hW' := hW
  obtain ⟨p, q, hA0, hV, rfl, hfz, hnd⟩ := hW
  have hA : DataW.TrodAll enc Try.prog W 0 (fun _ => true) true Try.f9.params.toList args.toList ds p := hA0
  rw [Try.params9] at hA hval
  obtain ⟨v0, vs0, d0, ds0, p0, q0, hargs, rfl, rfl, h0, r0⟩ := trodAll_cons hA
  obtain ⟨v1, vs1, d1, ds1, p1, q1, rfl, rfl, rfl, h1, r1⟩ := trodAll_cons r0
  obtain ⟨v2, vs2, d2, ds2, p2, q2, rfl, rfl, rfl, h2, r2⟩ := trodAll_cons r1
  obtain ⟨rfl, rfl, rfl⟩ := trodAll_nil r2
  obtain rfl : args = #[v0, v1, v2] := by cases args; simp_all
  obtain ⟨rfl, rfl⟩ := trodVars_none hV
  have k0 := h0
  have lt0 : ∀ x ∈ p0, x.block < W.heap.size := by obtain ⟨m, hm⟩ := k0; exact DataW.trod_lt m _ _ _ hm
  obtain ⟨a0, w0, z0⟩ := came_doc (hval 0 36 v0 rfl rfl) h0
  obtain ⟨a1, rfl, rfl, rfl, w1⟩ := open_int Try.underlying2 (hval 1 2 v1 rfl rfl) h1
  obtain ⟨a2, rfl, rfl, rfl, w2⟩ := open_int Try.underlying2 (hval 2 2 v2 rfl rfl) h2
  clear hA0 hval0
  simp only [List.append_nil] at hW'
  refine (walk v0 a0 a1 w1 a2 w2 W w0 z0).mono fun e W' ⟨he, bel⟩ => ?_
  subst he
  exact ⟨_, rfl, _, _, _, [], _, [], hW', trodAll_mk1 (shut_bool Try.underlying4 _), (trodAll_cons_mk (Below.trod laidOut (by kernel_rfl) (of_decide_eq_true (by kernel_rfl)) k0 bel lt0) (trodAll_cons_mk (shut_int Try.underlying2 w1) (trodAll_cons_mk (shut_int Try.underlying2 w2) trodAll_mk0))), rfl, bel.frame _, fun h => by cases h⟩

theorem over : Rows.fnExactDeleteRow.holds Try.pinned (OpenSpec.ofChange Rows.fnExactDeleteSpec) :=
  OpenClaim.holds_of_wide 9 Try.f9 rfl rfl rfl rfl rfl rfl rfl ⟨rfl, rfl, rfl, rfl, rfl⟩ rfl rfl rfl rfl rfl (by kernel_rfl) Try.func9 (by kernel_rfl)
    (of_decide_eq_true (by kernel_rfl)) (by unfold Func.isWrapper; first | (rw [if_pos (by decide +kernel)]; kernel_rfl) | (rw [if_neg (by decide +kernel)]; exact ⟨rfl, rfl⟩))
    (fun os started H enc _ => lifted os started H enc)

theorem proved : Rows.FnExactDeleteSaid := over
#print axioms proved
end Go.Proofs.Ytmkcfjopneaimaa.FnExactDelete
