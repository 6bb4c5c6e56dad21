/-
  Whatever disk and place come in, DiskRead of the program tells what the model tells, every field, in memory of its own, and leaves what was handed in as it was. No condition.
-/
import Derived.Test.YtjpcpdapbhmgiaaRows
import Derived.Test.YtjpcpdapbhmgiaaSz
import Derived.Test.YtjpcpdapbhmgiaaLawAid
import Derived.Test.YtjpcpdapbhmgiaaRead
import Derived.Test.YtjpcpdapbhmgiaaLed
import Derived.Test.YtjpcpdapbhmgiaaOpenDisk
import Derived.WalkKit
import Derived.ProofKit
import Derived.OpenShut
import Derived.ShutString
import Derived.ChangeOld
import Derived.Below
import Derived.Lib.Hide
import Derived.Deep.RegionWith
import Derived.Deep.DeepCutAuto
namespace Go.Proofs.Ytjpcpdapbhmgiaa.FnExactDiskRead
open Go.ChangeShapes Go.WideShapes Go.ChangeAt Go.RowKit
open Go.ChangeMaps (open_string shut_string)
set_option linter.unusedVariables false

set_option maxRecDepth 100000 in
set_option maxHeartbeats 16000000 in
theorem walk (v0 : Value) (d : Dk) (a : Int) (wa : (Lit.int .i64 a).wf = true) (w : World) (hv : DkAt w w.heap.size v0 d) (hd : Held d) :
    Calls Try.prog 6 #[v0, .int .i64 a] w fun e w' => e = .returned (.bool true) ∧ Below w.heap.size w w' := by
  obtain ⟨vs, vp, rfl, hs, hp⟩ := hv
  have HV := Lib.hid (show DkAt w w.heap.size (.agg #[vs, vp]) d from ⟨vs, vp, rfl, hs, hp⟩)
  have HSZ := Lib.hid (fun W (hb : Below w.heap.size w W) => sz_disk (.agg #[vs, vp]) d W ((HV.out.below hb).more hb.size) hd)
  clear hs hp hd
  go_enter Try.func6, Try.ntmps6
  go_wp2_with fail
  refine (HSZ.out _ ((Below.refl _ _).alloc (Nat.le_refl _) _)).mono ?_
  rintro e w1 ⟨r, rfl, r0, r1, hq, hb1⟩
  have HQ := Lib.hid hq; clear hq
  have HL1 := Lib.hid (((⟨Below.refl _ _, fun p hp => (by simp at hp), fun p hp => (by simp at hp), fun p hp => (by simp at hp)⟩ : Led w w [] [] []).alloc (.cells #[vs, vp] 50)).lift hb1)
  clear hb1
  obtain ⟨x0, x1, xl⟩ := HL1.out.b2 (b := w.heap.size) (T := 50) (x0 := vs) (x1 := vp) (by simp)
  by_cases hr : r < 0
  · go_wp2
    go_ret
    exact ⟨rfl, HL1.out.bel⟩
  have HSM := Lib.hid (HQ.out (by omega))
  have HTD := Lib.hid (fun W (hb : Below w.heap.size w W) => to_disk (.agg #[vs, vp]) d W ((HV.out.below hb).more hb.size) HSM.out.1 HSM.out.2.2.1)
  have HSP := Lib.hid (fun v W (h : DkAt W W.heap.size v d) => spec_read v d a W h (HSM.out))
  have HIM := Lib.hid (fun v W (h : DkAt W W.heap.size v d) => impl_read v d a W h (HSM.out))
  have HSO := Lib.hid (read_small d a HSM.out)
  have HSD := Lib.hid (show d.S.length ≤ 140737488351232 ∧ d.P.length ≤ 140737488351232 from ⟨by have := HSM.out.1; omega, by have := HSM.out.2.2.1; omega⟩)
  have HED := Lib.hid (show markEnd 1 d ≤ 100000000 by unfold markEnd; have := HSM.out.1; have := HSM.out.2.2.1; omega)
  have HEO := Lib.hid (show markEnd 1 (readDo d a).dk ≤ 100000000 by unfold markEnd; have := HSO.out.1; have := HSO.out.2; omega)
  have HOO := Lib.hid (show (readDo d a).dk.S.length ≤ 140737488351232 ∧ (readDo d a).dk.P.length ≤ 140737488351232 from ⟨by have := HSO.out.1; omega, by have := HSO.out.2; omega⟩)
  clear HSO HSM HV HSZ HQ
  generalize readDo d a = o at *
  obtain ⟨dk, dt, dc⟩ := o
  dsimp only at HEO HOO
  go_wp2_with fail
  refine (HTD.out _ HL1.out.bel).mono ?_
  intro e w2 h2
  obtain ⟨A1, c1, A2, c2, rfl, ho2, hb2⟩ := h2.parts
  have HL2 := Lib.hid (HL1.out.lift hb2)
  have HO2 := Lib.hid ho2.at_
  clear h2 ho2 hb2 x0 x1 xl
  go_wp2_with fail
  refine (HSP.out _ _ HO2.out).mono ?_
  intro e w3 h3
  obtain ⟨D1, f1, D2, f2, rfl, ho3, hb3⟩ := h3.parts
  have HL3a := Lib.hid ((HL2.out.lift hb3).read (Nat.le_refl _) ho3.at_)
  clear h3 ho3 hb3
  obtain ⟨x0, x1, xl⟩ := HL3a.out.b2 (b := w.heap.size) (T := 50) (x0 := vs) (x1 := vp) (by simp)
  have hn0 := xl
  have HL3 := Lib.hid (HL3a.out.alloc (.cells #[.slice D1 dk.S.length f1, .slice D2 dk.P.length f2, .string dt, .int .i64 dc] 30))
  go_wp2_with fail
  refine (HTD.out _ HL3.out.bel).mono ?_
  intro e w4 h4
  obtain ⟨G1, g1, G2, g2, rfl, ho4, hb4⟩ := h4.parts
  have hz4 := hb4.size
  simp only [World.size_alloc] at hz4
  have HSPX := Lib.hid (ho4.span.wide (lo' := w3.heap.size + 1) (by simp) (Nat.le_refl _))
  have HL4a := Lib.hid ((HL3.out.lift hb4).hold (ho4.base (base' := w3.heap.size + 1) (by simp)))
  have HL4 := Lib.hid (HL4a.out.alloc (.cells #[.slice G1 d.S.length g1, .slice G2 d.P.length g2] 26))
  clear h4 ho4 hb4 x0 x1 xl
  go_wp2_with fail
  refine (HIM.out _ _ (HL4.out.ow (B := w3.heap.size + 1) (v := .agg #[.slice G1 d.S.length g1, .slice G2 d.P.length g2]) (d := d) (by simp)).at_).mono ?_
  intro e w5 h5
  obtain ⟨K1, k1, K2, k2, rfl, ho5, hb5⟩ := h5.parts
  have hz5 := hb5.size
  simp only [World.size_alloc] at hz5
  have HSPG := Lib.hid (ho5.span.wide (lo' := w4.heap.size + 1) (by simp) (Nat.le_refl _))
  have HL5a := Lib.hid ((HL4.out.lift hb5).hold (ho5.base (base' := w4.heap.size + 1) (by simp)))
  have HL5 := Lib.hid (HL5a.out.alloc (.cells #[.slice K1 dk.S.length k1, .slice K2 dk.P.length k2, .string dt, .int .i64 dc] 30))
  clear h5 ho5 hb5
  obtain ⟨y0, y1, y2, y3, yl⟩ := HL5a.out.b4 (b := w3.heap.size) (T := 30) (x0 := .slice D1 dk.S.length f1) (x1 := .slice D2 dk.P.length f2) (x2 := .string dt) (x3 := .int .i64 dc) (by simp)
  go_wp2_with fail
  refine (eq_diskout _ _ _ _ dk dt dc _ (HL5.out.ow (B := w4.heap.size + 1) (v := .agg #[.slice K1 dk.S.length k1, .slice K2 dk.P.length k2]) (d := dk) (by simp)).at_ (HL5.out.at_ (B := w3.heap.size) (v := .agg #[.slice D1 dk.S.length f1, .slice D2 dk.P.length f2]) (d := dk) (by simp)) HOO.out.1 HOO.out.2).mono ?_
  rintro e w6 ⟨rfl, hb6⟩
  have HL6 := Lib.hid (HL5.out.lift hb6)
  clear hb6 y0 y1 y2 y3 yl
  obtain ⟨x0, x1, xl⟩ := HL6.out.b2 (b := w.heap.size) (T := 50) (x0 := vs) (x1 := vp) (by simp)
  obtain ⟨y0, y1, yl⟩ := HL6.out.b2 (b := w4.heap.size) (T := 26) (x0 := .slice G1 d.S.length g1) (x1 := .slice G2 d.P.length g2) (by simp)
  go_upto_region 10 with fail
  go_cut [35] (fun u wx => u = .bool false ∧ ∃ wy : World, wy = wx ∧ Below w6.heap.size w6 wx)
  case first =>
    go_region_with (first
      | (go_at_call 29; refine (HTD.out _ HL6.out.bel.drew).mono ?_; intro e w7 h7; obtain ⟨M1, m1, M2, m2, rfl, ho7, hb7⟩ := h7.parts; obtain ⟨z0, z1, zl⟩ := (HL6.out.lift (undrew hb7)).b2 (b := w4.heap.size) (T := 26) (x0 := .slice G1 d.S.length g1) (x1 := .slice G2 d.P.length g2) (by simp))
      | (go_at_call 30; refine (eq_disk _ _ d _ ((HL6.out.lift (undrew hb7)).ow (B := w3.heap.size + 1) (v := .agg #[.slice G1 d.S.length g1, .slice G2 d.P.length g2]) (d := d) (by simp)).at_ ho7.at_ HSD.out.1 HSD.out.2).mono ?_; rintro e w8 ⟨rfl, hb8⟩))
    all_goals
      have HB8 := Lib.hid ((undrew hb7).trans (hb8.mono (undrew hb7).size))
      clear h7 ho7 hb7 hb8 x0 x1 xl y0 y1 yl z0 z1 zl
      go_wp2_with fail
      go_meet
      exact ⟨rfl, _, rfl, HB8.out⟩
  case rest =>
    obtain ⟨rfl, wx, rfl, hbx⟩ := hcut
    have HL7 := Lib.hid (HL6.out.lift hbx)
    clear hbx x0 x1 xl y0 y1 yl HL6 HL5 HL5a HL4 HL4a HL3 HL3a HL2 HL1 HO2
    obtain ⟨y0, y1, yl⟩ := HL7.out.b2 (b := w4.heap.size) (T := 26) (x0 := .slice G1 d.S.length g1) (x1 := .slice G2 d.P.length g2) (by simp)
    go_wp2_with fail
    refine (mark_disk1 (.agg #[.slice G1 d.S.length g1, .slice G2 d.P.length g2]) d (w3.heap.size + 1) (w3.heap.size + 1) w4.heap.size _ (HL7.out.ow (by simp)) HED.out HSPX.out).mono ?_
    intro e w8 h8
    obtain ⟨r1, hr1, rfl, ho8, hw8⟩ := h8.back
    have HL8 := Lib.hid (HL7.out.second.within hw8 (by omega) (fun p hp => by
      simp only [List.mem_cons, List.not_mem_nil, or_false] at hp
      rcases hp with rfl | rfl | rfl | rfl <;> simp only <;> omega) (fun p hp => by
      simp only [List.mem_cons, List.not_mem_nil, or_false] at hp
      subst hp
      simp only; omega) (fun p hp => by
      simp only [List.mem_cons, List.not_mem_nil, or_false] at hp
      subst hp
      simp only; omega))
    have hr0 : ¬ (r1 : Int) < 0 := by omega
    clear h8 hr1 ho8 hw8 y0 y1 yl HL7
    obtain ⟨y0, y1, y2, y3, yl⟩ := HL8.out.b4 (b := w5.heap.size) (T := 30) (x0 := .slice K1 dk.S.length k1) (x1 := .slice K2 dk.P.length k2) (x2 := .string dt) (x3 := .int .i64 dc) (by simp)
    obtain ⟨z0, z1, z2, z3, zl⟩ := HL8.out.b4 (b := w3.heap.size) (T := 30) (x0 := .slice D1 dk.S.length f1) (x1 := .slice D2 dk.P.length f2) (x2 := .string dt) (x3 := .int .i64 dc) (by simp)
    go_wp2_with fail
    refine (eq_diskout _ _ _ _ dk dt dc _ (HL8.out.ow (B := w4.heap.size + 1) (v := .agg #[.slice K1 dk.S.length k1, .slice K2 dk.P.length k2]) (d := dk) (by simp)).at_ (HL8.out.at_ (B := w3.heap.size) (v := .agg #[.slice D1 dk.S.length f1, .slice D2 dk.P.length f2]) (d := dk) (by simp)) HOO.out.1 HOO.out.2).mono ?_
    rintro e w9 ⟨rfl, hb9⟩
    have HL9 := Lib.hid (HL8.out.lift hb9)
    clear hb9 y0 y1 y2 y3 yl z0 z1 z2 z3 zl hr0 HL8
    obtain ⟨y0, y1, y2, y3, yl⟩ := HL9.out.b4 (b := w5.heap.size) (T := 30) (x0 := .slice K1 dk.S.length k1) (x1 := .slice K2 dk.P.length k2) (x2 := .string dt) (x3 := .int .i64 dc) (by simp)
    go_wp2_with fail
    refine (mark_diskout1 _ _ dt dc dk (w4.heap.size + 1) (w4.heap.size + 1) w5.heap.size _ (HL9.out.ow (B := w4.heap.size + 1) (v := .agg #[.slice K1 dk.S.length k1, .slice K2 dk.P.length k2]) (d := dk) (by simp)) HEO.out HSPG.out).mono ?_
    intro e w10 h10
    obtain ⟨r2, hr2, rfl, ho10, hw10⟩ := h10.back
    have HR2 := Lib.hid hr2
    have HL10 := Lib.hid ((HL9.out.drop.within hw10 (by omega) (fun p hp => by
      simp only [List.mem_cons, List.not_mem_nil, or_false] at hp
      rcases hp with rfl | rfl | rfl | rfl <;> simp only <;> omega) (fun p hp => by
      simp only [List.mem_cons, List.not_mem_nil, or_false] at hp
      subst hp
      simp only; omega) (fun p hp => by simp at hp)).hold ho10)
    clear h10 hr2 ho10 hw10 y0 y1 y2 y3 yl HL9
    obtain ⟨y0, y1, y2, y3, yl⟩ := HL10.out.b4 (b := w5.heap.size) (T := 30) (x0 := .slice K1 dk.S.length k1) (x1 := .slice K2 dk.P.length k2) (x2 := .string dt) (x3 := .int .i64 dc) (by simp)
    go_wp2_with fail
    refine (held_diskout1 _ _ dt dc dk _ (HL10.out.ow (B := w4.heap.size + 1) (v := .agg #[.slice K1 dk.S.length k1, .slice K2 dk.P.length k2]) (d := markDk 1 dk) (by simp)).at_ HEO.out).mono ?_
    intro e w11 h11
    obtain ⟨rfl, hb11⟩ := h11.back
    rw [← HR2.out]
    have hrr : ((r2 : Int) != (r2 : Int)) = false := by simp
    have hr2 : ¬ (r2 : Int) < 0 := by omega
    have HL11 := Lib.hid (HL10.out.lift hb11)
    clear h11 hb11 y0 y1 y2 y3 yl HL10
    obtain ⟨x0, x1, xl⟩ := HL11.out.b2 (b := w.heap.size) (T := 50) (x0 := vs) (x1 := vp) (by simp)
    go_wp2_with fail
    refine (HTD.out _ HL11.out.bel).mono ?_
    intro e w12 h12
    obtain ⟨P1, p1, P2, p2, rfl, ho12, hb12⟩ := h12.parts
    have HL12 := Lib.hid (HL11.out.lift hb12)
    have HO12 := Lib.hid ho12.at_
    clear h12 ho12 hb12 x0 x1 xl HL11
    go_wp2_with fail
    refine (HIM.out _ _ HO12.out).mono ?_
    intro e w13 h13
    obtain ⟨Q1, q1, Q2, q2, rfl, ho13, hb13⟩ := h13.parts
    have HL13a := Lib.hid (HL12.out.lift hb13)
    have HO13 := Lib.hid (ho13.lift ((Below.refl _ _).alloc (Nat.le_refl _) (.cells #[.slice Q1 dk.S.length q1, .slice Q2 dk.P.length q2, .string dt, .int .i64 dc] 30)))
    have HL13 := Lib.hid (HL13a.out.alloc (.cells #[.slice Q1 dk.S.length q1, .slice Q2 dk.P.length q2, .string dt, .int .i64 dc] 30))
    clear h13 ho13 hb13 HL12 HO12
    obtain ⟨y0, y1, y2, y3, yl⟩ := HL13a.out.b4 (b := w3.heap.size) (T := 30) (x0 := .slice D1 dk.S.length f1) (x1 := .slice D2 dk.P.length f2) (x2 := .string dt) (x3 := .int .i64 dc) (by simp)
    go_wp2_with fail
    refine (eq_diskout _ _ _ _ dk dt dc _ HO13.out.at_ (HL13.out.at_ (B := w3.heap.size) (v := .agg #[.slice D1 dk.S.length f1, .slice D2 dk.P.length f2]) (d := dk) (by simp)) HOO.out.1 HOO.out.2).mono ?_
    rintro e w14 ⟨rfl, hb14⟩
    have HL14 := Lib.hid (HL13.out.lift hb14)
    clear hb14 y0 y1 y2 y3 yl HL13 HL13a HO13
    obtain ⟨y0, y1, y2, y3, yl⟩ := HL14.out.b4 (b := w5.heap.size) (T := 30) (x0 := .slice K1 dk.S.length k1) (x1 := .slice K2 dk.P.length k2) (x2 := .string dt) (x3 := .int .i64 dc) (by simp)
    go_wp2_with fail
    refine (held_diskout1 _ _ dt dc dk _ (HL14.out.ow (B := w4.heap.size + 1) (v := .agg #[.slice K1 dk.S.length k1, .slice K2 dk.P.length k2]) (d := markDk 1 dk) (by simp)).at_ HEO.out).mono ?_
    intro e w15 h15
    obtain ⟨rfl, hb15⟩ := h15.back
    rw [← HR2.out]
    have HB15 := Lib.hid (HL14.out.lift hb15).bel
    clear h15 hb15 y0 y1 y2 y3 yl HL14
    go_wp2
    go_ret
    exact ⟨rfl, HB15.out⟩

theorem laidOut : laidOutB Try.prog = true := by kernel_rfl
theorem own : ownKnob Try.prog.godebug = none := by kernel_rfl

set_option maxRecDepth 100000 in
theorem lifted (os : Os) (started : os.Started) (H : Type) (enc : TypeId × Value → H) :
    ReturnsInHanded {} Try.checked os 6 .any (Rows.fnExactDiskReadSpec.pre6 enc Try.prog Try.f6 Rows.fnExactDiskReadRow.domain false) (Rows.fnExactDiskReadSpec.post enc Try.prog Try.f6 false true false false) := by
  refine returnsInHanded_of_change (C := Try.checked) own started (by kernel_rfl) Try.func6
    (ChangeSpec.witness6 (enc := enc) (C := Try.checked) false ⟨#[], #[.agg #[.slice none 0 0, .slice none 0 0], .int .i64 0], []⟩ 8 (by kernel_rfl) (by kernel_rfl) (by kernel_rfl) (by kernel_rfl)) ?_
  intro W base args ds gs before hval0 hW hcnd _
  have hval : ∀ (j : Nat) t v, Try.f6.params[j]? = some t → args[j]? = some v → Value.okWide Try.prog W .any base t v := hval0
  have hW' := hW
  obtain ⟨p, q, hA0, hV, rfl, hfz, hnd⟩ := hW
  have hA : DataW.TrodAll enc Try.prog W 0 (fun _ => true) true Try.f6.params.toList args.toList ds p := hA0
  rw [Try.params6] at hA hval
  obtain ⟨v0, vs0, d0, ds0, p0, q0, hargs, rfl, rfl, h0, r0⟩ := trodAll_cons hA
  obtain ⟨v1, vs1, d1, ds1, p1, q1, rfl, rfl, rfl, h1, r1⟩ := trodAll_cons r0
  obtain ⟨rfl, rfl, rfl⟩ := trodAll_nil r1
  obtain rfl : args = #[v0, v1] := by cases args; simp_all
  obtain ⟨rfl, rfl⟩ := trodVars_none hV
  have k0 := h0
  have lt0 : ∀ x ∈ p0, x.block < W.heap.size := by obtain ⟨m, hm⟩ := k0; exact DataW.trod_lt m _ _ _ hm
  obtain ⟨a0, w0, z0⟩ := open_disk (hval 0 50 v0 rfl rfl) h0
  obtain ⟨a1, rfl, rfl, rfl, w1⟩ := open_int Try.underlying2 (hval 1 2 v1 rfl rfl) h1
  clear hA0 hval0
  simp only [List.append_nil] at hW'
  refine (walk v0 a0 a1 w1 W w0 z0).mono fun e W' ⟨he, bel⟩ => ?_
  subst he
  exact ⟨_, rfl, _, _, _, [], _, [], hW', trodAll_mk1 (shut_bool Try.underlying4 _), (trodAll_cons_mk (Below.trod laidOut (by kernel_rfl) (of_decide_eq_true (by kernel_rfl)) k0 bel lt0) (trodAll_cons_mk (shut_int Try.underlying2 w1) trodAll_mk0)), rfl, bel.frame _, fun h => by cases h⟩

theorem over : Rows.fnExactDiskReadRow.holds Try.pinned (OpenSpec.ofChange Rows.fnExactDiskReadSpec) :=
  OpenClaim.holds_of_wide 6 Try.f6 rfl rfl rfl rfl rfl rfl rfl ⟨rfl, rfl, rfl, rfl, rfl⟩ rfl rfl rfl rfl rfl (by kernel_rfl) Try.func6 (by kernel_rfl)
    (of_decide_eq_true (by kernel_rfl)) (by unfold Func.isWrapper; first | (rw [if_pos (by decide +kernel)]; kernel_rfl) | (rw [if_neg (by decide +kernel)]; exact ⟨rfl, rfl⟩))
    (fun os started H enc _ => lifted os started H enc)

theorem proved : Rows.FnExactDiskReadSaid := over
#print axioms proved
end Go.Proofs.Ytjpcpdapbhmgiaa.FnExactDiskRead
