/-
  Whatever disk and list come in, DiskCrash of the program gives the disk that the model gives, in memory of its own, and leaves what was handed in as it was. No condition.
-/
import Derived.Test.YtjpcpdapbhmgiaaRows
import Derived.Test.YtjpcpdapbhmgiaaSz
import Derived.Test.YtjpcpdapbhmgiaaLawAid
import Derived.Test.YtjpcpdapbhmgiaaCrash
import Derived.Test.YtjpcpdapbhmgiaaLed
import Derived.Test.YtjpcpdapbhmgiaaOpenDisk
import Derived.WalkKit
import Derived.ProofKit
import Derived.OpenShut
import Derived.ShutString
import Derived.ChangeOld
import Derived.Below
import Derived.Lib.Hide
import Derived.Deep.RegionWith
import Derived.Deep.DeepCutAuto
namespace Go.Proofs.Ytjpcpdapbhmgiaa.FnExactDiskCrash
open Go.ChangeShapes Go.WideShapes Go.ChangeAt Go.RowKit
open Go.ChangeMaps (open_string shut_string)
set_option linter.unusedVariables false

set_option maxRecDepth 100000 in
set_option maxHeartbeats 16000000 in
theorem walk (v0 : Value) (d : Dk) (vk : Value) (keep : List Int) (w : World) (hv : DkAt w w.heap.size v0 d) (hd : Held d) (hk : Sl w w.heap.size 1 encI vk keep) (hkl : keep.length ≤ 9223372036854775807) (hkn : ∀ n ∈ keep, -9223372036854775808 ≤ n ∧ n ≤ 9223372036854775807) :
    Calls Try.prog 9 #[v0, vk] w fun e w' => e = .returned (.bool true) ∧ Below w.heap.size w w' := by
  clear hkn
  obtain ⟨vs, vp, rfl, hs, hp⟩ := hv
  by_cases hlen : 1048576 < keep.length
  · have hlen' : 1048576 < (keep.length : Int) := by omega
    obtain ⟨XA, xc, rfl⟩ := hk.form
    clear hk hs hp hd
    go_enter Try.func9, Try.ntmps9
    go_wp2
    go_ret
    exact ⟨rfl, (Below.refl _ _).alloc (Nat.le_refl _) _⟩
  have hlen' : ¬ 1048576 < (keep.length : Int) := by omega
  have HV := Lib.hid (show DkAt w w.heap.size (.agg #[vs, vp]) d from ⟨vs, vp, rfl, hs, hp⟩)
  have HSZ := Lib.hid (fun W (hb : Below w.heap.size w W) => sz_disk (.agg #[vs, vp]) d W ((HV.out.below hb).more hb.size) hd)
  have HTI := Lib.hid (fun W (hb : Below w.heap.size w W) => to_ints vk keep W ((hk.below hb).more hb.size) (by omega))
  obtain ⟨XA, xc, rfl⟩ := hk.form
  clear hs hp hd hk
  go_enter Try.func9, Try.ntmps9
  go_wp2_with fail
  refine (HSZ.out _ ((Below.refl _ _).alloc (Nat.le_refl _) _)).mono ?_
  rintro e w1 ⟨r, rfl, r0, r1, hq, hb1⟩
  have HQ := Lib.hid hq; clear hq
  have HL1 := Lib.hid (((⟨Below.refl _ _, fun p hp => (by simp at hp), fun p hp => (by simp at hp), fun p hp => (by simp at hp)⟩ : Led w w [] [] []).alloc (.cells #[vs, vp] 50)).lift hb1)
  clear hb1
  obtain ⟨x0, x1, xl⟩ := HL1.out.b2 (b := w.heap.size) (T := 50) (x0 := vs) (x1 := vp) (by simp)
  by_cases hr : r < 0
  · go_wp2
    go_ret
    exact ⟨rfl, HL1.out.bel⟩
  have HSM := Lib.hid (HQ.out (by omega))
  have HTD := Lib.hid (fun W (hb : Below w.heap.size w W) => to_disk (.agg #[vs, vp]) d W ((HV.out.below hb).more hb.size) HSM.out.1 HSM.out.2.2.1)
  have HSP := Lib.hid (fun v vk W (h : DkAt W W.heap.size v d) (h' : Sl W W.heap.size 1 encI vk keep) => spec_crash v vk d keep W h h' HSM.out (by omega))
  have HIM := Lib.hid (fun v vk W (h : DkAt W W.heap.size v d) (h' : Sl W W.heap.size 1 encI vk keep) => impl_crash v vk d keep W h h' HSM.out (by omega))
  have HSO := Lib.hid (crash_small d keep HSM.out)
  have HSD := Lib.hid (show d.S.length ≤ 140737488351232 ∧ d.P.length ≤ 140737488351232 from ⟨by have := HSM.out.1; omega, by have := HSM.out.2.2.1; omega⟩)
  have HED := Lib.hid (show markEnd 1 d ≤ 4000000 by unfold markEnd; have := HSM.out.1; have := HSM.out.2.2.1; omega)
  have HED' := Lib.hid (show 0 < markEnd 1 d by unfold markEnd; omega)
  have HEO := Lib.hid (show markEnd 1 (crashDk d keep) ≤ 100000000 by unfold markEnd; have := HSO.out.1; have := HSO.out.2; omega)
  have HOO := Lib.hid (show (crashDk d keep).S.length ≤ 140737488351232 ∧ (crashDk d keep).P.length ≤ 140737488351232 from ⟨by have := HSO.out.1; omega, by have := HSO.out.2; omega⟩)
  clear HSO HSM HV HSZ HQ
  generalize crashDk d keep = dk at *
  go_wp2_with fail
  refine (HTD.out _ HL1.out.bel).mono ?_
  intro e w2 h2
  obtain ⟨A1, c1, A2, c2, rfl, ho2, hb2⟩ := h2.parts
  have HL2 := Lib.hid (HL1.out.lift hb2)
  have HO2 := Lib.hid ho2
  clear h2 ho2 hb2 x0 x1 xl
  go_wp2_with fail
  refine (HTI.out _ HL2.out.bel).mono ?_
  rintro e w3 ⟨v3, rfl, ho3, hb3⟩
  obtain ⟨I3, i3, rfl⟩ := ho3.form
  have HL3 := Lib.hid (HL2.out.lift hb3)
  have HO2' := Lib.hid (HO2.out.lift hb3).at_
  have HI3 := Lib.hid (ho3.sl encI_len)
  clear ho3 hb3 HO2
  go_wp2_with fail
  refine (HSP.out _ _ _ HO2'.out HI3.out).mono ?_
  intro e w4 h4
  obtain ⟨D1, f1, D2, f2, rfl, ho4, hb4⟩ := h4.parts
  have HL4a := Lib.hid ((HL3.out.lift hb4).read (Nat.le_refl _) ho4.at_)
  clear h4 ho4 hb4 HO2' HI3
  obtain ⟨x0, x1, xl⟩ := HL4a.out.b2 (b := w.heap.size) (T := 50) (x0 := vs) (x1 := vp) (by simp)
  have hn0 := xl
  have HL4 := Lib.hid (HL4a.out.alloc (.cells #[.slice D1 dk.S.length f1, .slice D2 dk.P.length f2] 26))
  go_wp2_with fail
  refine (HTD.out _ HL4.out.bel).mono ?_
  intro e w5 h5
  obtain ⟨G1, g1, G2, g2, rfl, ho5, hb5⟩ := h5.parts
  have hz5 := hb5.size
  simp only [World.size_alloc] at hz5
  have HSPX := Lib.hid (ho5.span.wide (lo' := w4.heap.size + 1) (by simp) (Nat.le_refl _))
  have HL5a := Lib.hid ((HL4.out.lift hb5).hold (ho5.base (base' := w4.heap.size + 1) (by simp)))
  have HL5 := Lib.hid (HL5a.out.alloc (.cells #[.slice G1 d.S.length g1, .slice G2 d.P.length g2] 26))
  clear h5 ho5 hb5 x0 x1 xl
  go_wp2_with fail
  refine (HTI.out _ HL5.out.bel).mono ?_
  rintro e w6 ⟨v6, rfl, ho6, hb6⟩
  obtain ⟨X1, xd, rfl⟩ := ho6.form
  have hz6 := hb6.size
  simp only [World.size_alloc] at hz6
  have HL6 := Lib.hid (HL5.out.lift hb6)
  have HXL := Lib.hid (fun g (hg : (Value.slice X1 keep.length xd).ownBlock = some g) => (show w5.heap.size + 1 ≤ g ∧ g < w6.heap.size from ⟨by have := (ho6.lies g hg).1; simp at this; omega, (ho6.lies g hg).2⟩))
  have HI6 := Lib.hid (ho6.base (base' := w5.heap.size + 1) (by simp))
  clear ho6 hb6
  obtain ⟨y0, y1, yl⟩ := HL6.out.b2 (b := w5.heap.size) (T := 26) (x0 := .slice G1 d.S.length g1) (x1 := .slice G2 d.P.length g2) (by simp)
  go_wp2_with fail
  refine (HIM.out _ _ _ (HL6.out.ow (B := w4.heap.size + 1) (v := .agg #[.slice G1 d.S.length g1, .slice G2 d.P.length g2]) (d := d) (by simp)).at_ (HI6.out.sl encI_len)).mono ?_
  intro e w7 h7
  obtain ⟨K1, k1, K2, k2, rfl, ho7, hb7⟩ := h7.parts
  have hz7 := hb7.size
  have HSPG := Lib.hid ho7.span
  have HI7 := Lib.hid ((HI6.out.lift hb7).alloc (.cells #[.slice K1 dk.S.length k1, .slice K2 dk.P.length k2] 26))
  have HL7a := Lib.hid ((HL6.out.lift hb7).hold ho7)
  have HL7 := Lib.hid (HL7a.out.alloc (.cells #[.slice K1 dk.S.length k1, .slice K2 dk.P.length k2] 26))
  clear h7 ho7 hb7 y0 y1 yl
  obtain ⟨y0, y1, yl⟩ := HL7a.out.b2 (b := w4.heap.size) (T := 26) (x0 := .slice D1 dk.S.length f1) (x1 := .slice D2 dk.P.length f2) (by simp)
  go_wp2_with fail
  refine (eq_disk _ _ dk _ (HL7.out.ow (B := w6.heap.size) (v := .agg #[.slice K1 dk.S.length k1, .slice K2 dk.P.length k2]) (d := dk) (by simp)).at_ (HL7.out.at_ (B := w4.heap.size) (v := .agg #[.slice D1 dk.S.length f1, .slice D2 dk.P.length f2]) (d := dk) (by simp)) HOO.out.1 HOO.out.2).mono ?_
  rintro e w8 ⟨rfl, hb8⟩
  have HL8 := Lib.hid (HL7.out.lift hb8)
  have HI8 := Lib.hid (HI7.out.lift hb8)
  clear hb8 y0 y1 yl
  obtain ⟨x0, x1, xl⟩ := HL8.out.b2 (b := w.heap.size) (T := 50) (x0 := vs) (x1 := vp) (by simp)
  obtain ⟨y0, y1, yl⟩ := HL8.out.b2 (b := w5.heap.size) (T := 26) (x0 := .slice G1 d.S.length g1) (x1 := .slice G2 d.P.length g2) (by simp)
  go_upto_region 13 with fail
  go_cut [42] (fun u wx => u = .bool false ∧ ∃ wy : World, wy = wx ∧ Below w8.heap.size w8 wx)
  case first =>
    go_region_with (first
      | (go_at_call 29; refine (HTD.out _ HL8.out.bel.drew).mono ?_; intro e w9 h9; obtain ⟨M1, m1, M2, m2, rfl, ho9, hb9⟩ := h9.parts; obtain ⟨z0, z1, zl⟩ := (HL8.out.lift (undrew hb9)).b2 (b := w5.heap.size) (T := 26) (x0 := .slice G1 d.S.length g1) (x1 := .slice G2 d.P.length g2) (by simp))
      | (go_at_call 30; refine (eq_disk _ _ d _ ((HL8.out.lift (undrew hb9)).ow (B := w4.heap.size + 1) (v := .agg #[.slice G1 d.S.length g1, .slice G2 d.P.length g2]) (d := d) (by simp)).at_ ho9.at_ HSD.out.1 HSD.out.2).mono ?_; rintro e w10 ⟨rfl, hb10⟩))
    all_goals
      have HB10 := Lib.hid ((undrew hb9).trans (hb10.mono (undrew hb9).size))
      clear h9 ho9 hb9 hb10 x0 x1 xl y0 y1 yl z0 z1 zl
      go_wp2_with fail
      go_meet
      exact ⟨rfl, _, rfl, HB10.out⟩
  case rest =>
    obtain ⟨rfl, wx, rfl, hbx⟩ := hcut
    have HL9 := Lib.hid (HL8.out.lift hbx)
    have HI9 := Lib.hid (HI8.out.lift hbx)
    clear hbx x0 x1 xl y0 y1 yl HL8 HL7 HL7a HL6 HL5 HL5a HL4 HL4a HL3 HL2 HL1 HI8 HI7 HI6
    go_wp2_with fail
    refine (HTI.out _ HL9.out.bel).mono ?_
    rintro e w9 ⟨v9, rfl, ho9, hb9⟩
    obtain ⟨I9, i9, rfl⟩ := ho9.form
    have HL10 := Lib.hid (HL9.out.lift hb9)
    have HI10 := Lib.hid (HI9.out.lift hb9)
    have HT9 := Lib.hid (ho9.sl encI_len)
    clear ho9 hb9 HL9 HI9
    go_wp2_with fail
    refine (eq_ints _ _ keep _ (HI10.out.sl encI_len) HT9.out (by omega)).mono ?_
    rintro e w10 ⟨rfl, hb10⟩
    have HL11 := Lib.hid (HL10.out.lift hb10)
    have HI11 := Lib.hid (HI10.out.lift hb10)
    clear hb10 HL10 HI10 HT9
    obtain ⟨y0, y1, yl⟩ := HL11.out.b2 (b := w5.heap.size) (T := 26) (x0 := .slice G1 d.S.length g1) (x1 := .slice G2 d.P.length g2) (by simp)
    go_wp2_with fail
    refine (mark_disk1 (.agg #[.slice G1 d.S.length g1, .slice G2 d.P.length g2]) d (w4.heap.size + 1) (w4.heap.size + 1) w5.heap.size _ (HL11.out.ow (by simp)) (by have := HED.out; omega) HSPX.out).mono ?_
    intro e w11 h11
    obtain ⟨r1, hr1, rfl, ho11, hw11⟩ := h11.back
    have HL12 := Lib.hid (HL11.out.second.within hw11 (by omega) (fun p hp => by
      simp only [List.mem_cons, List.not_mem_nil, or_false] at hp
      rcases hp with rfl | rfl | rfl | rfl <;> simp only <;> omega) (fun p hp => by
      simp only [List.mem_cons, List.not_mem_nil, or_false] at hp
      subst hp
      simp only; omega) (fun p hp => by
      simp only [List.mem_cons, List.not_mem_nil, or_false] at hp
      subst hp
      simp only; omega))
    have HI12 := Lib.hid (HI11.out.kept hw11 (.inl (by omega)))
    have hr1a : 0 < r1 := by have := HED'.out; omega
    have hr1b : r1 ≤ 4000000 := by have := HED.out; omega
    clear h11 hr1 ho11 hw11 y0 y1 yl HL11 HI11
    go_wp2_with fail
    refine (mark_ints _ keep (w5.heap.size + 1) r1 _ HI12.out hr1a (by omega)).mono ?_
    rintro e w12 ⟨r2, rfl, hg12⟩
    have HW12 := Lib.hid (Within.of_grown (lo := w5.heap.size + 1) (hi := w6.heap.size) hg12 (fun g hg => HXL.out g hg))
    have HL13 := Lib.hid (HL12.out.within HW12.out (by omega) (fun p hp => by
      simp only [List.mem_cons, List.not_mem_nil, or_false] at hp
      rcases hp with rfl | rfl | rfl | rfl <;> simp only <;> omega) (fun p hp => by
      simp only [List.mem_cons, List.not_mem_nil, or_false] at hp
      subst hp
      simp only; omega) (fun p hp => by
      simp only [List.mem_cons, List.not_mem_nil, or_false] at hp
      subst hp
      simp only; omega))
    have hr20 : ¬ (r2 : Int) < 0 := by omega
    clear hg12 HW12 HL12 HI12
    obtain ⟨y0, y1, yl⟩ := HL13.out.b2 (b := w7.heap.size) (T := 26) (x0 := .slice K1 dk.S.length k1) (x1 := .slice K2 dk.P.length k2) (by simp)
    obtain ⟨z0, z1, zl⟩ := HL13.out.b2 (b := w4.heap.size) (T := 26) (x0 := .slice D1 dk.S.length f1) (x1 := .slice D2 dk.P.length f2) (by simp)
    go_wp2_with fail
    refine (eq_disk _ _ dk _ (HL13.out.ow (B := w6.heap.size) (v := .agg #[.slice K1 dk.S.length k1, .slice K2 dk.P.length k2]) (d := dk) (by simp)).at_ (HL13.out.at_ (B := w4.heap.size) (v := .agg #[.slice D1 dk.S.length f1, .slice D2 dk.P.length f2]) (d := dk) (by simp)) HOO.out.1 HOO.out.2).mono ?_
    rintro e w13 ⟨rfl, hb13⟩
    have HL14 := Lib.hid (HL13.out.lift hb13)
    clear hb13 y0 y1 yl z0 z1 zl hr20 HL13
    obtain ⟨y0, y1, yl⟩ := HL14.out.b2 (b := w7.heap.size) (T := 26) (x0 := .slice K1 dk.S.length k1) (x1 := .slice K2 dk.P.length k2) (by simp)
    go_wp2_with fail
    refine (mark_disk1 _ dk w6.heap.size w6.heap.size w7.heap.size _ (HL14.out.ow (B := w6.heap.size) (v := .agg #[.slice K1 dk.S.length k1, .slice K2 dk.P.length k2]) (d := dk) (by simp)) HEO.out HSPG.out).mono ?_
    intro e w14 h14
    obtain ⟨r3, hr3, rfl, ho14, hw14⟩ := h14.back
    have HR3 := Lib.hid hr3
    have HL15 := Lib.hid ((HL14.out.drop.within hw14 (by omega) (fun p hp => by
      simp only [List.mem_cons, List.not_mem_nil, or_false] at hp
      rcases hp with rfl | rfl | rfl | rfl <;> simp only <;> omega) (fun p hp => by
      simp only [List.mem_cons, List.not_mem_nil, or_false] at hp
      subst hp
      simp only; omega) (fun p hp => by simp at hp)).hold ho14)
    clear h14 hr3 ho14 hw14 y0 y1 yl HL14
    obtain ⟨y0, y1, yl⟩ := HL15.out.b2 (b := w7.heap.size) (T := 26) (x0 := .slice K1 dk.S.length k1) (x1 := .slice K2 dk.P.length k2) (by simp)
    go_wp2_with fail
    refine (held_disk1 _ dk _ (HL15.out.ow (B := w6.heap.size) (v := .agg #[.slice K1 dk.S.length k1, .slice K2 dk.P.length k2]) (d := markDk 1 dk) (by simp)).at_ HEO.out).mono ?_
    intro e w15 h15
    obtain ⟨rfl, hb15⟩ := h15.back
    rw [← HR3.out]
    have hrr : ((r3 : Int) != (r3 : Int)) = false := by simp
    have hr3 : ¬ (r3 : Int) < 0 := by omega
    have HL16 := Lib.hid (HL15.out.lift hb15)
    clear h15 hb15 y0 y1 yl HL15
    obtain ⟨x0, x1, xl⟩ := HL16.out.b2 (b := w.heap.size) (T := 50) (x0 := vs) (x1 := vp) (by simp)
    go_wp2_with fail
    refine (HTD.out _ HL16.out.bel).mono ?_
    intro e w16 h16
    obtain ⟨P1, p1, P2, p2, rfl, ho16, hb16⟩ := h16.parts
    have HL17 := Lib.hid (HL16.out.lift hb16)
    have HO16 := Lib.hid ho16
    clear h16 ho16 hb16 x0 x1 xl HL16
    go_wp2_with fail
    refine (HTI.out _ HL17.out.bel).mono ?_
    rintro e w17 ⟨v17, rfl, ho17, hb17⟩
    obtain ⟨I17, i17, rfl⟩ := ho17.form
    have HL18 := Lib.hid (HL17.out.lift hb17)
    have HO17 := Lib.hid (HO16.out.lift hb17).at_
    have HI17 := Lib.hid (ho17.sl encI_len)
    clear ho17 hb17 HL17 HO16
    go_wp2_with fail
    refine (HIM.out _ _ _ HO17.out HI17.out).mono ?_
    intro e w18 h18
    obtain ⟨Q1, q1, Q2, q2, rfl, ho18, hb18⟩ := h18.parts
    have HL19a := Lib.hid (HL18.out.lift hb18)
    have HO18 := Lib.hid (ho18.lift ((Below.refl _ _).alloc (Nat.le_refl _) (.cells #[.slice Q1 dk.S.length q1, .slice Q2 dk.P.length q2] 26)))
    have HL19 := Lib.hid (HL19a.out.alloc (.cells #[.slice Q1 dk.S.length q1, .slice Q2 dk.P.length q2] 26))
    clear h18 ho18 hb18 HL18 HO17 HI17
    obtain ⟨y0, y1, yl⟩ := HL19a.out.b2 (b := w4.heap.size) (T := 26) (x0 := .slice D1 dk.S.length f1) (x1 := .slice D2 dk.P.length f2) (by simp)
    go_wp2_with fail
    refine (eq_disk _ _ dk _ HO18.out.at_ (HL19.out.at_ (B := w4.heap.size) (v := .agg #[.slice D1 dk.S.length f1, .slice D2 dk.P.length f2]) (d := dk) (by simp)) HOO.out.1 HOO.out.2).mono ?_
    rintro e w19 ⟨rfl, hb19⟩
    have HL20 := Lib.hid (HL19.out.lift hb19)
    clear hb19 y0 y1 yl HL19 HL19a HO18
    obtain ⟨y0, y1, yl⟩ := HL20.out.b2 (b := w7.heap.size) (T := 26) (x0 := .slice K1 dk.S.length k1) (x1 := .slice K2 dk.P.length k2) (by simp)
    go_wp2_with fail
    refine (held_disk1 _ dk _ (HL20.out.ow (B := w6.heap.size) (v := .agg #[.slice K1 dk.S.length k1, .slice K2 dk.P.length k2]) (d := markDk 1 dk) (by simp)).at_ HEO.out).mono ?_
    intro e w20 h20
    obtain ⟨rfl, hb20⟩ := h20.back
    rw [← HR3.out]
    have HB20 := Lib.hid (HL20.out.lift hb20).bel
    clear h20 hb20 y0 y1 yl HL20
    go_wp2
    go_ret
    exact ⟨rfl, HB20.out⟩

theorem laidOut : laidOutB Try.prog = true := by kernel_rfl
theorem own : ownKnob Try.prog.godebug = none := by kernel_rfl

set_option maxRecDepth 100000 in
theorem lifted (os : Os) (started : os.Started) (H : Type) (enc : TypeId × Value → H) :
    ReturnsInHanded {} Try.checked os 9 .any (Rows.fnExactDiskCrashSpec.pre6 enc Try.prog Try.f9 Rows.fnExactDiskCrashRow.domain false) (Rows.fnExactDiskCrashSpec.post enc Try.prog Try.f9 false true false false) := by
  refine returnsInHanded_of_change (C := Try.checked) own started (by kernel_rfl) Try.func9
    (ChangeSpec.witness6 (enc := enc) (C := Try.checked) false ⟨#[], #[.agg #[.slice none 0 0, .slice none 0 0], .slice none 0 0], []⟩ 8 (by kernel_rfl) (by kernel_rfl) (by kernel_rfl) (by kernel_rfl)) ?_
  intro W base args ds gs before hval0 hW hcnd _
  have hval : ∀ (j : Nat) t v, Try.f9.params[j]? = some t → args[j]? = some v → Value.okWide Try.prog W .any base t v := hval0
  have hW' := hW
  obtain ⟨p, q, hA0, hV, rfl, hfz, hnd⟩ := hW
  have hA : DataW.TrodAll enc Try.prog W 0 (fun _ => true) true Try.f9.params.toList args.toList ds p := hA0
  rw [Try.params9] at hA hval
  obtain ⟨v0, vs0, d0, ds0, p0, q0, hargs, rfl, rfl, h0, r0⟩ := trodAll_cons hA
  obtain ⟨v1, vs1, d1, ds1, p1, q1, rfl, rfl, rfl, h1, r1⟩ := trodAll_cons r0
  obtain ⟨rfl, rfl, rfl⟩ := trodAll_nil r1
  obtain rfl : args = #[v0, v1] := by cases args; simp_all
  obtain ⟨rfl, rfl⟩ := trodVars_none hV
  have k0 := h0
  have lt0 : ∀ x ∈ p0, x.block < W.heap.size := by obtain ⟨m, hm⟩ := k0; exact DataW.trod_lt m _ _ _ hm
  obtain ⟨a0, w0, z0⟩ := open_disk (hval 0 50 v0 rfl rfl) h0
  have k1 := h1
  have lt1 : ∀ x ∈ p1, x.block < W.heap.size := by obtain ⟨m, hm⟩ := k1; exact DataW.trod_lt m _ _ _ hm
  obtain ⟨a1, w1, z1, y1⟩ : ∃ l : List Int, Sl W W.heap.size 1 encI v1 l ∧ l.length ≤ 9223372036854775807 ∧ ∀ n ∈ l, -9223372036854775808 ≤ n ∧ n ≤ 9223372036854775807 := by
    obtain ⟨b, l, c, rfl⟩ := okWide_slice Try.underlying32 (hval 1 32 v1 rfl rfl)
    obtain ⟨fuel, hf⟩ := h1
    exact open_nums Try.underlying32 Try.underlying2 (by kernel_rfl) (by simpa [Value.cells] using hf)
  clear hA0 hval0
  simp only [List.append_nil] at hW'
  refine (walk v0 a0 v1 a1 W w0 z0 w1 z1 y1).mono fun e W' ⟨he, bel⟩ => ?_
  subst he
  exact ⟨_, rfl, _, _, _, [], _, [], hW', trodAll_mk1 (shut_bool Try.underlying4 _), (trodAll_cons_mk (Below.trod laidOut (by kernel_rfl) (of_decide_eq_true (by kernel_rfl)) k0 bel lt0) (trodAll_cons_mk (Below.trod laidOut (by kernel_rfl) (of_decide_eq_true (by kernel_rfl)) k1 bel lt1) trodAll_mk0)), rfl, bel.frame _, fun h => by cases h⟩

theorem over : Rows.fnExactDiskCrashRow.holds Try.pinned (OpenSpec.ofChange Rows.fnExactDiskCrashSpec) :=
  OpenClaim.holds_of_wide 9 Try.f9 rfl rfl rfl rfl rfl rfl rfl ⟨rfl, rfl, rfl, rfl, rfl⟩ rfl rfl rfl rfl rfl (by kernel_rfl) Try.func9 (by kernel_rfl)
    (of_decide_eq_true (by kernel_rfl)) (by unfold Func.isWrapper; first | (rw [if_pos (by decide +kernel)]; kernel_rfl) | (rw [if_neg (by decide +kernel)]; exact ⟨rfl, rfl⟩))
    (fun os started H enc _ => lifted os started H enc)

theorem proved : Rows.FnExactDiskCrashSaid := over
#print axioms proved
end Go.Proofs.Ytjpcpdapbhmgiaa.FnExactDiskCrash
