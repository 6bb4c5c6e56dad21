/-
  Whatever disk comes in, and whatever the listed variables' errors, AreaFormat of the program tells what the model tells, every field, in memory of its own, and leaves what was handed in as it was. The listed variables hold what the program's text lays (the card ties them to the pruned copy of the project that the seat holds).
-/
import Derived.Test.YthchlfllcnlmjaaDoorRows
import Derived.Test.YthchlfllcnlmjaaDoorTie
import Derived.Test.YthchlfllcnlmjaaDoorCards
import Derived.Test.YthchlfllcnlmjaaDoorFormatI
import Derived.Test.YthchlfllcnlmjaaDoorSz
import Derived.Test.YthchlfllcnlmjaaDoorBase2
import Derived.Test.YthchlfllcnlmjaaDoorOpenDisk
import Derived.WalkKit
import Derived.ProofKit
import Derived.OpenShut
import Derived.ShutString
import Derived.ChangeOld
import Derived.Below
import Derived.Lib.Hide
import Derived.ChangeSame
import Derived.ChangeVars
import Derived.JoinedOf
import Derived.RowKit
import Derived.RowKitTokens
import Derived.LaidLaws
import Derived.LaidHandle
import Derived.Stop.Joined
import Derived.SevenTiedAt
import Derived.Deep.RegionWith
import Derived.Deep.DeepCutAuto
import Derived.OpenVars
import Derived.Stop.LaidTwo
import Derived.Stop.LaidErr
import Derived.LaidSub
import Derived.MakeChecks
import Derived.Stop.JoinedAt
import Derived.Stop.Texts
namespace Go.Proofs.YthchlfllcnlmjaaDoor.FnExactAreaFormat
open Go.ChangeShapes Go.WideShapes Go.ChangeAt Go.RowKit
open Go.ChangeMaps (open_string shut_string)
open Go.Extern.Stop Go.Stop Go.Extern Go.Kit
set_option linter.unusedVariables false

theorem format_small (d : Dk) (h : Small d) : (formatAo d).dk.S.length ≤ 1048576 ∧ (formatAo d).dk.P.length ≤ 1048577 := by
  by_cases hR : Right d
  · by_cases h3 : d.S.length < 3
    · rw [format_full hR h3]; simp [illAo]
    · by_cases hc : (fmtDo d).code = 0
      · rw [format_ok hR h3 hc]
        exact flush_small _ (right_small' (write_right 0 (headB 0 0 0) hc))
      · rw [format_ill hR h3 hc]; simp [illAo]
  · rw [format_form hR]; simp [illAo]
theorem _root_.Go.Proofs.YthchlfllcnlmjaaDoor.Led.b5 {w W : World} {L : List (Nat × Obj)} {D O : List (Nat × Value × Dk)} (h : Led w W L D O) {b : Nat} {x0 x1 x2 x3 x4 : Value} {T : TypeId} (hm : (b, Obj.cells #[x0, x1, x2, x3, x4] T (0, 0)) ∈ L) : W.cell? ⟨b, 0, none⟩ = some x0 ∧ W.cell? ⟨b, 1, none⟩ = some x1 ∧ W.cell? ⟨b, 2, none⟩ = some x2 ∧ W.cell? ⟨b, 3, none⟩ = some x3 ∧ W.cell? ⟨b, 4, none⟩ = some x4 ∧ b < W.heap.size := by
  obtain ⟨h1, h2, h3, h4, h5⟩ := box5 (h.blk _ hm)
  exact ⟨h1, h2, h3, h4, h5, block_lt (h.blk _ hm)⟩

set_option maxRecDepth 100000 in
set_option maxHeartbeats 16000000 in
theorem walk (v0 : Value) (d : Dk) (w : World) {a0 a1 a2 a3 : Addr} (hv : DkAt w w.heap.size v0 d) (hd : Held d) (hE : Sents w a0 a1 a2 a3) :
    Calls Tryd.prog 3 #[v0] w fun e w' => e = .returned (.bool true) ∧ Below w.heap.size w w' := by
  obtain ⟨vs, vp, rfl, hs, hp⟩ := hv
  have HV := Lib.hid (show DkAt w w.heap.size (.agg #[vs, vp]) d from ⟨vs, vp, rfl, hs, hp⟩)
  have HSZ := Lib.hid (fun W (hb : Below w.heap.size w W) => sz_disk (.agg #[vs, vp]) d W ((HV.out.below hb).more hb.size) hd)
  clear hs hp hd
  go_enter Tryd.func3, Tryd.ntmps3
  go_wp2_with fail
  refine (HSZ.out _ ((Below.refl _ _).alloc (Nat.le_refl _) _)).mono ?_
  rintro e w1 ⟨r, rfl, r0, r1, hq, hb1⟩
  have HQ := Lib.hid hq; clear hq
  have HL1 := Lib.hid (((⟨Below.refl _ _, fun p hp => (by simp at hp), fun p hp => (by simp at hp), fun p hp => (by simp at hp)⟩ : Led w w [] [] []).alloc (.cells #[vs, vp] 25)).lift hb1)
  clear hb1
  obtain ⟨x0, x1, xl⟩ := HL1.out.b2 (b := w.heap.size) (T := 25) (x0 := vs) (x1 := vp) (by simp)
  by_cases hr : r < 0
  · go_wp2
    go_ret
    exact ⟨rfl, HL1.out.bel⟩
  have HSM := Lib.hid (HQ.out (by omega))
  have HTD := Lib.hid (fun W (hb : Below w.heap.size w W) => to_disk (.agg #[vs, vp]) d W ((HV.out.below hb).more hb.size) HSM.out.1 HSM.out.2.2.1)
  have HSP := Lib.hid (fun v W (h : DkAt W W.heap.size v d) => spec_format v d W h (HSM.out))
  have HIM := Lib.hid (fun v W (h : DkAt W W.heap.size v d) (hb : Below w.heap.size w W) => impl_format v d W h (HSM.out) (hE.lift hb))
  have HSO := Lib.hid (format_small d HSM.out)
  have HSD := Lib.hid (show d.S.length ≤ 140737488351232 ∧ d.P.length ≤ 140737488351232 from ⟨by have := HSM.out.1; omega, by have := HSM.out.2.2.1; omega⟩)
  have HED := Lib.hid (show markEnd 1 d ≤ 100000000 by unfold markEnd; have := HSM.out.1; have := HSM.out.2.2.1; omega)
  have HEO := Lib.hid (show markEnd 1 (formatAo d).dk ≤ 100000000 by unfold markEnd; have := HSO.out.1; have := HSO.out.2; omega)
  have HOO := Lib.hid (show (formatAo d).dk.S.length ≤ 140737488351232 ∧ (formatAo d).dk.P.length ≤ 140737488351232 from ⟨by have := HSO.out.1; omega, by have := HSO.out.2; omega⟩)
  clear HSO HSM HV HSZ HQ hE
  generalize formatAo d = o at *
  obtain ⟨dk, dt, dg, dc⟩ := o
  dsimp only at HEO HOO
  go_wp2_with fail
  refine (HTD.out _ HL1.out.bel).mono ?_
  intro e w2 h2
  obtain ⟨A1, c1, A2, c2, rfl, ho2, hb2⟩ := h2.parts
  have HL2 := Lib.hid (HL1.out.lift hb2)
  have HO2 := Lib.hid ho2.at_
  clear h2 ho2 hb2 x0 x1 xl
  go_wp2_with fail
  refine (HSP.out _ _ HO2.out).mono ?_
  intro e w3 h3
  obtain ⟨D1, f1, D2, f2, rfl, ho3, hb3⟩ := h3.parts
  have HL3a := Lib.hid ((HL2.out.lift hb3).read (Nat.le_refl _) ho3.at_)
  clear h3 ho3 hb3
  obtain ⟨x0, x1, xl⟩ := HL3a.out.b2 (b := w.heap.size) (T := 25) (x0 := vs) (x1 := vp) (by simp)
  have hn0 := xl
  have HL3 := Lib.hid (HL3a.out.alloc (.cells #[.slice D1 dk.S.length f1, .slice D2 dk.P.length f2, .string dt, .int .i64 dg, .int .i64 dc] 31))
  go_wp2_with fail
  refine (HTD.out _ HL3.out.bel).mono ?_
  intro e w4 h4
  obtain ⟨G1, g1, G2, g2, rfl, ho4, hb4⟩ := h4.parts
  have hz4 := hb4.size
  simp only [World.size_alloc] at hz4
  have HSPX := Lib.hid (ho4.span.wide (lo' := w3.heap.size + 1) (by simp) (Nat.le_refl _))
  have HL4a := Lib.hid ((HL3.out.lift hb4).hold (ho4.base (base' := w3.heap.size + 1) (by simp)))
  have HL4 := Lib.hid (HL4a.out.alloc (.cells #[.slice G1 d.S.length g1, .slice G2 d.P.length g2] 29))
  clear h4 ho4 hb4 x0 x1 xl
  go_wp2_with fail
  refine (HIM.out _ _ (HL4.out.ow (B := w3.heap.size + 1) (v := .agg #[.slice G1 d.S.length g1, .slice G2 d.P.length g2]) (d := d) (by simp)).at_ HL4.out.bel).mono ?_
  intro e w5 h5
  obtain ⟨K1, k1, K2, k2, rfl, ho5, hb5⟩ := h5.parts
  have hz5 := hb5.size
  simp only [World.size_alloc] at hz5
  have HSPG := Lib.hid (ho5.span.wide (lo' := w4.heap.size + 1) (by simp) (Nat.le_refl _))
  have HL5a := Lib.hid ((HL4.out.lift hb5).hold (ho5.base (base' := w4.heap.size + 1) (by simp)))
  have HL5 := Lib.hid (HL5a.out.alloc (.cells #[.slice K1 dk.S.length k1, .slice K2 dk.P.length k2, .string dt, .int .i64 dg, .int .i64 dc] 31))
  clear h5 ho5 hb5
  obtain ⟨y0, y1, y2, y3, y4, yl⟩ := HL5a.out.b5 (b := w3.heap.size) (T := 31) (x0 := .slice D1 dk.S.length f1) (x1 := .slice D2 dk.P.length f2) (x2 := .string dt) (x3 := .int .i64 dg) (x4 := .int .i64 dc) (by simp)
  go_wp2_with fail
  refine (eq_areaout _ _ _ _ dk dt dg dc _ (HL5.out.ow (B := w4.heap.size + 1) (v := .agg #[.slice K1 dk.S.length k1, .slice K2 dk.P.length k2]) (d := dk) (by simp)).at_ (HL5.out.at_ (B := w3.heap.size) (v := .agg #[.slice D1 dk.S.length f1, .slice D2 dk.P.length f2]) (d := dk) (by simp)) HOO.out.1 HOO.out.2).mono ?_
  rintro e w6 ⟨rfl, hb6⟩
  have HL6 := Lib.hid (HL5.out.lift hb6)
  clear hb6 y0 y1 y2 y3 y4 yl
  obtain ⟨x0, x1, xl⟩ := HL6.out.b2 (b := w.heap.size) (T := 25) (x0 := vs) (x1 := vp) (by simp)
  obtain ⟨y0, y1, yl⟩ := HL6.out.b2 (b := w4.heap.size) (T := 29) (x0 := .slice G1 d.S.length g1) (x1 := .slice G2 d.P.length g2) (by simp)
  go_upto_region 10 with fail
  go_cut [31] (fun u wx => u = .bool false ∧ ∃ wy : World, wy = wx ∧ Below w6.heap.size w6 wx)
  case first =>
    go_region_with (first
      | (go_at_call 6; refine (HTD.out _ HL6.out.bel.drew).mono ?_; intro e w7 h7; obtain ⟨M1, m1, M2, m2, rfl, ho7, hb7⟩ := h7.parts; obtain ⟨z0, z1, zl⟩ := (HL6.out.lift (undrew hb7)).b2 (b := w4.heap.size) (T := 29) (x0 := .slice G1 d.S.length g1) (x1 := .slice G2 d.P.length g2) (by simp))
      | (go_at_call 9; refine (eq_disk _ _ d _ ((HL6.out.lift (undrew hb7)).ow (B := w3.heap.size + 1) (v := .agg #[.slice G1 d.S.length g1, .slice G2 d.P.length g2]) (d := d) (by simp)).at_ ho7.at_ HSD.out.1 HSD.out.2).mono ?_; rintro e w8 ⟨rfl, hb8⟩))
    all_goals
      have HB8 := Lib.hid ((undrew hb7).trans (hb8.mono (undrew hb7).size))
      clear h7 ho7 hb7 hb8 x0 x1 xl y0 y1 yl z0 z1 zl
      go_wp2_with fail
      go_meet
      exact ⟨rfl, _, rfl, HB8.out⟩
  case rest =>
    obtain ⟨rfl, wx, rfl, hbx⟩ := hcut
    have HL7 := Lib.hid (HL6.out.lift hbx)
    clear hbx x0 x1 xl y0 y1 yl HL6 HL5 HL5a HL4 HL4a HL3 HL3a HL2 HL1 HO2
    obtain ⟨y0, y1, yl⟩ := HL7.out.b2 (b := w4.heap.size) (T := 29) (x0 := .slice G1 d.S.length g1) (x1 := .slice G2 d.P.length g2) (by simp)
    go_wp2_with fail
    refine (mark_disk1 (.agg #[.slice G1 d.S.length g1, .slice G2 d.P.length g2]) d (w3.heap.size + 1) (w3.heap.size + 1) w4.heap.size _ (HL7.out.ow (by simp)) HED.out HSPX.out).mono ?_
    intro e w8 h8
    obtain ⟨r1, hr1, rfl, ho8, hw8⟩ := h8.back
    have HL8 := Lib.hid (HL7.out.second.within hw8 (by omega) (fun p hp => by
      simp only [List.mem_cons, List.not_mem_nil, or_false] at hp
      rcases hp with rfl | rfl | rfl | rfl <;> simp only <;> omega) (fun p hp => by
      simp only [List.mem_cons, List.not_mem_nil, or_false] at hp
      subst hp
      simp only; omega) (fun p hp => by
      simp only [List.mem_cons, List.not_mem_nil, or_false] at hp
      subst hp
      simp only; omega))
    have hr0 : ¬ (r1 : Int) < 0 := by omega
    clear h8 hr1 ho8 hw8 y0 y1 yl HL7
    obtain ⟨y0, y1, y2, y3, y4, yl⟩ := HL8.out.b5 (b := w5.heap.size) (T := 31) (x0 := .slice K1 dk.S.length k1) (x1 := .slice K2 dk.P.length k2) (x2 := .string dt) (x3 := .int .i64 dg) (x4 := .int .i64 dc) (by simp)
    obtain ⟨z0, z1, z2, z3, z4, zl⟩ := HL8.out.b5 (b := w3.heap.size) (T := 31) (x0 := .slice D1 dk.S.length f1) (x1 := .slice D2 dk.P.length f2) (x2 := .string dt) (x3 := .int .i64 dg) (x4 := .int .i64 dc) (by simp)
    go_wp2_with fail
    refine (eq_areaout _ _ _ _ dk dt dg dc _ (HL8.out.ow (B := w4.heap.size + 1) (v := .agg #[.slice K1 dk.S.length k1, .slice K2 dk.P.length k2]) (d := dk) (by simp)).at_ (HL8.out.at_ (B := w3.heap.size) (v := .agg #[.slice D1 dk.S.length f1, .slice D2 dk.P.length f2]) (d := dk) (by simp)) HOO.out.1 HOO.out.2).mono ?_
    rintro e w9 ⟨rfl, hb9⟩
    have HL9 := Lib.hid (HL8.out.lift hb9)
    clear hb9 y0 y1 y2 y3 y4 yl z0 z1 z2 z3 z4 zl hr0 HL8
    obtain ⟨y0, y1, y2, y3, y4, yl⟩ := HL9.out.b5 (b := w5.heap.size) (T := 31) (x0 := .slice K1 dk.S.length k1) (x1 := .slice K2 dk.P.length k2) (x2 := .string dt) (x3 := .int .i64 dg) (x4 := .int .i64 dc) (by simp)
    go_wp2_with fail
    refine (mark_areaout1 _ _ dt dg dc dk (w4.heap.size + 1) (w4.heap.size + 1) w5.heap.size _ (HL9.out.ow (B := w4.heap.size + 1) (v := .agg #[.slice K1 dk.S.length k1, .slice K2 dk.P.length k2]) (d := dk) (by simp)) HEO.out HSPG.out).mono ?_
    intro e w10 h10
    obtain ⟨r2, hr2, rfl, ho10, hw10⟩ := h10.back
    have HR2 := Lib.hid hr2
    have HL10 := Lib.hid ((HL9.out.drop.within hw10 (by omega) (fun p hp => by
      simp only [List.mem_cons, List.not_mem_nil, or_false] at hp
      rcases hp with rfl | rfl | rfl | rfl <;> simp only <;> omega) (fun p hp => by
      simp only [List.mem_cons, List.not_mem_nil, or_false] at hp
      subst hp
      simp only; omega) (fun p hp => by simp at hp)).hold ho10)
    clear h10 hr2 ho10 hw10 y0 y1 y2 y3 y4 yl HL9
    obtain ⟨y0, y1, y2, y3, y4, yl⟩ := HL10.out.b5 (b := w5.heap.size) (T := 31) (x0 := .slice K1 dk.S.length k1) (x1 := .slice K2 dk.P.length k2) (x2 := .string dt) (x3 := .int .i64 dg) (x4 := .int .i64 dc) (by simp)
    go_wp2_with fail
    refine (held_areaout1 _ _ dt dg dc dk _ (HL10.out.ow (B := w4.heap.size + 1) (v := .agg #[.slice K1 dk.S.length k1, .slice K2 dk.P.length k2]) (d := markDk 1 dk) (by simp)).at_ HEO.out).mono ?_
    intro e w11 h11
    obtain ⟨rfl, hb11⟩ := h11.back
    rw [← HR2.out]
    have hrr : ((r2 : Int) != (r2 : Int)) = false := by simp
    have hr2 : ¬ (r2 : Int) < 0 := by omega
    have HL11 := Lib.hid (HL10.out.lift hb11)
    clear h11 hb11 y0 y1 y2 y3 y4 yl HL10
    obtain ⟨x0, x1, xl⟩ := HL11.out.b2 (b := w.heap.size) (T := 25) (x0 := vs) (x1 := vp) (by simp)
    go_wp2_with fail
    refine (HTD.out _ HL11.out.bel).mono ?_
    intro e w12 h12
    obtain ⟨P1, p1, P2, p2, rfl, ho12, hb12⟩ := h12.parts
    have HL12 := Lib.hid (HL11.out.lift hb12)
    have HO12 := Lib.hid ho12.at_
    clear h12 ho12 hb12 x0 x1 xl HL11
    go_wp2_with fail
    refine (HIM.out _ _ HO12.out HL12.out.bel).mono ?_
    intro e w13 h13
    obtain ⟨Q1, q1, Q2, q2, rfl, ho13, hb13⟩ := h13.parts
    have HL13a := Lib.hid (HL12.out.lift hb13)
    have HO13 := Lib.hid (ho13.lift ((Below.refl _ _).alloc (Nat.le_refl _) (.cells #[.slice Q1 dk.S.length q1, .slice Q2 dk.P.length q2, .string dt, .int .i64 dg, .int .i64 dc] 31)))
    have HL13 := Lib.hid (HL13a.out.alloc (.cells #[.slice Q1 dk.S.length q1, .slice Q2 dk.P.length q2, .string dt, .int .i64 dg, .int .i64 dc] 31))
    clear h13 ho13 hb13 HL12 HO12
    obtain ⟨y0, y1, y2, y3, y4, yl⟩ := HL13a.out.b5 (b := w3.heap.size) (T := 31) (x0 := .slice D1 dk.S.length f1) (x1 := .slice D2 dk.P.length f2) (x2 := .string dt) (x3 := .int .i64 dg) (x4 := .int .i64 dc) (by simp)
    go_wp2_with fail
    refine (eq_areaout _ _ _ _ dk dt dg dc _ HO13.out.at_ (HL13.out.at_ (B := w3.heap.size) (v := .agg #[.slice D1 dk.S.length f1, .slice D2 dk.P.length f2]) (d := dk) (by simp)) HOO.out.1 HOO.out.2).mono ?_
    rintro e w14 ⟨rfl, hb14⟩
    have HL14 := Lib.hid (HL13.out.lift hb14)
    clear hb14 y0 y1 y2 y3 y4 yl HL13 HL13a HO13
    obtain ⟨y0, y1, y2, y3, y4, yl⟩ := HL14.out.b5 (b := w5.heap.size) (T := 31) (x0 := .slice K1 dk.S.length k1) (x1 := .slice K2 dk.P.length k2) (x2 := .string dt) (x3 := .int .i64 dg) (x4 := .int .i64 dc) (by simp)
    go_wp2_with fail
    refine (held_areaout1 _ _ dt dg dc dk _ (HL14.out.ow (B := w4.heap.size + 1) (v := .agg #[.slice K1 dk.S.length k1, .slice K2 dk.P.length k2]) (d := markDk 1 dk) (by simp)).at_ HEO.out).mono ?_
    intro e w15 h15
    obtain ⟨rfl, hb15⟩ := h15.back
    rw [← HR2.out]
    have HB15 := Lib.hid (HL14.out.lift hb15).bel
    clear h15 hb15 y0 y1 y2 y3 y4 yl HL14
    go_wp2
    go_ret
    exact ⟨rfl, HB15.out⟩


theorem laidOut : laidOutB Tryd.prog = true := by kernel_rfl
theorem own : ownKnob Tryd.prog.godebug = none := by kernel_rfl
theorem rt : (Tryd.prog.cutTypes.find? (·.1 == "internal/reflectlite.rtype")).map (·.2) = some 111 := by kernel_rfl

theorem trodVars_len {H : Type} {enc : TypeId × Value → H} {P : Program} {w : World} {sp : Nat → Bool} : ∀ {ns : List String} {gs : List (DataW H)} {ps : List MemPlace}, DataW.TrodVars enc P w sp ns gs ps → gs.length = ns.length
  | [], [], _, _ => rfl
  | [], _ :: _, _, h => h.elim
  | _ :: _, [], _, h => h.elim
  | n :: ns, d :: ds, ps, h => by
    obtain ⟨g, t, cs, fuel, p, q, h1, h2, h3, h4, hs, e⟩ := h
    simp only [List.length_cons, trodVars_len hs]

theorem gN : Tryd.prog.globalNamed "loop.example/g00576/impl.errNotRight" = some 0 := by kernel_rfl
theorem gH : Tryd.prog.globalNamed "loop.example/g00576/impl.errNoHead" = some 2 := by kernel_rfl
theorem gF : Tryd.prog.globalNamed "loop.example/g00576/impl.errFewer" = some 3 := by kernel_rfl
theorem gR : Tryd.prog.globalNamed "loop.example/g00576/impl.errNoRoom" = some 1 := by kernel_rfl
theorem gNT : (Tryd.prog.globals[0]?).map (·.type) = some 52 := by kernel_rfl
theorem gHT : (Tryd.prog.globals[2]?).map (·.type) = some 52 := by kernel_rfl
theorem gFT : (Tryd.prog.globals[3]?).map (·.type) = some 52 := by kernel_rfl
theorem gRT : (Tryd.prog.globals[1]?).map (·.type) = some 52 := by kernel_rfl
theorem cellsE : Tryd.prog.cellsOf 146 = 1 := by kernel_rfl
theorem cellsS : Tryd.prog.cellsOf 9 = 1 := by kernel_rfl
theorem star : "*" ++ "errors.errorString" = "*errors.errorString" := by decide
theorem rowE (u : TypeId) (h : Tryd.prog.typeName? 3 u = some "*errors.errorString") : u = 127 :=
  typeName_ptr_named (nm := "errors.errorString") (by rw [star]; kernel_rfl) (by kernel_rfl) (by decide) u (by rw [star]; exact h)

theorem pairA : (Rows.fnExactAreaFormatRow.laid.filter fun x => x.1 == "loop.example/g00576/impl.errNotRight" || x.1 == "loop.example/g00576/impl.errNoRoom") = [("loop.example/g00576/impl.errNotRight", Rows.laid_loop_example_g00576_impl_errNotRight), ("loop.example/g00576/impl.errNoRoom", Rows.laid_loop_example_g00576_impl_errNoRoom)] := by kernel_rfl
theorem pairB : (Rows.fnExactAreaFormatRow.laid.filter fun x => x.1 == "loop.example/g00576/impl.errNoHead" || x.1 == "loop.example/g00576/impl.errFewer") = [("loop.example/g00576/impl.errNoHead", Rows.laid_loop_example_g00576_impl_errNoHead), ("loop.example/g00576/impl.errFewer", Rows.laid_loop_example_g00576_impl_errFewer)] := by kernel_rfl
/-- What the condition gives a walk: the four errors. -/
theorem sents_of_laid {W : World} (h : laidMetH Tryd.prog Rows.fnExactAreaFormatRow.laid W) : ∃ a0 a1 a2 a3, Sents W a0 a1 a2 a3 := by
  have hA := laidMetH.filter (fun x => x.1 == "loop.example/g00576/impl.errNotRight" || x.1 == "loop.example/g00576/impl.errNoRoom") h
  have hB := laidMetH.filter (fun x => x.1 == "loop.example/g00576/impl.errNoHead" || x.1 == "loop.example/g00576/impl.errFewer") h
  rw [pairA, Go.MakeChecks.laidMetH_plain _ _ _ (by rfl)] at hA
  rw [pairB, Go.MakeChecks.laidMetH_plain _ _ _ (by rfl)] at hB
  obtain ⟨a0, a3, s0, s3, c0, c3, t0, t3, hv0, hv3, hc0, hs0, hz0, hc3, hs3, hz3, hn03, hb0, hb3⟩ := laid_sentinels2 hA gN gNT gR gRT Tryd.underlying52 rowE Tryd.underlying127 Tryd.underlying146 rfl rfl Tryd.underlying9 cellsE cellsS
  obtain ⟨a1, a2, s1, s2, c1, c2, t1, t2, hv1, hv2, hc1, hs1, hz1, hc2, hs2, hz2, hn12, hb1, hb2⟩ := laid_sentinels2 hB gH gHT gF gFT Tryd.underlying52 rowE Tryd.underlying127 Tryd.underlying146 rfl rfl Tryd.underlying9 cellsE cellsS
  have ne : ∀ {a b : Addr} {s t : ByteArray}, W.cell? a = some (.string s) → W.cell? b = some (.string t) → s.data.toList ≠ t.data.toList → a ≠ b := fun h1 h2 hn e => by
    subst e
    rw [h1] at h2
    injection h2 with h2
    injection h2 with h2
    exact hn (by rw [h2])
  have k0 : W.cell? ⟨0, 0, none⟩ = some (.iface 127 (.pointer (some a0))) := by simpa using World.var?_cell gN hv0 0
  have k1 : W.cell? ⟨2, 0, none⟩ = some (.iface 127 (.pointer (some a1))) := by simpa using World.var?_cell gH hv1 0
  have k2 : W.cell? ⟨3, 0, none⟩ = some (.iface 127 (.pointer (some a2))) := by simpa using World.var?_cell gF hv2 0
  have k3 : W.cell? ⟨1, 0, none⟩ = some (.iface 127 (.pointer (some a3))) := by simpa using World.var?_cell gR hv3 0
  exact ⟨a0, a1, a2, a3, ⟨k0, _, _, hb0⟩, ⟨k1, _, _, hb1⟩, ⟨k2, _, _, hb2⟩, ⟨k3, _, _, hb3⟩,
    ne hc1 hc0 (by rw [hs1, hs0]; decide), ne hc2 hc0 (by rw [hs2, hs0]; decide), hn03.symm, hn12.symm, ne hc3 hc1 (by rw [hs3, hs1]; decide), ne hc3 hc2 (by rw [hs3, hs2]; decide)⟩

def textOf (l : List UInt8) : ByteArray := ⟨l.toArray⟩
noncomputable def low : Nat := (World.holding Tryd.prog default ⟨#[], #[], []⟩).heap.size
/-- A world that meets the condition: the settled one, the variables' cells laid. -/
noncomputable def laidWorld (os : Os) : World :=
  let w0 := World.holding Tryd.prog os ⟨#[.cells #[.string (textOf [97, 114, 101, 97, 58, 32, 116, 104, 101, 32, 100, 105, 115, 107, 32, 105, 115, 32, 110, 111, 116, 32, 114, 105, 103, 104, 116])] 146, .cells #[.string (textOf [97, 114, 101, 97, 58, 32, 116, 104, 101, 32, 102, 105, 114, 115, 116, 32, 115, 101, 99, 116, 111, 114, 32, 104, 97, 115, 32, 110, 111, 32, 104, 101, 97, 100, 32, 111, 102, 32, 116, 104, 105, 115, 32, 100, 105, 115, 107])] 146, .cells #[.string (textOf [97, 114, 101, 97, 58, 32, 97, 32, 115, 101, 99, 116, 111, 114, 32, 104, 97, 115, 32, 102, 101, 119, 101, 114, 32, 98, 121, 116, 101, 115, 32, 116, 104, 97, 110, 32, 105, 116, 115, 32, 112, 97, 114, 116, 32, 111, 102, 32, 116, 104, 101, 32, 116, 101, 120, 116])] 146, .cells #[.string (textOf [97, 114, 101, 97, 58, 32, 116, 104, 101, 114, 101, 32, 105, 115, 32, 110, 111, 32, 114, 111, 111, 109, 32, 102, 111, 114, 32, 116, 104, 101, 32, 116, 101, 120, 116, 44, 32, 111, 114, 32, 110, 111, 32, 110, 117, 109, 98, 101, 114])] 146], #[], []⟩
  let lay (w : World) (g : Nat) (v : Value) : World := { w with heap := w.heap.modify g fun
      | .cells _ t frozen => .cells #[v] t frozen
      | o => o }
  lay (lay (lay (lay (lay w0 0 (.iface 127 (.pointer (some ⟨low, 0, none⟩)))) 2 (.iface 127 (.pointer (some ⟨low + 1, 0, none⟩)))) 3 (.iface 127 (.pointer (some ⟨low + 2, 0, none⟩)))) 1 (.iface 127 (.pointer (some ⟨low + 3, 0, none⟩)))) 4 (.iface 111 (.agg #[.pointer (some ⟨5, 52, none⟩)]))
theorem laidWorld_met (os : Os) (args : Array Value) : laidMetH Tryd.prog Rows.fnExactAreaFormatRow.laid ((laidWorld os).forCall (fun _ _ => 0) ⟨#[], args, []⟩).memory :=
  laidMetH_of_parts (laidMet_of_run (ps := [.cell 0 0, .cell low 0, .cell 2 0, .cell (low + 1) 0, .cell 3 0, .cell (low + 2) 0, .cell 1 0, .cell (low + 3) 0]) 8 (by kernel_rfl) (by kernel_rfl) (by kernel_rfl)) (by kernel_rfl)

set_option maxRecDepth 100000 in
theorem lifted (os : Os) (started : os.Started) (H : Type) (enc : TypeId × Value → H) :
    ReturnsInHanded {} Tryd.checked os 3 .any (fun w args => (Rows.fnExactAreaFormatSpec.pre enc Tryd.prog Tryd.f3 [] false w args ∧ laidMetH Tryd.prog Rows.fnExactAreaFormatRow.laid w) ∧ sizedMet enc Tryd.prog Tryd.f3 (OpenSpec.ofChange Rows.fnExactAreaFormatSpec) false w args)
      (Rows.fnExactAreaFormatSpec.post enc Tryd.prog Tryd.f3 false true false false) := by
  refine returnsInHanded_of_change_and (C := Tryd.checked) (X := fun w _ => laidMetH Tryd.prog Rows.fnExactAreaFormatRow.laid w) (fun _ _ _ hh h => h.of_heap hh) own started (by kernel_rfl) Tryd.func3
    (ChangeSpec.witness_at (enc := enc) (C := Tryd.checked) (os := os) (X := fun w _ => laidMetH Tryd.prog Rows.fnExactAreaFormatRow.laid w) false (laidWorld os) #[.agg #[.slice none 0 0, .slice none 0 0]] 8 rfl (by kernel_rfl) (by kernel_rfl) (by kernel_rfl) (by kernel_rfl) (by kernel_rfl) (laidWorld_met os _)) ?_
  intro W base args ds gs before hval0 hW _ _ hL _
  have hval : ∀ (j : Nat) t v, Tryd.f3.params[j]? = some t → args[j]? = some v → Value.okWide Tryd.prog W .any base t v := hval0
  have hW' := hW
  obtain ⟨p, q, hA0, hV0, rfl, hfz, hnd⟩ := hW
  have hA : DataW.TrodAll enc Tryd.prog W 0 (fun _ => true) true Tryd.f3.params.toList args.toList ds p := hA0
  rw [Tryd.params3] at hA hval
  obtain ⟨v0, vs0, d0, ds0, p0, q0, hargs, rfl, rfl, h0, r0⟩ := trodAll_cons hA
  obtain ⟨rfl, rfl, rfl⟩ := trodAll_nil r0
  obtain rfl : args = #[v0] := by cases args; simp_all
  have k0 := h0
  have lt0 : ∀ x ∈ p0, x.block < W.heap.size := by obtain ⟨m, hm⟩ := k0; exact DataW.trod_lt m _ _ _ hm
  obtain ⟨d, w0, z0⟩ := open_disk (hval 0 25 v0 rfl rfl) h0
  obtain ⟨a0, a1, a2, a3, hS⟩ := sents_of_laid hL
  have hV : DataW.TrodVars enc Tryd.prog W (fun _ => true) ["loop.example/g00576/impl.errNotRight", "loop.example/g00576/impl.errNoRoom", "loop.example/g00576/impl.errNoHead", "loop.example/g00576/impl.errFewer"] gs q := hV0
  obtain ⟨g1, g2, g3, g4, rfl⟩ : ∃ g1 g2 g3 g4, gs = [g1, g2, g3, g4] := by
    have hl := trodVars_len hV
    match gs, hl with
    | [g1, g2, g3, g4], _ => exact ⟨g1, g2, g3, g4, rfl⟩
  clear hA0 hval0
  refine (walk v0 d W w0 z0 hS).mono fun e W' ⟨he, bel⟩ => ?_
  subst he
  exact ⟨_, rfl, _, _, _, [], _, _, hW', trodAll_mk1 (shut_bool Tryd.underlying4 _), (trodAll_cons_mk (Below.trod laidOut (by kernel_rfl) (of_decide_eq_true (by kernel_rfl)) k0 bel lt0) trodAll_mk0), Below.trodVars laidOut bel (by kernel_rfl) hV, bel.frame _, fun h => by cases h⟩

theorem row_holds : Rows.FnExactAreaFormatSaid :=
  OpenClaim.holds_of_wide 3 Tryd.f3 rfl rfl rfl rfl rfl rfl rfl ⟨rfl, rfl, rfl, rfl, rfl⟩ rfl rfl rfl rfl rfl (by kernel_rfl) Tryd.func3 (by kernel_rfl)
    (of_decide_eq_true (by kernel_rfl)) (by unfold Func.isWrapper; first | (rw [if_pos (by decide +kernel)]; kernel_rfl) | (rw [if_neg (by decide +kernel)]; exact ⟨rfl, rfl⟩))
    (fun os started H enc _ => lifted os started H enc)

theorem proved : Rows.FnExactAreaFormatCardSaid :=
  Claim7.holds_tied_plain_at .later [] [.handle, .sentinel, .sentinel, .sentinel, .sentinel] true (true, "0c4949a21b65f1dee8d40e51e815b4b149978f727057acf61f94d536fc86053e") true
    row_holds (fun _ h => by cases h) (by kernel_rfl) (fun _ h => by cases h) fnExactAreaFormat_row_tie rfl ⟨rfl, rfl⟩ (by kernel_rfl) rfl
    (fun f fn hf hfn => by
      obtain rfl : f = 3 := Option.some.inj ((show Tryd.prog.funcNamed "loop.example/g00576/laws.FnExactAreaFormat" = some 3 by kernel_rfl).symm.trans hf) |>.symm
      obtain rfl : fn = Tryd.f3 := (Option.some.inj (Tryd.func3.symm.trans hfn)).symm
      exact ⟨by kernel_rfl, fun j t ht => by
        rw [Tryd.params3] at ht
        match j, ht with
        | 0, ht =>
          obtain rfl : t = 25 := by simpa using ht.symm
          exact (show Tryd.prog.wantsStandIn 25 = false by kernel_rfl)
        | j + 1, ht => simp at ht⟩)
    (by kernel_rfl)
#print axioms proved

end Go.Proofs.YthchlfllcnlmjaaDoor.FnExactAreaFormat
