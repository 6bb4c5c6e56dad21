/-
  Whatever number comes in, DiskNew of the program gives the disk that the model gives, in memory of its own. No condition.
-/
import Derived.Test.YtjpcpdapbhmgiaaRows
import Derived.Test.YtjpcpdapbhmgiaaSz
import Derived.Test.YtjpcpdapbhmgiaaMarkD
import Derived.Test.YtjpcpdapbhmgiaaDiskNew
import Derived.Test.YtjpcpdapbhmgiaaOpenDisk
import Derived.WalkKit
import Derived.ProofKit
import Derived.OpenShut
import Derived.ShutString
import Derived.ChangeOld
import Derived.Below
import Derived.Lib.Hide
namespace Go.Proofs.Ytjpcpdapbhmgiaa.FnExactDiskNew
open Go.ChangeShapes Go.WideShapes Go.ChangeAt Go.RowKit
open Go.ChangeMaps (open_string shut_string)
set_option linter.unusedVariables false

set_option maxRecDepth 100000 in
set_option maxHeartbeats 4000000 in
theorem walk (n : Int) (wn : (Lit.int .i64 n).wf = true) (w : World) :
    Calls Try.prog 5 #[.int .i64 n] w fun e w' => e = .returned (.bool true) ∧ Below w.heap.size w w' := by
  clear wn
  have hS := newDk_S n
  have hP : (newDk n).P.length = 0 := by rw [newDk_P]; rfl
  have HSP := Lib.hid (⟨by omega, by omega⟩ : (newDk n).S.length ≤ 140737488351232 ∧ (newDk n).P.length ≤ 140737488351232)
  have HE := Lib.hid (show markEnd 1 (newDk n) ≤ 100000000 by unfold markEnd; omega)
  have H1 := Lib.hid (fun W => spec_disknew n W)
  have H2 := Lib.hid (fun W => impl_disknew n W)
  clear hS hP
  generalize newDk n = d at *
  go_enter Try.func5, Try.ntmps5
  go_wp2_with fail
  refine (H1.out _).mono ?_
  intro e w1 h1
  obtain ⟨A1, c1, A2, c2, rfl, ho1, hb1⟩ := h1.parts
  have HO1 := Lib.hid (ho1.lift ((Below.refl _ _).alloc (Nat.le_refl _) (.cells #[.slice A1 d.S.length c1, .slice A2 d.P.length c2] 26)))
  have HB1 := Lib.hid (hb1.alloc hb1.size (.cells #[.slice A1 d.S.length c1, .slice A2 d.P.length c2] 26))
  have HX1 := Lib.hid (heap_alloc_new w1 (.cells #[.slice A1 d.S.length c1, .slice A2 d.P.length c2] 26))
  have hz1 := hb1.size
  clear h1 ho1 hb1
  go_wp2_with fail
  refine (H2.out _).mono ?_
  intro e w2 h2
  obtain ⟨B1, e1, B2, e2, rfl, ho2, hb2⟩ := h2.parts
  have HO1' := Lib.hid (HO1.out.at_.below hb2)
  have HO2 := Lib.hid (ho2.lift ((Below.refl _ _).alloc (Nat.le_refl _) (.cells #[.slice B1 d.S.length e1, .slice B2 d.P.length e2] 26)))
  have HSP2 := Lib.hid ho2.span
  have HB2 := Lib.hid (below_call HB1.out HB1.out.size hb2)
  have HX2 := Lib.hid (keep_blk hb2 HX1.out)
  have HY2 := Lib.hid (heap_alloc_new w2 (.cells #[.slice B1 d.S.length e1, .slice B2 d.P.length e2] 26))
  have hz2 := hb2.size
  simp only [World.size_alloc] at hz2
  have hl2 : w1.heap.size < w2.heap.size := by omega
  obtain ⟨x0, x1⟩ := box2 HX2.out
  clear h2 ho2 hb2
  go_wp2_with fail
  refine (eq_disk _ _ d _ HO2.out.at_ ((HO1'.out.below ((Below.refl _ _).alloc (by simp only [World.size_alloc]; omega) _)).more (by simp only [World.size_alloc]; omega)) HSP.out.1 HSP.out.2).mono ?_
  rintro e w3 ⟨rfl, hb3⟩
  have HO1'' := Lib.hid ((HO1'.out.below ((Below.refl _ _).alloc (by simp only [World.size_alloc]; omega) _)).below (hb3.mono (by simp only [World.size_alloc]; omega)))
  have HO3 := Lib.hid (HO2.out.lift hb3)
  have HB3 := Lib.hid (below_alloc_call HB2.out HB2.out.size hb3)
  have HX3 := Lib.hid (keep_blk hb3 (alloc_blk HX2.out _))
  have HY3 := Lib.hid (keep_blk hb3 HY2.out)
  have hz3 := hb3.size
  simp only [World.size_alloc] at hz3
  have hl3 : w1.heap.size < w3.heap.size := by omega
  have hl3' : w2.heap.size < w3.heap.size := by omega
  obtain ⟨y0, y1⟩ := box2 HY3.out
  clear hb3 x0 x1
  go_wp2_with fail
  refine (mark_disk1 _ d _ (w1.heap.size + 1) w2.heap.size _ HO3.out HE.out (HSP2.out.wide (by simp only [World.size_alloc]; omega) (Nat.le_refl _))).mono ?_
  intro e w4 h4
  obtain ⟨r, hr, rfl, ho4, hw4⟩ := h4.back
  have HR := Lib.hid hr
  have HO1c := Lib.hid (HO1''.out.kept hw4 (by simp only [World.size_alloc]; omega) (by simp only [World.size_alloc]; omega))
  have HO4 := Lib.hid ho4
  have HB4 := Lib.hid (below_within HB3.out hw4 (by omega) (by omega))
  have HX4 := Lib.hid (keep_within hw4 HX3.out (by omega))
  have HY4 := Lib.hid (keep_within hw4 HY3.out (by omega))
  have hz4 := hw4.size
  obtain ⟨z0, z1⟩ := box2 HY4.out
  clear h4 hr ho4 hw4 y0 y1
  have hl4 : w1.heap.size < w4.heap.size := by omega
  have hl4' : w2.heap.size < w4.heap.size := by omega
  go_wp2_with fail
  refine (held_disk1 _ d _ HO4.out.at_ HE.out).mono ?_
  intro e w5 h5
  obtain ⟨rfl, hb5⟩ := h5.back
  rw [← HR.out]
  have hrr : ((r : Int) != (r : Int)) = false := by simp
  have HO1d := Lib.hid (HO1c.out.below (hb5.mono (by simp only [World.size_alloc]; omega)))
  have HO5 := Lib.hid (HO4.out.lift hb5)
  have HB5 := Lib.hid (below_call HB4.out HB4.out.size hb5)
  have HX5 := Lib.hid (keep_blk hb5 HX4.out)
  have HY5 := Lib.hid (keep_blk hb5 HY4.out)
  have hz5 := hb5.size
  clear hb5 h5 z0 z1
  go_wp2_with fail
  refine (H2.out _).mono ?_
  intro e w6 h6
  obtain ⟨C1, f1, C2, f2, rfl, ho6, hb6⟩ := h6.parts
  have HO1e := Lib.hid ((HO1d.out.below (hb6.mono (by simp only [World.size_alloc]; omega))).below ((Below.refl _ _).alloc (by have := hb6.size; simp only [World.size_alloc]; omega) (.cells #[.slice C1 d.S.length f1, .slice C2 d.P.length f2] 26)))
  have HO6 := Lib.hid (ho6.lift ((Below.refl _ _).alloc (Nat.le_refl _) (.cells #[.slice C1 d.S.length f1, .slice C2 d.P.length f2] 26)))
  have HO5' := Lib.hid ((HO5.out.lift hb6).lift ((Below.refl _ _).alloc (Nat.le_refl _) (.cells #[.slice C1 d.S.length f1, .slice C2 d.P.length f2] 26)))
  have HB6 := Lib.hid (below_call HB5.out HB5.out.size hb6)
  have HX6 := Lib.hid (keep_blk hb6 HX5.out)
  have HY6 := Lib.hid (keep_blk hb6 HY5.out)
  have hz6 := hb6.size
  have hl6 : w1.heap.size < w6.heap.size := by omega
  have hl6' : w2.heap.size < w6.heap.size := by omega
  obtain ⟨x0, x1⟩ := box2 HX6.out
  clear h6 ho6 hb6
  go_wp2_with fail
  refine (eq_disk _ _ d _ HO6.out.at_ (HO1e.out.more (by simp only [World.size_alloc]; omega)) HSP.out.1 HSP.out.2).mono ?_
  rintro e w7 ⟨rfl, hb7⟩
  have HO7 := Lib.hid (HO5'.out.lift hb7)
  have HB7 := Lib.hid (below_alloc_call HB6.out HB6.out.size hb7)
  have HY7 := Lib.hid (keep_blk hb7 (alloc_blk HY6.out _))
  obtain ⟨y0, y1⟩ := box2 HY7.out
  clear hb7 x0 x1
  go_wp2_with fail
  refine (held_disk1 _ d _ HO7.out.at_ HE.out).mono ?_
  intro e w8 h8
  obtain ⟨rfl, hb8⟩ := h8.back
  rw [← HR.out]
  have HB8 := Lib.hid (below_call HB7.out HB7.out.size hb8)
  clear hb8 h8 y0 y1
  go_wp2
  go_ret
  exact ⟨rfl, HB8.out⟩

theorem own : ownKnob Try.prog.godebug = none := by kernel_rfl

set_option maxRecDepth 100000 in
theorem lifted (os : Os) (started : os.Started) (H : Type) (enc : TypeId × Value → H) :
    ReturnsInHanded {} Try.checked os 5 .any (Rows.fnExactDiskNewSpec.pre6 enc Try.prog Try.f5 Rows.fnExactDiskNewRow.domain false) (Rows.fnExactDiskNewSpec.post enc Try.prog Try.f5 false true false false) := by
  refine returnsInHanded_of_change (C := Try.checked) own started (by kernel_rfl) Try.func5
    (ChangeSpec.witness6 (enc := enc) (C := Try.checked) false ⟨#[], #[.int .i64 0], []⟩ 8 (by kernel_rfl) (by kernel_rfl) (by kernel_rfl) (by kernel_rfl)) ?_
  intro W base args ds gs before hval0 hW hcnd _
  have hval : ∀ (j : Nat) t v, Try.f5.params[j]? = some t → args[j]? = some v → Value.okWide Try.prog W .any base t v := hval0
  have hW' := hW
  obtain ⟨p, q, hA0, hV, rfl, hfz, hnd⟩ := hW
  have hA : DataW.TrodAll enc Try.prog W 0 (fun _ => true) true Try.f5.params.toList args.toList ds p := hA0
  rw [Try.params5] at hA hval
  obtain ⟨v0, vs0, d0, ds0, p0, q0, hargs, rfl, rfl, h0, r0⟩ := trodAll_cons hA
  obtain ⟨rfl, rfl, rfl⟩ := trodAll_nil r0
  obtain rfl : args = #[v0] := by cases args; simp_all
  obtain ⟨rfl, rfl⟩ := trodVars_none hV
  obtain ⟨a0, rfl, rfl, rfl, w0⟩ := open_int Try.underlying2 (hval 0 2 v0 rfl rfl) h0
  clear hA0 hval0
  simp only [List.append_nil] at hW'
  refine (walk a0 w0 W).mono fun e W' ⟨he, bel⟩ => ?_
  subst he
  exact ⟨_, rfl, _, _, _, [], [], [], hW', trodAll_mk1 (shut_bool Try.underlying4 _), (trodAll_cons_mk (shut_int Try.underlying2 w0) trodAll_mk0), rfl, bel.frame _, fun h => by cases h⟩

theorem over : Rows.fnExactDiskNewRow.holds Try.pinned (OpenSpec.ofChange Rows.fnExactDiskNewSpec) :=
  OpenClaim.holds_of_wide 5 Try.f5 rfl rfl rfl rfl rfl rfl rfl ⟨rfl, rfl, rfl, rfl, rfl⟩ rfl rfl rfl rfl rfl (by kernel_rfl) Try.func5 (by kernel_rfl)
    (of_decide_eq_true (by kernel_rfl)) (by unfold Func.isWrapper; first | (rw [if_pos (by decide +kernel)]; kernel_rfl) | (rw [if_neg (by decide +kernel)]; exact ⟨rfl, rfl⟩))
    (fun os started H enc _ => lifted os started H enc)

theorem proved : Rows.FnExactDiskNewSaid := over
#print axioms proved
end Go.Proofs.Ytjpcpdapbhmgiaa.FnExactDiskNew
