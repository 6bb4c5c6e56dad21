/-
  Contracts of both Unseal.
-/
import Derived.Test.YtnkgaicohfofoaaSeal
import Derived.BigQuiet
import Derived.IntWalk
import Derived.Deep.RegionWith
import Derived.RegionTactic
import Derived.WalkSmall
import Derived.Deep.QuietTactic
namespace Go.Proofs.Ytnkgaicohfofoaa
open Go.ChangeShapes Go.WideShapes Go.ChangeAt Go.RowKit

/-- A TextOut. -/
def textOut (t : ByteArray) (at_ code : Int) : Value := .agg #[.string t, .int .i64 at_, .int .i64 code]

theorem spec_unseal_size (s : ByteArray) (w : World) (hm : s.size ≤ maxLen) (hs : 8000 < s.size) :
    Calls Try.prog 22 #[.string s] w fun e w' => e = .returned (textOut ⟨#[]⟩ 0 2) ∧ Below w.heap.size w w' := by
  unfold maxLen at hm
  have hs' : (8000 < (s.size : Int)) := by omega
  go_enter Try.func22, Try.ntmps22
  go_wp2
  exact bodyPost_ret (v := textOut ⟨#[]⟩ 0 2) (by simp [results, Try.results22, go_sem, textOut]) rfl ⟨rfl, (Below.refl _ _).alloc (Nat.le_refl _) _⟩
theorem spec_unseal_short (s : ByteArray) (w : World) (hs : s.size < 4) :
    Calls Try.prog 22 #[.string s] w fun e w' => e = .returned (textOut ⟨#[]⟩ 0 4) ∧ Below w.heap.size w w' := by
  have hs' : ¬ (8000 < (s.size : Int)) := by omega
  have hs'' : (s.size : Int) < 4 := by omega
  go_enter Try.func22, Try.ntmps22
  go_wp2
  exact bodyPost_ret (v := textOut ⟨#[]⟩ 0 4) (by simp [results, Try.results22, go_sem, textOut]) rfl ⟨rfl, (Below.refl _ _).alloc (Nat.le_refl _) _⟩

/-- What stands ahead of the last four bytes; and these. -/
def bodyB (s : ByteArray) : ByteArray := s.extract 0 (s.size - 4)
def tailB (s : ByteArray) : ByteArray := s.extract (s.size - 4) s.size

theorem bodyB_size (s : ByteArray) : (bodyB s).size ≤ s.size := by simp [bodyB, ByteArray.size_extract]
theorem spec_crc0 (s : ByteArray) (w : World) (hs : s.size ≤ maxLen) :
    Calls Try.prog 30 #[.int .i64 0, .string s] w fun e w' => e = .returned (.int .i64 (crcOn 0 s.data.toList : Nat)) ∧ w = w' := spec_crc 0 s w (by omega) hs

set_option maxRecDepth 100000 in
/-- What Unseal tells of a text of four bytes or more, that is not too long. -/
def unsealV (s : ByteArray) : Value := if sumB (bodyB s) = tailB s then textOut (bodyB s) 0 0 else textOut ⟨#[]⟩ 0 5

set_option maxRecDepth 100000 in
set_option maxHeartbeats 2000000 in
theorem spec_unseal (s : ByteArray) (w : World) (hs : 4 ≤ s.size) (hs8 : s.size ≤ 8000) :
    Calls Try.prog 22 #[.string s] w fun e w' => e = .returned (unsealV s) ∧ Below w.heap.size w w' := by
  have hs' : ¬ (8000 < (s.size : Int)) := by omega
  have hs'' : ¬ (s.size : Int) < 4 := by omega
  have hbs := bodyB_size s
  have hc := crcOn_lt 0 (bodyB s).data.toList (by omega)
  have hV1 : Hid (sumB (bodyB s) = tailB s → unsealV s = textOut (bodyB s) 0 0) := Lib.hid fun h => if_pos h
  have hV2 : Hid (sumB (bodyB s) ≠ tailB s → unsealV s = textOut ⟨#[]⟩ 0 5) := Lib.hid fun h => if_neg h
  have hv : Hid (s.extract (s.size - 4) s.size = tailB s) := Lib.hid rfl
  go_enter Try.func22, Try.ntmps22
  go_wp2
  rw [show s.extract 0 (s.size - 4) = bodyB s from rfl]
  have hcr := fun W => spec_crc0 (bodyB s) W (by unfold maxLen; omega)
  have hfo := fun W => spec_four (crcOn 0 (bodyB s).data.toList) W hc
  rw [show fourB (crcOn 0 (bodyB s).data.toList) = sumB (bodyB s) from rfl] at hfo
  generalize (crcOn 0 (bodyB s).data.toList : Nat) = c at *
  generalize sumB (bodyB s) = u at *
  generalize bodyB s = t at *
  have HC := Lib.hid hcr; clear hcr
  have HF := Lib.hid hfo; clear hfo
  have e1 : IntKind.i64.wrap ((s.size : Int) - 4) = (s.size : Int) - 4 := IntWalk.i64_in _ (by omega)
  have e2 : 0 ≤ (s.size : Int) - 4 := by omega
  have e3 : ((s.size : Int) - 4).toNat = s.size - 4 := by omega
  go_region_with (first | (go_at_call 30; refine (HC.out _).mono ?_; rintro e w1 ⟨rfl, rfl⟩) | (go_at_call 32; refine (HF.out _).mono ?_; rintro e w1 ⟨rfl, hb⟩))
  all_goals
    clear e1 e2 e3
    rw [hv.out]
    obtain ⟨hc1, hf1⟩ := bcell hb
    have hz := hb.size
    generalize tailB s = v at *
    by_cases hq : u = v
    · have HE := Lib.hid (hV1.out hq)
      have hq' : (!(u.toList == v.toList)) = false := by rw [hq, beq_yes v]; rfl
      clear hq
      rw [hq']
      go_wp2
      exact bodyPost_ret (v := textOut t 0 0) (by simp [results, Try.results22, go_sem, textOut, hc1]) rfl ⟨by rw [HE.out], ((((((Below.refl _ _).alloc (Nat.le_refl _) _).drew).trans (hb.mono (by simp))).setCell (by simp) _).setCell (by simp) _).setCell (by simp) _⟩
    · have HE := Lib.hid (hV2.out hq)
      have hq' : (!(u.toList == v.toList)) = true := by rw [beq_no hq]; rfl
      clear hq
      rw [hq']
      go_wp2
      exact bodyPost_ret (v := textOut ⟨#[]⟩ 0 5) (by simp [results, Try.results22, go_sem, textOut, hc1]) rfl ⟨by rw [HE.out], ((((((Below.refl _ _).alloc (Nat.le_refl _) _).drew).trans (hb.mono (by simp))).setCell (by simp) _).setCell (by simp) _).setCell (by simp) _⟩

theorem impl_unseal_size (s : ByteArray) (w : World) (hm : s.size ≤ maxLen) (hs : 8000 < s.size) :
    Calls Try.prog 23 #[.string s] w fun e w' => e = .returned (textOut ⟨#[]⟩ 0 2) ∧ Below w.heap.size w w' := by
  unfold maxLen at hm
  have hs' : (8000 < (s.size : Int)) := by omega
  go_enter Try.func23, Try.ntmps23
  go_wp2
  exact bodyPost_ret (v := textOut ⟨#[]⟩ 0 2) (by simp [results, Try.results23, go_sem, textOut]) rfl ⟨rfl, (Below.refl _ _).alloc (Nat.le_refl _) _⟩
theorem impl_unseal_short (s : ByteArray) (w : World) (hs : s.size < 4) :
    Calls Try.prog 23 #[.string s] w fun e w' => e = .returned (textOut ⟨#[]⟩ 0 4) ∧ Below w.heap.size w w' := by
  have hs' : ¬ (8000 < (s.size : Int)) := by omega
  have hs'' : (s.size : Int) < 4 := by omega
  go_enter Try.func23, Try.ntmps23
  go_wp2
  exact bodyPost_ret (v := textOut ⟨#[]⟩ 0 4) (by simp [results, Try.results23, go_sem, textOut]) rfl ⟨rfl, (Below.refl _ _).alloc (Nat.le_refl _) _⟩

set_option maxRecDepth 100000 in
theorem impl_unseal (s : ByteArray) (w : World) (hs : 4 ≤ s.size) (hs8 : s.size ≤ 8000) :
    Calls Try.prog 23 #[.string s] w fun e w' => e = .returned (unsealV s) ∧ Below w.heap.size w w' := by
  have hs' : ¬ (8000 < (s.size : Int)) := by omega
  have hs'' : ¬ (s.size : Int) < 4 := by omega
  have hbs := bodyB_size s
  by_cases hbad : sumB (bodyB s) = tailB s
  · have HE : Hid (unsealV s = textOut (bodyB s) 0 0) := Lib.hid (if_pos hbad)
    have HB := Lib.hid hbad; clear hbad
    go_enter Try.func23, Try.ntmps23
    go_wp2
    go_quiet (fail)
    go_wp2_with fail
    refine (impl_sumof (bodyB s) _ (by omega)).mono ?_
    rintro e w1 ⟨rfl, hb⟩
    rw [show s.extract (s.size - 4) s.size = tailB s from rfl, show s.extract 0 (s.size - 4) = bodyB s from rfl, HB.out]
    generalize tailB s = v at *
    have hne := beq_yes v
    go_wp2_with fail
    refine (strings_clone (bodyB s) _ (by omega)).mono ?_
    rintro e w2 ⟨rfl, hb2⟩
    have hb3 := hb.trans (hb2.mono hb.size)
    obtain ⟨hc, hf⟩ := bcell hb3
    generalize bodyB s = u at *
    go_wp2
    exact bodyPost_ret (v := textOut u 0 0) (by simp [results, Try.results23, go_sem, textOut, hc]) rfl ⟨by rw [HE.out], ((((below_drewN ((Below.refl _ _).alloc (Nat.le_refl _) _) _).trans (hb3.mono (by simp))).setCell (by simp) _).setCell (by simp) _).setCell (by simp) _⟩
  · have HE : Hid (unsealV s = textOut ⟨#[]⟩ 0 5) := Lib.hid (if_neg hbad)
    have hne : ¬ (tailB s = sumB (bodyB s)) := fun e => hbad e.symm
    have HB := Lib.hid hne; clear hbad hne
    go_enter Try.func23, Try.ntmps23
    go_wp2
    go_quiet (fail)
    go_wp2_with fail
    refine (impl_sumof (bodyB s) _ (by omega)).mono ?_
    rintro e w1 ⟨rfl, hb⟩
    obtain ⟨hc, hf⟩ := bcell hb
    have hne := beq_no HB.out
    rw [show s.extract (s.size - 4) s.size = tailB s from rfl, show s.extract 0 (s.size - 4) = bodyB s from rfl]
    generalize sumB (bodyB s) = u at hne ⊢
    generalize tailB s = v at hne ⊢
    go_wp2
    exact bodyPost_ret (v := textOut ⟨#[]⟩ 0 5) (by simp [results, Try.results23, go_sem, textOut, hc]) rfl ⟨by rw [HE.out], ((((below_drewN ((Below.refl _ _).alloc (Nat.le_refl _) _) _).trans (hb.mono (by simp))).setCell (by simp) _).setCell (by simp) _).setCell (by simp) _⟩

set_option maxRecDepth 100000 in
theorem eq_textout (t : ByteArray) (x y : Int) (w : World) :
    Calls Try.prog 24 #[textOut t x y, textOut t x y] w fun e w' => e = .returned (.bool true) ∧ Below w.heap.size w w' := by
  unfold textOut
  go_enter Try.func24, Try.ntmps24
  go_wp2
  go_ret
  exact ⟨rfl, ((Below.refl _ _).alloc (Nat.le_refl _) _).alloc (by simp) _⟩

theorem unsealV_form (s : ByteArray) : ∃ t x y, unsealV s = textOut t x y := by
  unfold unsealV
  split
  · exact ⟨_, _, _, rfl⟩
  · exact ⟨_, _, _, rfl⟩

/-- What Unseal tells, of whatever text: both alike. -/
theorem both_unseal (s : ByteArray) (hm : s.size ≤ maxLen) : ∃ t x y,
    (∀ w, Calls Try.prog 22 #[.string s] w fun e w' => e = .returned (textOut t x y) ∧ Below w.heap.size w w') ∧
    (∀ w, Calls Try.prog 23 #[.string s] w fun e w' => e = .returned (textOut t x y) ∧ Below w.heap.size w w') := by
  by_cases h8 : 8000 < s.size
  · exact ⟨_, _, _, fun w => spec_unseal_size s w hm h8, fun w => impl_unseal_size s w hm h8⟩
  · by_cases h4 : s.size < 4
    · exact ⟨_, _, _, fun w => spec_unseal_short s w h4, fun w => impl_unseal_short s w h4⟩
    · obtain ⟨t, x, y, h⟩ := unsealV_form s
      refine ⟨t, x, y, fun w => ?_, fun w => ?_⟩
      · rw [← h]; exact spec_unseal s w (by omega) (by omega)
      · rw [← h]; exact impl_unseal s w (by omega) (by omega)

end Go.Proofs.Ytnkgaicohfofoaa
