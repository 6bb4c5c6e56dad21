/-
  Contracts of both Unseal.
-/
import Derived.Test.YthchlfllcnlmjaaGreatDoorUnsealI
namespace Go.Proofs.YthchlfllcnlmjaaGreatDoor
open Go.ChangeShapes Go.WideShapes Go.ChangeAt Go.RowKit

theorem spec_unseal_size (s : ByteArray) (w : World) (hm : s.size ≤ maxLen) (hs : 8000 < s.size) :
    Calls Tryz.prog 87 #[.string s] w fun e w' => e = .returned (textOut ⟨#[]⟩ 0 2) ∧ Below w.heap.size w w' := by
  unfold maxLen at hm
  have hs' : (8000 < (s.size : Int)) := by omega
  go_enter Tryz.func87, Tryz.ntmps87
  go_wp2
  exact bodyPost_ret (v := textOut ⟨#[]⟩ 0 2) (by simp [results, Tryz.results87, go_sem, textOut]) rfl ⟨rfl, (Below.refl _ _).alloc (Nat.le_refl _) _⟩
theorem spec_unseal_short (s : ByteArray) (w : World) (hs : s.size < 4) :
    Calls Tryz.prog 87 #[.string s] w fun e w' => e = .returned (textOut ⟨#[]⟩ 0 4) ∧ Below w.heap.size w w' := by
  have hs' : ¬ (8000 < (s.size : Int)) := by omega
  have hs'' : (s.size : Int) < 4 := by omega
  go_enter Tryz.func87, Tryz.ntmps87
  go_wp2
  exact bodyPost_ret (v := textOut ⟨#[]⟩ 0 4) (by simp [results, Tryz.results87, go_sem, textOut]) rfl ⟨rfl, (Below.refl _ _).alloc (Nat.le_refl _) _⟩

theorem spec_crc0 (s : ByteArray) (w : World) (hs : s.size ≤ maxLen) :
    Calls Tryz.prog 107 #[.int .i64 0, .string s] w fun e w' => e = .returned (.int .i64 (crcOn 0 s.data.toList : Nat)) ∧ w = w' := spec_crc 0 s w (by omega) hs

set_option maxRecDepth 100000 in
set_option maxHeartbeats 2000000 in
theorem spec_unseal (s : ByteArray) (w : World) (hs : 4 ≤ s.size) (hs8 : s.size ≤ 8000) :
    Calls Tryz.prog 87 #[.string s] w fun e w' => e = .returned (unsealV s) ∧ Below w.heap.size w w' := by
  have hs' : ¬ (8000 < (s.size : Int)) := by omega
  have hs'' : ¬ (s.size : Int) < 4 := by omega
  have hbs := bodyB_size s
  have hc := crcOn_lt 0 (bodyB s).data.toList (by omega)
  have hV1 : Hid (sumB (bodyB s) = tailB s → unsealV s = textOut (bodyB s) 0 0) := Lib.hid fun h => if_pos h
  have hV2 : Hid (sumB (bodyB s) ≠ tailB s → unsealV s = textOut ⟨#[]⟩ 0 5) := Lib.hid fun h => if_neg h
  have hv : Hid (s.extract (s.size - 4) s.size = tailB s) := Lib.hid rfl
  go_enter Tryz.func87, Tryz.ntmps87
  go_wp2
  rw [show s.extract 0 (s.size - 4) = bodyB s from rfl]
  have hcr := fun W => spec_crc0 (bodyB s) W (by unfold maxLen; omega)
  have hfo := fun W => spec_four (crcOn 0 (bodyB s).data.toList) W hc
  rw [show fourB (crcOn 0 (bodyB s).data.toList) = sumB (bodyB s) from rfl] at hfo
  generalize (crcOn 0 (bodyB s).data.toList : Nat) = c at *
  generalize sumB (bodyB s) = u at *
  generalize bodyB s = t at *
  have HC := Lib.hid hcr; clear hcr
  have HF := Lib.hid hfo; clear hfo
  have e1 : IntKind.i64.wrap ((s.size : Int) - 4) = (s.size : Int) - 4 := IntWalk.i64_in _ (by omega)
  have e2 : 0 ≤ (s.size : Int) - 4 := by omega
  have e3 : ((s.size : Int) - 4).toNat = s.size - 4 := by omega
  go_region_with (first | (go_at_call 107; refine (HC.out _).mono ?_; rintro e w1 ⟨rfl, rfl⟩) | (go_at_call 106; refine (HF.out _).mono ?_; rintro e w1 ⟨rfl, hb⟩))
  all_goals
    clear e1 e2 e3
    rw [hv.out]
    obtain ⟨hc1, hf1⟩ := bcell hb
    have hz := hb.size
    generalize tailB s = v at *
    by_cases hq : u = v
    · have HE := Lib.hid (hV1.out hq)
      have hq' : (!(u.toList == v.toList)) = false := by rw [hq, beq_yes v]; rfl
      clear hq
      rw [hq']
      go_wp2
      exact bodyPost_ret (v := textOut t 0 0) (by simp [results, Tryz.results87, go_sem, textOut, hc1]) rfl ⟨by rw [HE.out], ((((((Below.refl _ _).alloc (Nat.le_refl _) _).drew).trans (hb.mono (by simp))).setCell (by simp) _).setCell (by simp) _).setCell (by simp) _⟩
    · have HE := Lib.hid (hV2.out hq)
      have hq' : (!(u.toList == v.toList)) = true := by rw [beq_no hq]; rfl
      clear hq
      rw [hq']
      go_wp2
      exact bodyPost_ret (v := textOut ⟨#[]⟩ 0 5) (by simp [results, Tryz.results87, go_sem, textOut, hc1]) rfl ⟨by rw [HE.out], ((((((Below.refl _ _).alloc (Nat.le_refl _) _).drew).trans (hb.mono (by simp))).setCell (by simp) _).setCell (by simp) _).setCell (by simp) _⟩

theorem unsealV_form (s : ByteArray) : ∃ t x y, unsealV s = textOut t x y := by
  unfold unsealV
  split
  · exact ⟨_, _, _, rfl⟩
  · exact ⟨_, _, _, rfl⟩

/-- What Unseal tells, of whatever text: both alike. -/
theorem both_unseal (s : ByteArray) (hm : s.size ≤ maxLen) : ∃ t x y,
    (∀ w, Calls Tryz.prog 87 #[.string s] w fun e w' => e = .returned (textOut t x y) ∧ Below w.heap.size w w') ∧
    (∀ w, Calls Tryz.prog 75 #[.string s] w fun e w' => e = .returned (textOut t x y) ∧ Below w.heap.size w w') := by
  by_cases h8 : 8000 < s.size
  · exact ⟨_, _, _, fun w => spec_unseal_size s w hm h8, fun w => impl_unseal_size s w hm h8⟩
  · by_cases h4 : s.size < 4
    · exact ⟨_, _, _, fun w => spec_unseal_short s w h4, fun w => impl_unseal_short s w h4⟩
    · obtain ⟨t, x, y, h⟩ := unsealV_form s
      refine ⟨t, x, y, fun w => ?_, fun w => ?_⟩
      · rw [← h]; exact spec_unseal s w (by omega) (by omega)
      · rw [← h]; exact impl_unseal s w (by omega) (by omega)

end Go.Proofs.YthchlfllcnlmjaaGreatDoor
