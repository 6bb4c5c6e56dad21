/-
  The contract of the program's Unseal.
-/
import Derived.Test.YthchlfllcnlmjaaGreatDoorBytes
import Derived.BigQuiet
import Derived.IntWalk
import Derived.Deep.RegionWith
import Derived.RegionTactic
import Derived.WalkSmall
import Derived.Deep.QuietTactic
namespace Go.Proofs.YthchlfllcnlmjaaGreatDoor
open Go.ChangeShapes Go.WideShapes Go.ChangeAt Go.RowKit

/-- A TextOut. -/
def textOut (t : ByteArray) (at_ code : Int) : Value := .agg #[.string t, .int .i64 at_, .int .i64 code]

/-- What stands ahead of the last four bytes; and these. -/
def bodyB (s : ByteArray) : ByteArray := s.extract 0 (s.size - 4)
def tailB (s : ByteArray) : ByteArray := s.extract (s.size - 4) s.size

theorem bodyB_size (s : ByteArray) : (bodyB s).size ≤ s.size := by simp [bodyB, ByteArray.size_extract]
set_option maxRecDepth 100000 in
/-- What Unseal tells of a text of four bytes or more, that is not too long. -/
def unsealV (s : ByteArray) : Value := if sumB (bodyB s) = tailB s then textOut (bodyB s) 0 0 else textOut ⟨#[]⟩ 0 5

theorem impl_unseal_size (s : ByteArray) (w : World) (hm : s.size ≤ maxLen) (hs : 8000 < s.size) :
    Calls Tryz.prog 75 #[.string s] w fun e w' => e = .returned (textOut ⟨#[]⟩ 0 2) ∧ Below w.heap.size w w' := by
  unfold maxLen at hm
  have hs' : (8000 < (s.size : Int)) := by omega
  go_enter Tryz.func75, Tryz.ntmps75
  go_wp2
  exact bodyPost_ret (v := textOut ⟨#[]⟩ 0 2) (by simp [results, Tryz.results75, go_sem, textOut]) rfl ⟨rfl, (Below.refl _ _).alloc (Nat.le_refl _) _⟩
theorem impl_unseal_short (s : ByteArray) (w : World) (hs : s.size < 4) :
    Calls Tryz.prog 75 #[.string s] w fun e w' => e = .returned (textOut ⟨#[]⟩ 0 4) ∧ Below w.heap.size w w' := by
  have hs' : ¬ (8000 < (s.size : Int)) := by omega
  have hs'' : (s.size : Int) < 4 := by omega
  go_enter Tryz.func75, Tryz.ntmps75
  go_wp2
  exact bodyPost_ret (v := textOut ⟨#[]⟩ 0 4) (by simp [results, Tryz.results75, go_sem, textOut]) rfl ⟨rfl, (Below.refl _ _).alloc (Nat.le_refl _) _⟩

set_option maxRecDepth 100000 in
theorem impl_unseal (s : ByteArray) (w : World) (hs : 4 ≤ s.size) (hs8 : s.size ≤ 8000) :
    Calls Tryz.prog 75 #[.string s] w fun e w' => e = .returned (unsealV s) ∧ Below w.heap.size w w' := by
  have hs' : ¬ (8000 < (s.size : Int)) := by omega
  have hs'' : ¬ (s.size : Int) < 4 := by omega
  have hbs := bodyB_size s
  by_cases hbad : sumB (bodyB s) = tailB s
  · have HE : Hid (unsealV s = textOut (bodyB s) 0 0) := Lib.hid (if_pos hbad)
    have HB := Lib.hid hbad; clear hbad
    go_enter Tryz.func75, Tryz.ntmps75
    go_wp2
    go_quiet (fail)
    go_wp2_with fail
    refine (impl_sumof (bodyB s) _ (by omega)).mono ?_
    rintro e w1 ⟨rfl, hb⟩
    rw [show s.extract (s.size - 4) s.size = tailB s from rfl, show s.extract 0 (s.size - 4) = bodyB s from rfl, HB.out]
    generalize tailB s = v at *
    have hne := beq_yes v
    go_wp2_with fail
    refine (strings_clone (bodyB s) _ (by omega)).mono ?_
    rintro e w2 ⟨rfl, hb2⟩
    have hb3 := hb.trans (hb2.mono hb.size)
    obtain ⟨hc, hf⟩ := bcell hb3
    generalize bodyB s = u at *
    go_wp2
    exact bodyPost_ret (v := textOut u 0 0) (by simp [results, Tryz.results75, go_sem, textOut, hc]) rfl ⟨by rw [HE.out], ((((below_drewN ((Below.refl _ _).alloc (Nat.le_refl _) _) _).trans (hb3.mono (by simp))).setCell (by simp) _).setCell (by simp) _).setCell (by simp) _⟩
  · have HE : Hid (unsealV s = textOut ⟨#[]⟩ 0 5) := Lib.hid (if_neg hbad)
    have hne : ¬ (tailB s = sumB (bodyB s)) := fun e => hbad e.symm
    have HB := Lib.hid hne; clear hbad hne
    go_enter Tryz.func75, Tryz.ntmps75
    go_wp2
    go_quiet (fail)
    go_wp2_with fail
    refine (impl_sumof (bodyB s) _ (by omega)).mono ?_
    rintro e w1 ⟨rfl, hb⟩
    obtain ⟨hc, hf⟩ := bcell hb
    have hne := beq_no HB.out
    rw [show s.extract (s.size - 4) s.size = tailB s from rfl, show s.extract 0 (s.size - 4) = bodyB s from rfl]
    generalize sumB (bodyB s) = u at hne ⊢
    generalize tailB s = v at hne ⊢
    go_wp2
    exact bodyPost_ret (v := textOut ⟨#[]⟩ 0 5) (by simp [results, Tryz.results75, go_sem, textOut, hc]) rfl ⟨by rw [HE.out], ((((below_drewN ((Below.refl _ _).alloc (Nat.le_refl _) _) _).trans (hb.mono (by simp))).setCell (by simp) _).setCell (by simp) _).setCell (by simp) _⟩

end Go.Proofs.YthchlfllcnlmjaaGreatDoor
