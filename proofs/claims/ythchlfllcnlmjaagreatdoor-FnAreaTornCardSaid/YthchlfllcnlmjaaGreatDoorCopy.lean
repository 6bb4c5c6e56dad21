/-
  Contracts of the model's l02Copy and l02Ill.
-/
import Derived.Test.YthchlfllcnlmjaaGreatDoorBase2
import Derived.Test.YthchlfllcnlmjaaGreatDoorBase1
import Derived.BigQuiet
import Derived.Deep.RegionLaw
namespace Go.Proofs.YthchlfllcnlmjaaGreatDoor
open Go.ChangeShapes Go.WideShapes Go.ChangeAt Go.RowKit

theorem strType : SlType Tryz.prog 23 9 1 16 := sl_type Tryz.underlying23 infoStr rfl (by omega)
theorem pendType : SlType Tryz.prog 24 84 2 24 := sl_type Tryz.underlying24 infoPend rfl (by omega)
theorem encS_one : ∀ x, ∀ u ∈ encS x, u.oneCell' = true := fun x u hu => by simp [encS] at hu; subst hu; rfl
theorem encP_one : ∀ x, ∀ u ∈ encP x, u.oneCell' = true := fun x u hu => by
  simp [encP] at hu
  rcases hu with rfl | rfl <;> rfl

set_option maxRecDepth 100000 in
set_option maxHeartbeats 4000000 in
theorem spec_copy (v : Value) (d : Dk) (w : World) (hv : DkAt w w.heap.size v d) (hS : d.S.length ≤ 1048576) (hP : d.P.length ≤ 1048576) :
    Calls Tryz.prog 51 #[v] w (OwnsDk w d) := by
  obtain ⟨vs, vp, rfl, hs, hp⟩ := hv
  have HS := Lib.hid hs; have HP := Lib.hid hp
  clear hs hp
  go_enter Tryz.func51, Tryz.ntmps51
  go_wp2
  go_region_law (first
    | (refine step_append_sl strType _ rfl (.tmp 3) (.tmp 5) rfl (w.heap.size + 1 + 1) _ 0 [] rfl (own_empty (by first | exact heap_at (by simp) | exact (Below.heap_alloc _ _ _ (by simp)).trans (heap_at (by simp))) _ _ (by omega)) w.heap.size encS vs d.S rfl (HS.out.below (by repeat' (first | exact Below.refl _ _ | refine Below.drew ?_ | refine Below.alloc ?_ (by first | exact Nat.le_refl _ | (simp; done) | (simp; omega)) _))) encS_len encS_one (by unfold maxLen; omega) (by omega) (by first | (simp; done) | (simp; omega)) ?_
       intro vS wS gS
       simp only [Nat.zero_add, List.nil_append] at gS
       obtain ⟨A1, c1, rfl⟩ := gS.form
       have HbS := Lib.hid (show Below w.heap.size w wS from Below.trans (by repeat' (first | exact Below.refl _ _ | refine Below.drew ?_ | refine Below.alloc ?_ (by first | exact Nat.le_refl _ | (simp; done) | (simp; omega)) _)) (gS.below (by intro g hg; simp [Value.ownBlock, go_sem] at hg; omega) (by first | (simp; done) | (simp; omega))))
       have kS := gS.below (B := w.heap.size + 1 + 1) (by intro g hg; simp [Value.ownBlock, go_sem] at hg; omega) (by first | (simp; done) | (simp; omega))
       have hcS := fun b o (h : b < w.heap.size + 1 + 1) => kS.cell (p := ⟨b, o, none⟩) h
       have hfS := fun b o (h : b < w.heap.size + 1 + 1) => kS.frozen (p := ⟨b, o, none⟩) h
       have hzS : w.heap.size + 1 + 1 + 1 ≤ wS.heap.size := by have := gS.2.1.size; simp at this; omega
       have hzS0 : w.heap.size < wS.heap.size := by omega
       have hzS1 : w.heap.size + 1 < wS.heap.size := by omega
       have GS := Lib.hid gS
       clear kS)
    | (refine step_append_sl pendType _ rfl (.tmp 7) (.tmp 9) rfl (w.heap.size + 1 + 1) _ 0 [] rfl (own_empty (by first | exact heap_at (by simp) | exact (gS.2.1.block _ (by simp) (by simp [Value.ownBlock, go_sem])).trans (heap_at (by simp)) | exact (gS.2.1.block _ (by simp) (by simp [Value.ownBlock, go_sem])).trans ((Below.heap_alloc _ _ _ (by simp)).trans (heap_at (by simp)))) _ _ (by omega)) w.heap.size encP vp d.P rfl (HP.out.below (by repeat' (first | exact HbS.out | refine Below.drew ?_ | refine Below.alloc ?_ (by first | exact HbS.out.size | (have := HbS.out.size; simp; omega)) _))) encP_len encP_one (by unfold maxLen; omega) (by omega) (by first | omega | (simp; omega)) ?_
       intro vP wP gP
       simp only [Nat.zero_add, List.nil_append] at gP
       obtain ⟨A2, c2, rfl⟩ := gP.form
       have kP := gP.below (B := w.heap.size + 1 + 1) (by intro g hg; simp [Value.ownBlock, go_sem] at hg; omega) (by first | omega | (simp; done) | (simp; omega))
       have hcP := fun b o (h : b < w.heap.size + 1 + 1) => kP.cell (p := ⟨b, o, none⟩) h
       have hfP := fun b o (h : b < w.heap.size + 1 + 1) => kP.frozen (p := ⟨b, o, none⟩) h
       have hzP : wS.heap.size ≤ wP.heap.size := by have := gP.2.1.size; first | omega | (simp at this; omega)
       have hzP1 : w.heap.size + 1 < wP.heap.size := by omega
       have HS2 := Lib.hid (gP.other (own_lift GS.out.1 (by repeat' (first | exact Below.refl _ _ | refine Below.drew ?_ | refine Below.alloc ?_ (by first | exact Nat.le_refl _ | (simp; done) | (simp; omega)) _))) (own_empty (by first | exact heap_at (by simp) | exact (GS.out.2.1.block _ (by simp) (by simp [Value.ownBlock, go_sem])).trans (heap_at (by simp)) | exact (GS.out.2.1.block _ (by simp) (by simp [Value.ownBlock, go_sem])).trans ((Below.heap_alloc _ _ _ (by simp)).trans (heap_at (by simp)))) 0 2 (Nat.zero_le _)) (by decide))
       have HbP := Lib.hid (show Below w.heap.size w wP from Below.trans (by repeat' (first | exact HbS.out | refine Below.drew ?_ | refine Below.alloc ?_ (by first | exact HbS.out.size | (have := HbS.out.size; simp; omega)) _)) (gP.below (by intro g hg; simp [Value.ownBlock, go_sem] at hg; omega) (by first | exact HbS.out.size | (have := HbS.out.size; simp; omega))))
       have GP := Lib.hid gP.1
       clear gP
       clear kP))
  all_goals
    clear GS HbS hzS0 hzS
    go_wp2
    refine bodyPost_ret (v := .agg #[.slice A1 d.S.length c1, .slice A2 d.P.length c2]) (by simp [results, Tryz.results51, go_sem, hcP, hcS, hzS1]) rfl ⟨_, rfl, ⟨_, _, rfl, ?_, ?_⟩, ?_⟩
    · exact (((show Ow wP (w.heap.size + 1 + 1) 9 1 encS (.slice A1 d.S.length c1) d.S from HS2.out).far (by simp only; omega) _).far (by simp only; omega) _).base (by omega)
    · exact (((show Ow wP (w.heap.size + 1 + 1) 84 2 encP (.slice A2 d.P.length c2) d.P from GP.out).far (by simp only; omega) _).far (by simp only; omega) _).base (by omega)
    · exact (HbP.out.setCell (by simp only; omega) _).setCell (by simp only; omega) _

end Go.Proofs.YthchlfllcnlmjaaGreatDoor
