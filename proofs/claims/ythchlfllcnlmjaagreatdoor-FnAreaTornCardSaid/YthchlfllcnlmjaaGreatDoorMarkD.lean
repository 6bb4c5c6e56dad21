/-
  Contracts of the marks of a disk and of a disk's answer.
-/
import Derived.Test.YthchlfllcnlmjaaGreatDoorBase2
import Derived.Test.YthchlfllcnlmjaaGreatDoorMark
namespace Go.Proofs.YthchlfllcnlmjaaGreatDoor
open Go.ChangeShapes Go.WideShapes Go.ChangeAt Go.RowKit

set_option maxRecDepth 100000 in
theorem mark_disk (v : Value) (d : Dk) (base k lo hi : Nat) (w : World) (hv : DkOw w base v d) (hk : 0 < k) (hk2 : markEnd k d ≤ 100000000) (hs : Span v lo hi) :
    Calls Tryz.prog 26 #[v, .int .i64 (k : Int)] w (MarkedDk w base k v d lo hi) := by
  obtain ⟨vs, vp, rfl, h1, h2⟩ := hv
  unfold markEnd at hk2
  have hsp := hs vs vp rfl
  have HA1 := Lib.hid (show ∀ g, vs.ownBlock = some g → lo ≤ g ∧ g < hi from fun g hg => hsp g (.inl hg))
  have HA2 := Lib.hid (show ∀ g, vp.ownBlock = some g → lo ≤ g ∧ g < hi from fun g hg => hsp g (.inr hg))
  have HN := Lib.hid (Ow.apart h1 h2 (by decide))
  have HN' := Lib.hid (Ow.apart h2 h1 (by decide))
  have HL1 := Lib.hid h1.lies
  have HL2 := Lib.hid h2.lies
  have H1 := Lib.hid h1; have H2 := Lib.hid h2
  clear h1 h2 hs hsp
  go_enter Tryz.func26, Tryz.ntmps26
  go_wp2_with fail
  refine (mark_strings vs d.S base k _ (H1.out.alloc _) hk (by omega)).mono ?_
  rintro e w1 ⟨rfl, ho1, hg1⟩
  have HG1 := Lib.hid hg1; have HO1 := Lib.hid ho1
  have HB1 := Lib.hid (show w1.heap[w.heap.size]? = some (.cells #[vs, vp] 26 (0, 0)) from (hg1.block w.heap.size (by simp) (fun e => by have := (HL1.out _ e.symm).2; omega)).trans (heap_alloc_new _ _))
  have HP1 := Lib.hid (show Ow w1 base 84 2 encP vp d.P from World.ownsRow.kept (H2.out.alloc _) hg1 HN'.out)
  clear hg1 ho1
  obtain ⟨x0, x1⟩ := box2 HB1.out
  go_wp2_with fail
  refine (mark_pendings vp d.P base (k + d.S.length) _ HP1.out (by omega) (by omega)).mono ?_
  rintro e w2 ⟨rfl, ho2, hg2⟩
  have HG2 := Lib.hid hg2; have HO2 := Lib.hid ho2
  have HS2 := Lib.hid (show Ow w2 base 9 1 encS vs (marksS k d.S.length) from World.ownsRow.kept HO1.out hg2 HN.out)
  clear hg2 ho2 x0 x1
  go_wp2
  go_ret
  refine ⟨rfl, ⟨vs, vp, rfl, HS2.out, HO2.out⟩, ?_⟩
  exact ((Within.of_below ((Below.refl _ w).alloc (Nat.le_refl _) _) lo hi).trans (Within.of_grown HG1.out HA1.out)).trans (Within.of_grown HG2.out HA2.out)

set_option maxRecDepth 100000 in
theorem held_disk (v : Value) (d : Dk) (k : Nat) (w : World) (hv : DkAt w w.heap.size v (markDk k d)) (hk : 0 < k) (hk2 : markEnd k d ≤ 100000000) :
    Calls Tryz.prog 70 #[v, .int .i64 (k : Int)] w (Holds w (markEnd k d)) := by
  obtain ⟨vs, vp, rfl, h1, h2⟩ := hv
  unfold markEnd at hk2
  have H1 := Lib.hid (fun W (hb : Below w.heap.size w W) => held_strings vs k d.S.length W ((h1.below hb).more hb.size) hk (by omega))
  have H2 := Lib.hid (fun W (hb : Below w.heap.size w W) => held_pendings vp (k + d.S.length) d.P.length W ((h2.below hb).more hb.size) (by omega) (by omega))
  clear h1 h2
  go_enter Tryz.func70, Tryz.ntmps70
  go_wp2_with fail
  refine (H1.out _ ((Below.refl _ _).alloc (Nat.le_refl _) _)).mono ?_
  rintro e w1 ⟨rfl, hb1⟩
  obtain ⟨x0, x1⟩ := box2 (box_kept hb1)
  have HB1 := Lib.hid (below_alloc_call (Below.refl _ w) (Nat.le_refl _) hb1)
  clear hb1
  go_wp2_with fail
  refine (H2.out _ HB1.out).mono ?_
  rintro e w2 ⟨rfl, hb2⟩
  have HB2 := Lib.hid (below_call HB1.out HB1.out.size hb2)
  clear hb2 x0 x1
  go_wp2
  go_ret
  exact ⟨rfl, HB2.out⟩

theorem mark_disk1 (v : Value) (d : Dk) (base lo hi : Nat) (w : World) (hv : DkOw w base v d) (hk2 : markEnd 1 d ≤ 100000000) (hs : Span v lo hi) :
    Calls Tryz.prog 26 #[v, .int .i64 1] w (MarkedDk w base 1 v d lo hi) := mark_disk v d base 1 lo hi w hv (by omega) hk2 hs
theorem held_disk1 (v : Value) (d : Dk) (w : World) (hv : DkAt w w.heap.size v (markDk 1 d)) (hk2 : markEnd 1 d ≤ 100000000) :
    Calls Tryz.prog 70 #[v, .int .i64 1] w (Holds w (markEnd 1 d)) := held_disk v d 1 w hv (by omega) hk2
end Go.Proofs.YthchlfllcnlmjaaGreatDoor
