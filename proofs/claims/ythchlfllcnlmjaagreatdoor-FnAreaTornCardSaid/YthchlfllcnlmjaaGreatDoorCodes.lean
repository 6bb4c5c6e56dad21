/-
  Contracts of areaCode and areaFault at the other errors.
-/
import Derived.Test.YthchlfllcnlmjaaGreatDoorSent
import Derived.Test.YthchlfllcnlmjaaGreatDoorErrAs
namespace Go.Proofs.YthchlfllcnlmjaaGreatDoor
open Go.ChangeShapes Go.WideShapes Go.ChangeAt Go.RowKit

set_option maxRecDepth 100000 in
theorem code_nohead {a0 a1 a2 a3 : Addr} (w : World) (h : Sents w a0 a1 a2 a3) :
    Calls Tryz.prog 79 #[.iface 179 (.pointer (some a1))] w (Coded w 3) := by
  have h1 := h.s0.cell; have l1 := h.s0.lt; have h2 := h.s1.cell; have l2 := h.s1.lt
  have HS := Lib.hid (h.lift ((Below.refl w.heap.size w).alloc (Nat.le_refl _) (.cells #[.int .i64 0] 106)))
  clear h
  go_enter Tryz.func79, Tryz.ntmps79
  go_wp2_with (go_at_call 102; first
    | ((with_reducible refine (is_other' HS.out.n01 HS.out.s1 HS.out.s0).mono ?_); rintro e w' ⟨rfl, rfl⟩)
    | ((with_reducible refine (is_same a1 _).mono ?_); rintro e w' ⟨rfl, rfl⟩))
  go_ret
  exact ⟨rfl, (Below.refl _ _).alloc (Nat.le_refl _) _⟩

set_option maxRecDepth 100000 in
theorem code_fewer {a0 a1 a2 a3 : Addr} (w : World) (h : Sents w a0 a1 a2 a3) :
    Calls Tryz.prog 79 #[.iface 179 (.pointer (some a2))] w (Coded w 5) := by
  have h1 := h.s0.cell; have l1 := h.s0.lt; have h2 := h.s1.cell; have l2 := h.s1.lt; have h3 := h.s2.cell; have l3 := h.s2.lt
  have HS := Lib.hid (h.lift ((Below.refl w.heap.size w).alloc (Nat.le_refl _) (.cells #[.int .i64 0] 106)))
  clear h
  go_enter Tryz.func79, Tryz.ntmps79
  go_wp2_with (go_at_call 102; first
    | ((with_reducible refine (is_other' HS.out.n02 HS.out.s2 HS.out.s0).mono ?_); rintro e w' ⟨rfl, rfl⟩)
    | ((with_reducible refine (is_other' HS.out.n12 HS.out.s2 HS.out.s1).mono ?_); rintro e w' ⟨rfl, rfl⟩)
    | ((with_reducible refine (is_same a2 _).mono ?_); rintro e w' ⟨rfl, rfl⟩))
  go_ret
  exact ⟨rfl, (Below.refl _ _).alloc (Nat.le_refl _) _⟩

set_option maxRecDepth 100000 in
theorem code_fault {a0 a1 a2 a3 : Addr} (c : Int) (w : World) (h : Sents w a0 a1 a2 a3) (hv : ErrVar w) :
    Calls Tryz.prog 79 #[.iface 106 (.agg #[.int .i64 c])] w (Coded w c) := by
  have h1 := h.s0.cell; have l1 := h.s0.lt; have h2 := h.s1.cell; have l2 := h.s1.lt; have h3 := h.s2.cell; have l3 := h.s2.lt; have h4 := h.s3.cell; have l4 := h.s3.lt
  have hb1 := (Below.refl w.heap.size w).alloc (Nat.le_refl _) (.cells #[.int .i64 0] 106)
  have HV := Lib.hid (hv.lift hb1)
  clear h hv hb1
  go_enter Tryz.func79, Tryz.ntmps79
  go_wp2_with (go_at_call 102; (with_reducible refine (is_fault _ _ _).mono ?_); rintro e w' ⟨rfl, rfl⟩)
  go_wp2_with fail
  refine (as_hit c ⟨w.heap.size, 0, none⟩ (.int .i64 0) _ HV.out (by rw [World.cell?_alloc_at _ _ _ _ (by simp)]; rfl) (block_free (heap_alloc_new _ _) 0)).mono ?_
  rintro e w' ⟨rfl, rfl⟩
  go_wp2
  go_ret
  refine ⟨rfl, ?_⟩
  repeat (refine Below.alloc ?_ (by first | exact Nat.le_refl _ | (simp only [World.size_alloc]; omega)) _)
  exact Below.refl _ _

theorem fault_nohead {a0 a1 a2 a3 : Addr} (w : World) (h : Sents w a0 a1 a2 a3) :
    Calls Tryz.prog 36 #[.iface 179 (.pointer (some a1))] w (OwnsAo w (illAo 3)) := fault_of _ 3 w fun W hb => code_nohead W (h.lift hb)
theorem fault_fewer {a0 a1 a2 a3 : Addr} (w : World) (h : Sents w a0 a1 a2 a3) :
    Calls Tryz.prog 36 #[.iface 179 (.pointer (some a2))] w (OwnsAo w (illAo 5)) := fault_of _ 5 w fun W hb => code_fewer W (h.lift hb)
theorem fault_code {a0 a1 a2 a3 : Addr} (c : Int) (w : World) (h : Sents w a0 a1 a2 a3) (hv : ErrVar w) :
    Calls Tryz.prog 36 #[.iface 106 (.agg #[.int .i64 c])] w (OwnsAo w (illAo c)) := fault_of _ c w fun W hb => code_fault c W (h.lift hb) (hv.lift hb)

end Go.Proofs.YthchlfllcnlmjaaGreatDoor
