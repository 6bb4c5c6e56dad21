/-
  The area's four errors, as package-level variables of errors.New's make; contracts of areaCode and of areaFault at them.
-/
import Derived.Test.YthchlfllcnlmjaaGreatDoorIs
import Derived.Test.YthchlfllcnlmjaaGreatDoorAreaOut
import Derived.Test.YthchlfllcnlmjaaGreatDoorBase2
namespace Go.Proofs.YthchlfllcnlmjaaGreatDoor
open Go.ChangeShapes Go.WideShapes Go.ChangeAt Go.RowKit

/-- The variable g holds the error at a. -/
structure Sent (w : World) (g : Nat) (a : Addr) : Prop where
  cell : w.cell? ⟨g, 0, none⟩ = some (.iface 179 (.pointer (some a)))
  blk : ∃ c t, w.heap[a.block]? = some (.cells c t (0, 0))
theorem Sent.lift {w w' : World} {g : Nat} {a : Addr} (h : Sent w g a) (k : Below w.heap.size w w') : Sent w' g a := by
  obtain ⟨c, t, hb⟩ := h.blk
  have hg : g < w.heap.size := by
    rcases Nat.lt_or_ge g w.heap.size with h1 | h1
    · exact h1
    · have := h.cell; simp [World.cell?, Array.getElem?_eq_none h1] at this
  exact ⟨by rw [k.cell hg]; exact h.cell, c, t, keep_blk k hb⟩
theorem Sent.lt {w : World} {g : Nat} {a : Addr} (h : Sent w g a) : g < w.heap.size := by
  rcases Nat.lt_or_ge g w.heap.size with h1 | h1
  · exact h1
  · have := h.cell; simp [World.cell?, Array.getElem?_eq_none h1] at this
/-- All four, no two alike. -/
structure Sents (w : World) (a0 a1 a2 a3 : Addr) : Prop where
  s0 : Sent w 0 a0
  s1 : Sent w 2 a1
  s2 : Sent w 3 a2
  s3 : Sent w 1 a3
  n01 : a1 ≠ a0
  n02 : a2 ≠ a0
  n03 : a3 ≠ a0
  n12 : a2 ≠ a1
  n13 : a3 ≠ a1
  n23 : a3 ≠ a2
theorem Sents.lift {w w' : World} {a0 a1 a2 a3 : Addr} (h : Sents w a0 a1 a2 a3) (k : Below w.heap.size w w') : Sents w' a0 a1 a2 a3 :=
  ⟨h.s0.lift k, h.s1.lift k, h.s2.lift k, h.s3.lift k, h.n01, h.n02, h.n03, h.n12, h.n13, h.n23⟩
theorem is_other' {w : World} {g h : Nat} {a b : Addr} (hne : a ≠ b) (ha : Sent w g a) (hb : Sent w h b) :
    Calls Tryz.prog 102 #[.iface 179 (.pointer (some a)), .iface 179 (.pointer (some b))] w fun e w' => e = .returned (.bool false) ∧ w = w' := by
  obtain ⟨ca, ta, h1⟩ := ha.blk
  obtain ⟨cb, tb, h2⟩ := hb.blk
  exact is_other a b ca cb ta tb w hne h1 h2

def Coded (w : World) (n : Int) (e : Ending) (w' : World) : Prop := e = .returned (.int .i64 n) ∧ Below w.heap.size w w'

set_option maxRecDepth 100000 in
theorem code_notright {a0 a1 a2 a3 : Addr} (w : World) (h : Sents w a0 a1 a2 a3) :
    Calls Tryz.prog 79 #[.iface 179 (.pointer (some a0))] w (Coded w 1) := by
  have h1 := h.s0.cell; have l1 := h.s0.lt
  clear h
  go_enter Tryz.func79, Tryz.ntmps79
  go_wp2_with (go_at_call 102; refine (is_same a0 _).mono ?_; rintro e w' ⟨rfl, rfl⟩)
  go_ret
  exact ⟨rfl, (Below.refl _ _).alloc (Nat.le_refl _) _⟩

set_option maxRecDepth 100000 in
theorem code_noroom {a0 a1 a2 a3 : Addr} (w : World) (h : Sents w a0 a1 a2 a3) :
    Calls Tryz.prog 79 #[.iface 179 (.pointer (some a3))] w (Coded w 9) := by
  have h1 := h.s0.cell; have l1 := h.s0.lt; have h2 := h.s1.cell; have l2 := h.s1.lt; have h3 := h.s2.cell; have l3 := h.s2.lt; have h4 := h.s3.cell; have l4 := h.s3.lt
  have HS := Lib.hid (h.lift ((Below.refl w.heap.size w).alloc (Nat.le_refl _) (.cells #[.int .i64 0] 106)))
  clear h
  go_enter Tryz.func79, Tryz.ntmps79
  go_wp2_with (go_at_call 102; first
    | ((with_reducible refine (is_other' HS.out.n03 HS.out.s3 HS.out.s0).mono ?_); rintro e w' ⟨rfl, rfl⟩)
    | ((with_reducible refine (is_other' HS.out.n13 HS.out.s3 HS.out.s1).mono ?_); rintro e w' ⟨rfl, rfl⟩)
    | ((with_reducible refine (is_other' HS.out.n23 HS.out.s3 HS.out.s2).mono ?_); rintro e w' ⟨rfl, rfl⟩)
    | ((with_reducible refine (is_same a3 _).mono ?_); rintro e w' ⟨rfl, rfl⟩))
  go_ret
  exact ⟨rfl, (Below.refl _ _).alloc (Nat.le_refl _) _⟩

set_option maxRecDepth 100000 in
/-- What areaFault answers of an error of which areaCode tells n. -/
theorem fault_of (v : Value) (n : Int) (w : World) (h : ∀ W, Below w.heap.size w W → Calls Tryz.prog 79 #[v] W (Coded W n)) :
    Calls Tryz.prog 36 #[v] w (OwnsAo w (illAo n)) := by
  have H := Lib.hid h
  clear h
  go_enter Tryz.func36, Tryz.ntmps36
  go_wp2_with fail
  refine (H.out _ ((Below.refl _ _).alloc (Nat.le_refl _) _)).mono ?_
  rintro e w1 ⟨rfl, hb⟩
  have HG := Lib.hid (keep_blk hb (heap_alloc_new _ _))
  have HB := Lib.hid (below_alloc_call (Below.refl w.heap.size w) (Nat.le_refl _) hb)
  clear hb
  obtain ⟨z0, z1, z2, z3, z4⟩ := box5 HG.out
  obtain ⟨k0, k1, k2, k3⟩ := box_frozen HG.out
  have k4 : w1.frozen? ⟨w.heap.size, 4, none⟩ = false := block_free HG.out 4
  have hz := block_lt HG.out
  go_wp2
  refine bodyPost_ret (v := .agg #[.slice none 0 0, .slice none 0 0, .string ⟨#[]⟩, .int .i64 0, .int .i64 n]) (by simp [results, Tryz.results36, go_sem, z0, z1, z2, z3, z4]) rfl ⟨_, rfl, ao_ill _ _ _, ?_⟩
  repeat (refine Below.setCell ?_ (by simp only; omega) _)
  exact HB.out
theorem fault_notright {a0 a1 a2 a3 : Addr} (w : World) (h : Sents w a0 a1 a2 a3) :
    Calls Tryz.prog 36 #[.iface 179 (.pointer (some a0))] w (OwnsAo w (illAo 1)) := fault_of _ 1 w fun W hb => code_notright W (h.lift hb)
theorem fault_noroom {a0 a1 a2 a3 : Addr} (w : World) (h : Sents w a0 a1 a2 a3) :
    Calls Tryz.prog 36 #[.iface 179 (.pointer (some a3))] w (OwnsAo w (illAo 9)) := fault_of _ 9 w fun W hb => code_noroom W (h.lift hb)

end Go.Proofs.YthchlfllcnlmjaaGreatDoor
