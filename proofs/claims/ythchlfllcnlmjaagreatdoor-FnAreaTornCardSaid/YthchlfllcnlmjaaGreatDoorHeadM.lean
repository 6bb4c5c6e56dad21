/-
  What stands on a disk's first sector: its head as data; facts on it.
-/
import Derived.Test.YthchlfllcnlmjaaGreatDoorBytes
import Derived.Test.YthchlfllcnlmjaaGreatDoorBase1
import Derived.Test.YthchlfllcnlmjaaGreatDoorUnsealI
import Derived.Test.YthchlfllcnlmjaaGreatDoorRoom
namespace Go.Proofs.YthchlfllcnlmjaaGreatDoor
open Go.RowKit

theorem cat_list (a b : ByteArray) : (catB a b).data.toList = a.data.toList ++ b.data.toList := by simp [catB]
theorem bytes_ext {s t : ByteArray} (h : s.data.toList = t.data.toList) : s = t := ByteArray.ext (Array.toList_inj.1 h)
theorem seal_inj {x y : ByteArray} (h : sealB x = sealB y) : x = y := by
  have h1 : (sealB x).size = (sealB y).size := by rw [h]
  unfold sealB at h h1
  rw [cat_size, cat_size, sumB_size, sumB_size] at h1
  have h2 : (catB x (sumB x)).data.toList = (catB y (sumB y)).data.toList := by rw [h]
  rw [cat_list, cat_list] at h2
  exact bytes_ext (List.append_inj_left h2 (by rw [← Lib.size_eq, ← Lib.size_eq]; omega))
/-- What can be unsealed is a seal. -/
theorem seal_of {s : ByteArray} (_ : 4 ≤ s.size) (h : sumB (bodyB s) = tailB s) : sealB (bodyB s) = s := by
  apply bytes_ext
  unfold sealB
  rw [cat_list, h]
  have e1 : (bodyB s).data.toList = s.data.toList.take (s.size - 4) := by
    unfold bodyB
    rw [ByteArray.data_extract, Array.toList_extract]
    simp [List.extract_eq_take_drop]
  have e2 : (tailB s).data.toList = s.data.toList.drop (s.size - 4) := by
    unfold tailB
    rw [ByteArray.data_extract, Array.toList_extract]
    simp only [List.extract_eq_take_drop]
    rw [List.take_of_length_le]
    rw [List.length_drop, ← Lib.size_eq]
    omega
  rw [e1, e2, List.take_append_drop]

/-- The three numbers of a text, and where they end: none where one is not there. -/
def threeOf (t : ByteArray) : Option (Int × Int × Int × Int) :=
  let g := getNum t 0
  let s := getNum t g.2.1
  let n := getNum t s.2.1
  if g.2.2 = 0 ∧ s.2.2 = 0 ∧ n.2.2 = 0 then some (g.1, s.1, n.1, n.2.1) else none
theorem three_some {t : ByteArray} {g s n e : Int} (h : threeOf t = some (g, s, n, e)) : ∃ p1 p2 : Int, getNum t 0 = (g, p1, 0) ∧ getNum t p1 = (s, p2, 0) ∧ getNum t p2 = (n, e, 0) := by
  unfold threeOf at h
  simp only at h
  split at h
  · rename_i h0
    obtain ⟨h1, h2, h3⟩ := h0
    simp only [Option.some.injEq, Prod.mk.injEq] at h
    obtain ⟨rfl, rfl, rfl, rfl⟩ := h
    refine ⟨(getNum t 0).2.1, (getNum t (getNum t 0).2.1).2.1, ?_, ?_, ?_⟩
    · exact Prod.ext rfl (Prod.ext rfl h1)
    · exact Prod.ext rfl (Prod.ext rfl h2)
    · exact Prod.ext rfl (Prod.ext rfl h3)
  · cases h
/-- Three numbers that are got are put so; and nothing stands behind them, just if they end where the text does. -/
theorem three_canon {t : ByteArray} {g s n e : Int} (h : threeOf t = some (g, s, n, e)) : 0 ≤ e ∧ e ≤ t.size ∧ (catB (catB (numB g) (numB s)) (numB n) = t ↔ e = t.size) := by
  obtain ⟨p1, p2, h1, h2, h3⟩ := three_some h
  obtain ⟨q1, rfl, _, _, _, d1⟩ := getNum_put (p := 0) h1
  obtain ⟨q2, rfl, _, _, _, d2⟩ := getNum_put h2
  obtain ⟨q3, rfl, _, hle, _, d3⟩ := getNum_put h3
  have hl : t.data.toList = (catB (catB (numB g) (numB s)) (numB n)).data.toList ++ t.data.toList.drop q3 := by
    rw [cat_list, cat_list, List.append_assoc, List.append_assoc]
    have d0 : t.data.toList = t.data.toList.drop 0 := rfl
    refine d0.trans ?_
    rw [d1, d2, d3]
  refine ⟨by omega, by omega, fun hc => ?_, fun he => ?_⟩
  · rw [hc] at hl
    have h0 : (t.data.toList.drop q3).length = 0 := by
      have := congrArg List.length hl
      rw [List.length_append] at this
      omega
    rw [List.length_drop, ← Lib.size_eq] at h0
    omega
  · apply bytes_ext
    have : t.data.toList.drop q3 = [] := List.drop_eq_nil_of_le (by rw [← Lib.size_eq]; omega)
    rw [this, List.append_nil] at hl
    exact hl.symm
/-- A seal's head. -/
theorem head_canon {r : ByteArray} {g s n e : Int} (h4 : 4 ≤ r.size) (hs : sumB (bodyB r) = tailB r) (h : threeOf (bodyB r) = some (g, s, n, e)) : headB g s n = r ↔ e = (bodyB r).size := by
  rw [← (three_canon h).2.2]
  constructor
  · intro hh
    unfold headB at hh
    exact seal_inj (hh.trans (seal_of h4 hs).symm)
  · intro hh
    unfold headB
    rw [hh]
    exact seal_of h4 hs

open Classical in
/-- What the head tells: the code; the number, the side, how many bytes. -/
noncomputable def seenH (r : ByteArray) (room : Nat) : Int × Int × Int × Int :=
  if r.size < 4 then (0, 0, 0, 4)
  else if ¬ sumB (bodyB r) = tailB r then (0, 0, 0, 5)
  else match threeOf (bodyB r) with
    | none => (0, 0, 0, 3)
    | some (g, s, n, e) => if e = (bodyB r).size ∧ 0 ≤ g ∧ 0 ≤ s ∧ s ≤ 1 ∧ 0 ≤ n ∧ n ≤ room then (g, s, n, 0) else (0, 0, 0, 3)

end Go.Proofs.YthchlfllcnlmjaaGreatDoor
