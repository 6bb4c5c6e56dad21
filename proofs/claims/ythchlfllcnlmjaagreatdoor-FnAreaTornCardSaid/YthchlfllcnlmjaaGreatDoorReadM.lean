/-
  The text on a disk, as data.
-/
import Derived.Test.YthchlfllcnlmjaaGreatDoorSeen
import Derived.Test.YthchlfllcnlmjaaGreatDoorAreaOut
namespace Go.Proofs.YthchlfllcnlmjaaGreatDoor
open Go.RowKit

/-- What a sector has of a text of n bytes whose i-th it is. -/
def partN (n i : Nat) : Nat := min 64 (n - 64 * i)
/-- How many sectors it wants. -/
def partsN (n : Nat) : Nat := (n + 63) / 64
def fullAt (d : Dk) (f n i : Nat) : Prop := partN n i ≤ (readT d (f + i)).size
/-- The bytes of its first i sectors. -/
def gotB (d : Dk) (f n : Nat) : Nat → ByteArray
  | 0 => ⟨#[]⟩
  | i + 1 => catB (gotB d f n i) ((readT d (f + i)).extract 0 (partN n i))
def firstN (d : Dk) (s : Nat) : Nat := 1 + s * halfN d
theorem got_size {d : Dk} {f n : Nat} : ∀ (i : Nat), (∀ j < i, fullAt d f n j) → (gotB d f n i).size = min n (64 * i)
  | 0, _ => by show (0 : Nat) = min n (64 * 0); omega
  | i + 1, h => by
    have h1 := got_size i (fun j hj => h j (by omega))
    have h2 := h i (by omega)
    unfold fullAt at h2
    rw [gotB, cat_size, h1, ByteArray.size_extract]
    unfold partN at *
    omega
theorem parts_le {n room : Nat} (h : n ≤ 64 * room) : partsN n ≤ room := by unfold partsN; omega
theorem first_lt {d : Dk} {s i n : Nat} (hR : Right d) (hs : s ≤ 1) (hn : n ≤ 64 * halfN d) (hi : i < partsN n) : firstN d s + i < d.S.length := by
  have h1 := parts_le hn
  have h2 := hR.1
  unfold firstN
  have h3 : s * halfN d ≤ halfN d := by
    have := Nat.mul_le_mul_right (halfN d) hs
    omega
  unfold halfN at *
  omega

open Classical in
/-- What AreaRead answers. -/
noncomputable def readAo (d : Dk) : Ao :=
  if ¬ Right d then illAo 1
  else if ¬ (seenH (readT d 0) (64 * halfN d)).2.2.2 = 0 then illAo (seenH (readT d 0) (64 * halfN d)).2.2.2
  else if ∀ i < partsN (seenH (readT d 0) (64 * halfN d)).2.2.1.toNat, fullAt d (firstN d (seenH (readT d 0) (64 * halfN d)).2.1.toNat) (seenH (readT d 0) (64 * halfN d)).2.2.1.toNat i then
    ⟨d, gotB d (firstN d (seenH (readT d 0) (64 * halfN d)).2.1.toNat) (seenH (readT d 0) (64 * halfN d)).2.2.1.toNat (partsN (seenH (readT d 0) (64 * halfN d)).2.2.1.toNat), (seenH (readT d 0) (64 * halfN d)).1, 0⟩
  else illAo 5
open Classical in
theorem readAo_form {d : Dk} (h : ¬ Right d) : readAo d = illAo 1 := by unfold readAo; rw [if_pos h]
open Classical in
theorem readAo_ill {d : Dk} {g s n c : Int} (h : Right d) (hr : seenH (readT d 0) (64 * halfN d) = (g, s, n, c)) (hc : ¬ c = 0) : readAo d = illAo c := by
  unfold readAo; rw [if_neg (fun h' => h' h), hr, if_pos hc]
open Classical in
theorem readAo_ok {d : Dk} {g : Int} {s n : Nat} (h : Right d) (hr : seenH (readT d 0) (64 * halfN d) = (g, (s : Int), (n : Int), 0)) (hf : ∀ i < partsN n, fullAt d (firstN d s) n i) : readAo d = ⟨d, gotB d (firstN d s) n (partsN n), g, 0⟩ := by
  unfold readAo; rw [if_neg (fun h' => h' h), hr, if_neg (fun h' => h' rfl)]
  simp only [Int.toNat_natCast]
  rw [if_pos hf]
open Classical in
theorem readAo_sum {d : Dk} {g : Int} {s n i : Nat} (h : Right d) (hr : seenH (readT d 0) (64 * halfN d) = (g, (s : Int), (n : Int), 0)) (hi : i < partsN n) (hf : ¬ fullAt d (firstN d s) n i) : readAo d = illAo 5 := by
  unfold readAo; rw [if_neg (fun h' => h' h), hr, if_neg (fun h' => h' rfl)]
  simp only [Int.toNat_natCast]
  rw [if_neg (fun h' => hf (h' i hi))]
/-- The head of a right disk: a code, or three numbers. -/
theorem seen_cases {d : Dk} : ∃ g s n c, seenH (readT d 0) (64 * halfN d) = (g, s, n, c) ∧ ((¬ c = 0 ∧ g = 0 ∧ s = 0 ∧ n = 0) ∨ (c = 0 ∧ 0 ≤ g ∧ I64 g ∧ ∃ s' n' : Nat, s = s' ∧ n = n' ∧ s' ≤ 1 ∧ n' ≤ 64 * halfN d)) := by
  obtain ⟨⟨g, s, n, c⟩, h⟩ : ∃ x, seenH (readT d 0) (64 * halfN d) = x := ⟨_, rfl⟩
  refine ⟨g, s, n, c, h, ?_⟩
  rcases seen_parts h with ⟨h1, h2, h3, h4, h5, h6, h7⟩ | ⟨h1, h2, h3, h4⟩
  · refine .inr ⟨h1, h2, h3, s.toNat, n.toNat, by omega, by omega, by omega, by omega⟩
  · exact .inl ⟨by omega, h1, h2, h3⟩

end Go.Proofs.YthchlfllcnlmjaaGreatDoor
