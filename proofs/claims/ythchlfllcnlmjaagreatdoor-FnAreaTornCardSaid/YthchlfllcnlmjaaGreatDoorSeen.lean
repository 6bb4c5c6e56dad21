/-
  What the model's l03Seen tells of a right disk.
-/
import Derived.Test.YthchlfllcnlmjaaGreatDoorSeenS
namespace Go.Proofs.YthchlfllcnlmjaaGreatDoor
open Go.RowKit

theorem seen_short {r : ByteArray} {room : Nat} (h : r.size < 4) : seenH r room = (0, 0, 0, 4) := by
  classical
  unfold seenH; rw [if_pos h]
theorem seen_sum {r : ByteArray} {room : Nat} (h : ¬ r.size < 4) (h1 : ¬ sumB (bodyB r) = tailB r) : seenH r room = (0, 0, 0, 5) := by
  classical
  unfold seenH; rw [if_neg h, if_pos h1]
theorem seen_none {r : ByteArray} {room : Nat} (h : ¬ r.size < 4) (h1 : sumB (bodyB r) = tailB r) (h2 : threeOf (bodyB r) = none) : seenH r room = (0, 0, 0, 3) := by
  classical
  unfold seenH; rw [if_neg h, if_neg (fun h' => h' h1), h2]
theorem seen_some {r : ByteArray} {room : Nat} {g s n e : Int} (h : ¬ r.size < 4) (h1 : sumB (bodyB r) = tailB r) (h2 : threeOf (bodyB r) = some (g, s, n, e)) (h3 : e = (bodyB r).size ∧ 0 ≤ g ∧ 0 ≤ s ∧ s ≤ 1 ∧ 0 ≤ n ∧ n ≤ room) : seenH r room = (g, s, n, 0) := by
  classical
  unfold seenH; rw [if_neg h, if_neg (fun h' => h' h1), h2]; simp only; rw [if_pos h3]
theorem seen_not {r : ByteArray} {room : Nat} {g s n e : Int} (h : ¬ r.size < 4) (h1 : sumB (bodyB r) = tailB r) (h2 : threeOf (bodyB r) = some (g, s, n, e)) (h3 : ¬ (e = (bodyB r).size ∧ 0 ≤ g ∧ 0 ≤ s ∧ s ≤ 1 ∧ 0 ≤ n ∧ n ≤ room)) : seenH r room = (0, 0, 0, 3) := by
  classical
  unfold seenH; rw [if_neg h, if_neg (fun h' => h' h1), h2]; simp only; rw [if_neg h3]
theorem three_of_get {t : ByteArray} {g1 g2 g3 s1 s2 s3 n1 n2 n3 : Int} (hg : getNum t 0 = (g1, g2, g3)) (hs : getNum t g2 = (s1, s2, s3)) (hn : getNum t s2 = (n1, n2, n3)) :
    threeOf t = if g3 = 0 ∧ s3 = 0 ∧ n3 = 0 then some (g1, s1, n1, n2) else none := by
  unfold threeOf
  simp only [hg, hs, hn]

/-- What the head tells, by its parts. -/
theorem seen_parts {r : ByteArray} {room : Nat} {g s n c : Int} (h : seenH r room = (g, s, n, c)) : (c = 0 ∧ 0 ≤ g ∧ I64 g ∧ 0 ≤ s ∧ s ≤ 1 ∧ 0 ≤ n ∧ n ≤ room) ∨ (g = 0 ∧ s = 0 ∧ n = 0 ∧ (c = 3 ∨ c = 4 ∨ c = 5)) := by
  by_cases h4 : r.size < 4
  · rw [seen_short h4] at h
    simp only [Prod.mk.injEq] at h
    omega
  by_cases h5 : sumB (bodyB r) = tailB r
  · cases h3 : threeOf (bodyB r) with
    | none =>
      rw [seen_none h4 h5 h3] at h
      simp only [Prod.mk.injEq] at h
      omega
    | some x =>
      obtain ⟨g', s', n', e'⟩ := x
      obtain ⟨p1, p2, q1, _, _⟩ := three_some h3
      have hI := (getNum_at (bodyB r) 0).1
      rw [q1] at hI
      by_cases hh : e' = (bodyB r).size ∧ 0 ≤ g' ∧ 0 ≤ s' ∧ s' ≤ 1 ∧ 0 ≤ n' ∧ n' ≤ room
      · rw [seen_some h4 h5 h3 hh] at h
        simp only [Prod.mk.injEq] at h
        obtain ⟨rfl, rfl, rfl, rfl⟩ := h
        exact .inl ⟨rfl, hh.2.1, hI, hh.2.2⟩
      · rw [seen_not h4 h5 h3 hh] at h
        simp only [Prod.mk.injEq] at h
        omega
  · rw [seen_sum h4 h5] at h
    simp only [Prod.mk.injEq] at h
    omega

theorem spec_seen (v : Value) (d : Dk) (w : World) (hv : DkAt w w.heap.size v d) (hR : Right d) :
    Calls Tryz.prog 47 #[v] w (Seen w (seenH (readT d 0) (64 * halfN d))) := by
  have hsz := readT_size hR 0 hR.1
  have hb := bodyB_size (readT d 0)
  by_cases h4 : (readT d 0).size < 4
  · rw [seen_short h4]
    exact seen_bad v d ⟨#[]⟩ 4 w hv hR (fun W => spec_unseal_short _ W h4) (by decide)
  by_cases h5 : sumB (bodyB (readT d 0)) = tailB (readT d 0)
  · have hU : ∀ W : World, Calls Tryz.prog 87 #[.string (readT d 0)] W fun e w' => e = .returned (textOut (bodyB (readT d 0)) 0 0) ∧ Below W.heap.size W w' := fun W => by
      have := spec_unseal (readT d 0) W (by omega) (by omega)
      unfold unsealV at this
      rwa [if_pos h5] at this
    obtain ⟨⟨g1, g2, g3⟩, hg⟩ : ∃ x, getNum (bodyB (readT d 0)) 0 = x := ⟨_, rfl⟩
    obtain ⟨⟨s1, s2, s3⟩, hs⟩ : ∃ x, getNum (bodyB (readT d 0)) g2 = x := ⟨_, rfl⟩
    obtain ⟨⟨n1, n2, n3⟩, hn⟩ : ∃ x, getNum (bodyB (readT d 0)) s2 = x := ⟨_, rfl⟩
    have h3 := three_of_get hg hs hn
    refine seen_good v d (bodyB (readT d 0)) w g1 g2 g3 s1 s2 s3 n1 n2 n3 _ hv hR hU (by omega) hg hs hn (fun hy => ?_) (fun hno => ?_)
    · obtain ⟨y1, y2, y3, y4, y5, y6, y7⟩ := hy
      simp only at y1 y2 y3 y4 y5 y6 y7
      rw [if_pos ⟨y1, y2, y3⟩] at h3
      exact seen_some h4 h5 h3 ⟨(head_canon (by omega) h5 h3).1 y4, y5, y6.1, y6.2, y7.1, y7.2⟩
    · by_cases hz : g3 = 0 ∧ s3 = 0 ∧ n3 = 0
      · rw [if_pos hz] at h3
        refine seen_not h4 h5 h3 (fun hh => hno ?_)
        obtain ⟨a, b, c, d', e, f⟩ := hh
        exact ⟨hz.1, hz.2.1, hz.2.2, (head_canon (by omega) h5 h3).2 a, b, ⟨c, d'⟩, e, f⟩
      · rw [if_neg hz] at h3
        exact seen_none h4 h5 h3
  · rw [seen_sum h4 h5]
    refine seen_bad v d ⟨#[]⟩ 5 w hv hR (fun W => ?_) (by decide)
    have := spec_unseal (readT d 0) W (by omega) (by omega)
    unfold unsealV at this
    rwa [if_neg h5] at this

end Go.Proofs.YthchlfllcnlmjaaGreatDoor
