/-
  A disk, a list of numbers, that came in: what a walk is told of it.
-/
import Derived.Test.YthchlfllcnlmjaaDoorProg
import Derived.Test.YthchlfllcnlmjaaDoorBase1
import Derived.OpenShut
import Derived.SliceStrings
import Derived.Deep.SlicePairs
import Derived.Lib.SmallJoins
import Derived.ChangeOld
namespace Go.Proofs.YthchlfllcnlmjaaDoor
open Go.ChangeShapes Go.WideShapes Go.ChangeAt Go.RowKit Go.Deep Go.Joins

section
variable {H : Type} {enc : TypeId × Value → H} {P : Program} {w : World} {base : Nat} {held : Bool}

theorem cell_lt {w : World} {a : Addr} {v : Value} (h : w.cell? a = some v) : a.block < w.heap.size := by
  rcases Nat.lt_or_ge a.block w.heap.size with h' | h'
  · exact h'
  · simp [World.cell?, Array.getElem?_eq_none h'] at h

/-- A slice of texts that came in. -/
theorem open_texts {t e : TypeId} {fuel : Nat} {v : Value} {x : DataW H × List MemPlace} (ht : P.underlying t = some (.slice e)) (he : P.underlying e = some .string) (hc : P.cellsOf e = 1)
    (h : DataW.trod enc P w base (fun _ => true) held fuel t [v] = some x) : ∃ S : List ByteArray, Sl w w.heap.size 1 encS v S ∧ S.length ≤ 9223372036854775807 ∧ ∀ s ∈ S, s.size ≤ maxLen := by
  rcases open_strings ht he hc h with ⟨h0, _⟩ | ⟨a, len, cap, ss, h0, _, hl, hm, hs, _, hcell, hsz⟩
  · simp only [List.cons.injEq, and_true] at h0
    subst h0
    exact ⟨[], Sl.nil_ w _ 1 encS 0 none, by simp, by simp⟩
  · simp only [List.cons.injEq, and_true] at h0
    subst h0
    simp only [if_true] at hs
    unfold maxLen at hm
    have hll : (ss.take len).length = len := by rw [List.length_take]; omega
    refine ⟨ss.take len, ⟨some a, cap, by rw [hll], fun hn => ⟨a, rfl, ?_, fun i y hy j u hu => ?_⟩⟩, by rw [hll]; omega, fun s hs' => hsz s (List.mem_of_mem_take hs')⟩
    · have := cell_lt (hcell 0 (by omega))
      rwa [add_block] at this
    · have hi : i < len := by have := (List.getElem?_eq_some_iff.1 hy).1; omega
      rw [List.getElem?_take_of_lt hi] at hy
      have hj : j = 0 := by have := (List.getElem?_eq_some_iff.1 hu).1; simp at this; exact this
      subst hj
      simp only [encS, List.getElem?_cons_zero, Option.some.injEq] at hu
      subst hu
      have hg := hcell i (by omega)
      rw [List.getD_eq_getElem?_getD, hy] at hg
      simpa [Addr.add] using hg

/-- A slice of pairs (a number, a text) that came in. -/
theorem open_pends {t e : TypeId} {f0 f1 : Field} {fuel : Nat} {v : Value} {x : DataW H × List MemPlace} (ht : P.underlying t = some (.slice e)) (he : P.underlying e = some (.struct #[f0, f1]))
    (ce : P.cellsOf e = 2) (o0 : f0.offset = 0) (o1 : f1.offset = 1) (c0 : P.cellsOf f0.type = 1) (c1 : P.cellsOf f1.type = 1) (u0 : P.underlying f0.type = some (.int .i64)) (u1 : P.underlying f1.type = some .string)
    (h : DataW.trod enc P w base (fun _ => true) held fuel t [v] = some x) : ∃ L : List Pd, Sl w w.heap.size 2 encP v L ∧ L.length ≤ 9223372036854775807 ∧ (∀ p ∈ L, p.2.size ≤ maxLen) ∧ ∀ p ∈ L, -9223372036854775808 ≤ p.1 ∧ p.1 ≤ 9223372036854775807 := by
  rcases open_slice_pairs ht he ce o0 o1 c0 c1 h with ⟨h0, _⟩ | ⟨a, len, cap, m, n, V0, V1, D0, D1, P0, P1, h0, _, hl, hm, hmm, _, hcell⟩
  · simp only [List.cons.injEq, and_true] at h0
    subst h0
    exact ⟨[], Sl.nil_ w _ 2 encP 0 none, by simp, by simp, by simp⟩
  · simp only [List.cons.injEq, and_true] at h0
    subst h0
    simp only [if_true] at hmm
    subst hmm
    unfold maxLen at hm
    have each : ∀ i, i < len → ∃ p : Pd, V0 i = .int .i64 p.1 ∧ V1 i = .string p.2 ∧ p.2.size ≤ maxLen ∧ -9223372036854775808 ≤ p.1 ∧ p.1 ≤ 9223372036854775807 := by
      intro i hi
      obtain ⟨_, _, t0, t1⟩ := hcell i (by omega)
      obtain ⟨q, e0, _, wf⟩ := DataW.trod_int u0 t0
      obtain ⟨s, e1, _, hs⟩ := DataW.trod_string u1 t1
      simp only [List.cons.injEq, and_true] at e0 e1
      have hb := bounds_i64 wf
      exact ⟨(q, s), e0, e1, hs, by omega, by omega⟩
    obtain ⟨F, hF⟩ := choose_lt each
    have hll : ((List.range len).map F).length = len := by simp
    have hmem : ∀ p ∈ (List.range len).map F, ∃ i, i < len ∧ F i = p := fun p hp => by simpa using hp
    refine ⟨(List.range len).map F, ⟨some a, _, by rw [hll], fun hn => ⟨a, rfl, ?_, fun i y hy j u hu => ?_⟩⟩, by rw [hll]; omega, fun p hp => ?_, fun p hp => ?_⟩
    · have := cell_lt (hcell 0 (by omega)).1
      rwa [add_block] at this
    · have hi : i < len := by have := (List.getElem?_eq_some_iff.1 hy).1; omega
      have hy' : F i = y := by simpa [hi] using hy
      subst hy'
      obtain ⟨e0, e1, _⟩ := hF i hi
      obtain ⟨g0, g1, _⟩ := hcell i (by omega)
      have hj : j < 2 := by have := (List.getElem?_eq_some_iff.1 hu).1; simpa using this
      rw [add_add]
      rcases (show j = 0 ∨ j = 1 by omega) with rfl | rfl
      · simp only [encP, List.getElem?_cons_zero, Option.some.injEq] at hu
        rw [Nat.add_zero, g0, e0, hu]
      · simp only [encP, List.getElem?_cons_succ, List.getElem?_cons_zero, Option.some.injEq] at hu
        rw [g1, e1, hu]
    · obtain ⟨i, hi, rfl⟩ := hmem p hp
      exact (hF i hi).2.2.1
    · obtain ⟨i, hi, rfl⟩ := hmem p hp
      exact ⟨(hF i hi).2.2.2.1, (hF i hi).2.2.2.2⟩

/-- A slice of numbers that came in. -/
theorem open_nums {t e : TypeId} {fuel : Nat} {v : Value} {x : DataW H × List MemPlace} (ht : P.underlying t = some (.slice e)) (he : P.underlying e = some (.int .i64)) (hc : P.cellsOf e = 1)
    (h : DataW.trod enc P w base (fun _ => true) held fuel t [v] = some x) : ∃ l : List Int, Sl w w.heap.size 1 encI v l ∧ l.length ≤ 9223372036854775807 ∧ ∀ n ∈ l, -9223372036854775808 ≤ n ∧ n ≤ 9223372036854775807 := by
  rcases open_ints ht he hc h with ⟨h0, _⟩ | ⟨a, len, cap, ss, h0, _, hl, hm, hs, _, hcell, hsz⟩
  · simp only [List.cons.injEq, and_true] at h0
    subst h0
    exact ⟨[], Sl.nil_ w _ 1 encI 0 none, by simp, by simp⟩
  · simp only [List.cons.injEq, and_true] at h0
    subst h0
    simp only [if_true] at hs
    unfold maxLen at hm
    have hll : (ss.take len).length = len := by rw [List.length_take]; omega
    refine ⟨ss.take len, ⟨some a, cap, by rw [hll], fun hn => ⟨a, rfl, ?_, fun i y hy j u hu => ?_⟩⟩, by rw [hll]; omega, fun s hs' => bounds_i64 (hsz s (List.mem_of_mem_take hs'))⟩
    · have := cell_lt (hcell 0 (by omega))
      rwa [add_block] at this
    · have hi : i < len := by have := (List.getElem?_eq_some_iff.1 hy).1; omega
      rw [List.getElem?_take_of_lt hi] at hy
      have hj : j = 0 := by have := (List.getElem?_eq_some_iff.1 hu).1; simp at this; exact this
      subst hj
      simp only [encI, List.getElem?_cons_zero, Option.some.injEq] at hu
      subst hu
      have hg := hcell i (by omega)
      rw [List.getD_eq_getElem?_getD, hy] at hg
      simpa [Addr.add] using hg
end

set_option maxRecDepth 100000 in
/-- A disk that came in. -/
theorem open_disk {H : Type} {enc : TypeId × Value → H} {w : World} {base b0 : Nat} {held : Bool} {r : Reach} {v : Value} {x : DataW H} {p : List MemPlace}
    (hv : Value.okWide Tryd.prog w r b0 25 v) (h : DataW.Trod enc Tryd.prog w base (fun _ => true) held 25 v x p) : ∃ d : Dk, DkAt w w.heap.size v d ∧ Held d := by
  obtain ⟨v0, v1, y0, y1, n, rfl, _, _, h0, h1⟩ := open_agg2 Tryd.underlying25 (by kernel_rfl) (by kernel_rfl) hv h
  obtain ⟨S, s1, s2, s3⟩ := open_texts Tryd.underlying22 Tryd.underlying9 (by kernel_rfl) h0
  obtain ⟨L, l1, l2, l3, l4⟩ := open_pends Tryd.underlying23 Tryd.underlying61 (by kernel_rfl) rfl rfl (by kernel_rfl) (by kernel_rfl) Tryd.underlying2 Tryd.underlying9 h1
  exact ⟨⟨S, L⟩, ⟨v0, v1, rfl, s1, l1⟩, s2, s3, l2, l3, l4⟩

end Go.Proofs.YthchlfllcnlmjaaDoor
