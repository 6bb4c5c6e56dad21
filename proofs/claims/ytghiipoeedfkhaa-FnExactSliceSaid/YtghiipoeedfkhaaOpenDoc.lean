/-
  A name, an item, a doc that came in: what a walk is told of it.
-/
import Derived.Test.YtghiipoeedfkhaaProg
import Derived.Test.YtghiipoeedfkhaaDocM
import Derived.OpenShut
import Derived.Deep.SlicePairs
import Derived.Lib.SmallJoins
import Derived.ChangeOld
namespace Go.Proofs.Ytghiipoeedfkhaa
set_option linter.unusedSimpArgs false
open Go.ChangeShapes Go.WideShapes Go.ChangeAt Go.RowKit Go.Deep Go.Joins

section
variable {H : Type} {enc : TypeId × Value → H} {P : Program} {w : World} {base : Nat} {held : Bool}

/-- A slice that came in, whatever its elements. -/
theorem open_sl {α : Type} {t e : TypeId} {k fuel : Nat} {v : Value} {x : DataW H × List MemPlace} (en : α → List Value) (good : α → Prop) (hk : ∀ y, (en y).length = k) (ht : P.underlying t = some (.slice e)) (hc : P.cellsOf e = k) (hpos : 0 < k)
    (he : ∀ n cs y, DataW.trod enc P w base (fun _ => true) held n e cs = some y → ∃ z : α, cs = en z ∧ good z)
    (h : DataW.trod enc P w base (fun _ => true) held fuel t [v] = some x) : ∃ L : List α, Sl w w.heap.size k en v L ∧ L.length ≤ 9223372036854775807 ∧ ∀ z ∈ L, good z := by
  rcases open_slice ht h with ⟨h0, _⟩ | ⟨a, len, cap, m, n, D, Pl, h0, _, hl, hm, hmm, _, hx⟩
  · simp only [List.cons.injEq, and_true] at h0
    subst h0
    exact ⟨[], Sl.nil_ w _ k en 0 none, by simp, by simp⟩
  · simp only [List.cons.injEq, and_true] at h0
    subst h0
    simp only [if_true] at hmm
    subst hmm
    unfold maxLen at hm
    rw [hc] at hx
    have each : ∀ i, i < len → ∃ z : α, good z ∧ ∀ j u, (en z)[j]? = some u → w.cell? ((a.add (i * k)).add j) = some u := by
      intro i hi
      obtain ⟨cs', h1, h2⟩ := hx i (by omega)
      obtain ⟨z, rfl, hg⟩ := he _ _ _ h2
      obtain ⟨_, hlen, hcell⟩ := World.cells?_some h1
      refine ⟨z, hg, fun j u hu => ?_⟩
      have hj : j < k := by rw [← hk z]; exact (List.getElem?_eq_some_iff.1 hu).1
      rw [hcell j hj, hu]
    have cell_lt : ∀ {a : Addr} {v : Value}, w.cell? a = some v → a.block < w.heap.size := by
      intro a v h
      rcases Nat.lt_or_ge a.block w.heap.size with h' | h'
      · exact h'
      · simp [World.cell?, Array.getElem?_eq_none h'] at h
    rcases Nat.eq_zero_or_pos len with h0 | hlp
    · subst h0
      exact ⟨[], Sl.nil_ w _ k en _ _, by simp, by simp⟩
    · have : Nonempty α := ⟨(each 0 hlp).choose⟩
      have : Inhabited α := ⟨Classical.choice this⟩
      obtain ⟨F, hF⟩ := choose_lt each
      have hll : ((List.range len).map F).length = len := by simp
      refine ⟨(List.range len).map F, ⟨some a, _, by rw [hll], fun hn => ⟨a, rfl, ?_, fun i y hy j u hu => ?_⟩⟩, by rw [hll]; omega, fun p hp => ?_⟩
      · obtain ⟨_, hcell⟩ := hF 0 hlp
        have hu : ∃ u, (en (F 0))[0]? = some u := ⟨_, List.getElem?_eq_getElem (by rw [hk]; exact hpos)⟩
        obtain ⟨u, hu⟩ := hu
        have := cell_lt (hcell 0 u hu)
        rwa [add_block, add_block] at this
      · have hi : i < len := by have := (List.getElem?_eq_some_iff.1 hy).1; omega
        have hy' : F i = y := by simpa [hi] using hy
        subst hy'
        exact (hF i hi).2 j u hu
      · obtain ⟨i, hi, rfl⟩ : ∃ i, i < len ∧ F i = p := by simpa using hp
        exact (hF i hi).1
end

section
variable {H : Type} {enc : TypeId × Value → H} {w : World} {base : Nat} {held : Bool}

set_option maxRecDepth 100000
/-- The cells of a name. -/
theorem open_id {n : Nat} {cs : List Value} {y : DataW H × List MemPlace} (h : DataW.trod enc Try.prog w base (fun _ => true) held n 169 cs = some y) : ∃ z : Nm, cs = encN z ∧ HeldN z := by
  obtain ⟨y0, y1, n, _, hl, h0, h1⟩ := trod_struct2 Try.underlying169 h
  have hl' : cs.length = 2 := hl.trans (by kernel_rfl)
  match cs, hl' with
  | [a, b], _ =>
    have c0 : Try.prog.cellsOf 2 = 1 := by kernel_rfl
    simp [c0] at h0 h1
    obtain ⟨q0, e0, _, f0⟩ := DataW.trod_int Try.underlying2 h0
    obtain ⟨q1, e1, _, f1⟩ := DataW.trod_int Try.underlying2 h1
    simp only [List.cons.injEq, and_true] at e0 e1
    subst e0; subst e1
    have b0 := bounds_i64 f0
    have b1 := bounds_i64 f1
    exact ⟨⟨q0, q1⟩, rfl, by simp only [HeldN]; omega⟩

/-- The cells of an item. -/
theorem open_item {n : Nat} {cs : List Value} {y : DataW H × List MemPlace} (h : DataW.trod enc Try.prog w base (fun _ => true) held n 171 cs = some y) : ∃ z : Im, cs = encM z ∧ HeldM z := by
  obtain ⟨xs, n, _, _, hl, hlen, hf⟩ := DataW.trod_struct Try.underlying171 h
  have hl' : cs.length = 8 := hl.trans (by kernel_rfl)
  match cs, hl', xs, hlen with
  | [a, b, c, d, e, f, g, k], _, [x0, x1, x2, x3, x4], _ =>
    have c2 : Try.prog.cellsOf 169 = 2 := by kernel_rfl
    have cs1 : Try.prog.cellsOf 9 = 1 := by kernel_rfl
    have cb1 : Try.prog.cellsOf 4 = 1 := by kernel_rfl
    have g0 := hf 0 _ rfl
    have g1 := hf 1 _ rfl
    have g2 := hf 2 _ rfl
    have g3 := hf 3 _ rfl
    have g4 := hf 4 _ rfl
    simp [c2, cs1, cb1] at g0 g1 g2 g3 g4
    obtain ⟨z0, e0, k0⟩ := open_id g0
    obtain ⟨z1, e1, k1⟩ := open_id g1
    obtain ⟨z2, e2, k2⟩ := open_id g2
    obtain ⟨s, e3, _, k3⟩ := DataW.trod_string Try.underlying9 g3
    obtain ⟨bb, e4, _⟩ := DataW.trod_bool Try.underlying4 g4
    simp only [encN, List.cons.injEq, and_true] at e0 e1 e2 e3 e4
    obtain ⟨rfl, rfl⟩ := e0
    obtain ⟨rfl, rfl⟩ := e1
    obtain ⟨rfl, rfl⟩ := e2
    subst e3; subst e4
    exact ⟨⟨z0, z1, z2, s, bb⟩, rfl, k0, k1, k2, k3⟩

/-- An item that came in. -/
theorem came_item {b0 : Nat} {r : Reach} {v : Value} {x : DataW H} {p : List MemPlace} (hv : Value.okWide Try.prog w r b0 171 v) (h : DataW.Trod enc Try.prog w base (fun _ => true) held 171 v x p) : ∃ z : Im, v = vM z ∧ HeldM z := by
  obtain ⟨cs, rfl, _⟩ := okWide_struct Try.underlying171 hv
  obtain ⟨fuel, hf⟩ := h
  obtain ⟨z, e, hz⟩ := open_item hf
  refine ⟨z, ?_, hz⟩
  have : cs.toList = encM z := e
  rw [← Array.toArray_toList (xs := cs), this]

/-- A name that came in. -/
theorem came_id {b0 : Nat} {r : Reach} {v : Value} {x : DataW H} {p : List MemPlace} (hv : Value.okWide Try.prog w r b0 169 v) (h : DataW.Trod enc Try.prog w base (fun _ => true) held 169 v x p) : ∃ z : Nm, v = vN z ∧ HeldN z := by
  obtain ⟨cs, rfl, _⟩ := okWide_struct Try.underlying169 hv
  obtain ⟨fuel, hf⟩ := h
  obtain ⟨z, e, hz⟩ := open_id hf
  refine ⟨z, ?_, hz⟩
  have : cs.toList = encN z := e
  rw [← Array.toArray_toList (xs := cs), this]

/-- A doc that came in. -/
theorem came_doc {b0 : Nat} {r : Reach} {v : Value} {x : DataW H} {p : List MemPlace} (hv : Value.okWide Try.prog w r b0 46 v) (h : DataW.Trod enc Try.prog w base (fun _ => true) held 46 v x p) : ∃ d : Dc, DcAt w w.heap.size v d ∧ HeldD d := by
  obtain ⟨v0, v1, v2, y0, y1, y2, n, rfl, _, _, h0, h1, h2⟩ := open_agg3 Try.underlying46 (by kernel_rfl) (by kernel_rfl) hv h
  obtain ⟨X, s1, s2, s3⟩ := open_sl encM HeldM encM_len Try.underlying43 (by kernel_rfl) (by omega) (fun _ _ _ => open_item) h0
  obtain ⟨Q, q1, q2, q3⟩ := open_sl encM HeldM encM_len Try.underlying43 (by kernel_rfl) (by omega) (fun _ _ _ => open_item) h1
  obtain ⟨L, l1, l2, l3⟩ := open_sl encN HeldN encN_len Try.underlying44 (by kernel_rfl) (by omega) (fun _ _ _ => open_id) h2
  exact ⟨⟨X, Q, L⟩, ⟨v0, v1, v2, rfl, s1, q1, l1⟩, s2, s3, q2, q3, l2, l3⟩

end

end Go.Proofs.Ytghiipoeedfkhaa
