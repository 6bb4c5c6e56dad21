/-
  append onto a slice without room: a row of the call's own. Parts of a slice.
-/
import Derived.Test.YtaggmcdfggmlhaaFresh
import Derived.Test.YtaggmcdfggmlhaaCopyD
import Derived.Test.YtaggmcdfggmlhaaMkM
namespace Go.Proofs.Ytaggmcdfggmlhaa
set_option linter.unusedSimpArgs false
set_option linter.unusedVariables false
open Go.RowKit
variable {P : Program} {α : Type}

theorem sl_flat {w : World} {B k c : Nat} {enc : α → List Value} {ad : Addr} {l : List α} (hpos : 0 < k) (hk : ∀ x, (enc x).length = k) (hs : Sl w B k enc (.slice (some ad) l.length c) l) : ∀ j u, (l.flatMap enc)[j]? = some u → w.cell? (ad.add j) = some u := by
  obtain ⟨A, c', e, hA⟩ := hs
  simp only [Value.slice.injEq, true_and] at e
  obtain ⟨rfl, rfl⟩ := e
  have hl := flat_len k enc hk l
  intro j u hu
  have hj : j < l.length * k := by rw [← hl]; exact (List.getElem?_eq_some_iff.1 hu).1
  have h0 : 0 < l.length := by
    rcases Nat.eq_zero_or_pos l.length with h | h
    · rw [h] at hj; omega
    · exact h
  obtain ⟨ad', e2, hbk, hc⟩ := hA h0
  cases e2
  have hdm : j / k * k + j % k = j := by rw [Nat.mul_comm]; exact Nat.div_add_mod j k
  have hq : j / k < l.length := (Nat.div_lt_iff_lt_mul hpos).2 hj
  have hr : j % k < k := Nat.mod_lt _ hpos
  have hx : l[j / k]? = some (l[j / k]) := List.getElem?_eq_getElem hq
  have hy : (enc l[j / k])[j % k]? = some ((enc l[j / k])[j % k]'(by rw [hk]; exact hr)) := List.getElem?_eq_getElem _
  have hf := flat_at k enc hk l _ _ _ _ hx hy
  rw [hdm, hu] at hf
  rw [hf, ← hc _ _ hx _ _ hy, Go.Deep.add_add, hdm]

/-- append onto a slice without room. -/
theorem run_append_full {T E : TypeId} {k bytes : Nat} (hT : SlType P T E k bytes) (ty : TypeId) (w : World) (B B2 : Nat) (enc : α → List Value) (A : Option Addr) (l1 : List α) (h1 : Sl w B k enc (.slice A l1.length l1.length) l1)
    (s : Value) (l2 : List α) (h2 : Sl w B2 k enc s l2) (hne : 0 < l2.length) (hk : ∀ x, (enc x).length = k) (ho : ∀ x, ∀ u ∈ enc x, u.oneCell' = true) (hn : l1.length + l2.length ≤ maxLen) (hb : (l1.length + l2.length) * bytes ≤ 140737488355328) :
    ∃ v' w', (Builtin.append_ #[T, T] ty #[.slice A l1.length l1.length, s]).run P w = .ok v' w' ∧ Below w.heap.size w w' ∧ Ow w' w.heap.size E k enc v' (l1 ++ l2) := by
  rcases A with _ | ad
  · have h0 : l1.length = 0 := by
      rcases Nat.eq_zero_or_pos l1.length with h | h
      · exact h
      · obtain ⟨A, c', e, hA⟩ := h1
        simp only [Value.slice.injEq, true_and] at e
        obtain ⟨rfl, rfl⟩ := e
        obtain ⟨_, e2, _⟩ := hA h
        cases e2
    obtain rfl : l1 = [] := List.length_eq_zero_iff.1 h0
    obtain ⟨v', w', hr, h⟩ := run_append_sl hT ty w w.heap.size (.slice none 0 0) 0 [] (World.ownsRow_nil _ _ _ _) B2 enc s l2 h2 hk ho (by simpa using hn) (by simpa using hb) (Nat.le_refl _)
    refine ⟨v', w', hr, h.below (fun g hg => by cases hg) (Nat.le_refl _), ?_⟩
    have := h.1
    rw [Nat.zero_add, List.nil_append] at this
    exact this
  · obtain ⟨i, z, hi, hz, hsz, hby, hzs⟩ := hT.info
    obtain ⟨A2, c2, rfl⟩ := h2.form
    obtain ⟨a2, rfl⟩ : ∃ a2, A2 = some a2 := by
      obtain ⟨A, c', e, hA⟩ := h2
      simp only [Value.slice.injEq, true_and] at e
      obtain ⟨rfl, rfl⟩ := e
      obtain ⟨a, e2, _⟩ := hA hne
      exact ⟨a, e2⟩
    obtain ⟨v', w', hr, hown, hgr⟩ := run_append_arg_grows (P := P) w T ty E i z k bytes hT.under hi hz hsz hby hzs hT.pos ad l1.length l1.length (l1.flatMap enc) (flat_len k enc hk l1) (sl_flat hT.pos hk h1) a2 l2.length c2 (l2.flatMap enc) (flat_len k enc hk l2) (sl_flat hT.pos hk h2) (by omega) hn hb
    refine ⟨v', w', hr, ⟨hgr.os, hgr.tape, hgr.output, hgr.size, fun j hj => hgr.block j hj (by simp)⟩, ?_⟩
    unfold Ow
    rw [List.length_append, List.flatMap_append]
    exact hown

/-- The first n of a slice. -/
theorem sl_take {w : World} {B k c : Nat} {enc : α → List Value} {A : Option Addr} {l : List α} (h : Sl w B k enc (.slice A l.length c) l) (n c' : Nat) (hn : n ≤ l.length) : Sl w B k enc (.slice A n c') (l.take n) := by
  obtain ⟨A', c1, e, hA⟩ := h
  simp only [Value.slice.injEq, true_and] at e
  obtain ⟨rfl, rfl⟩ := e
  refine ⟨_, c', by rw [List.length_take, Nat.min_eq_left hn], fun h0 => ?_⟩
  rw [List.length_take] at h0
  obtain ⟨ad, rfl, hb, hc⟩ := hA (by omega)
  refine ⟨ad, rfl, hb, fun i x hx => hc i x ?_⟩
  rw [List.getElem?_take] at hx
  split at hx
  · exact hx
  · cases hx
/-- What is behind the first n. -/
theorem sl_drop {w : World} {B k c : Nat} {enc : α → List Value} {ad : Addr} {l : List α} (h : Sl w B k enc (.slice (some ad) l.length c) l) (n c' : Nat) (hn : n ≤ l.length) : Sl w B k enc (.slice (some (ad.add (n * k))) (l.length - n) c') (l.drop n) := by
  obtain ⟨A', c1, e, hA⟩ := h
  simp only [Value.slice.injEq, true_and] at e
  obtain ⟨rfl, rfl⟩ := e
  refine ⟨_, c', by rw [List.length_drop], fun h0 => ?_⟩
  rw [List.length_drop] at h0
  obtain ⟨ad', e2, hb, hc⟩ := hA (by omega)
  cases e2
  refine ⟨_, rfl, by unfold Addr.add; split <;> exact hb, fun i x hx => ?_⟩
  rw [List.getElem?_drop] at hx
  intro j u hu
  have := hc (n + i) x hx j u hu
  rw [Go.Deep.add_add] at this ⊢
  rw [Go.Deep.add_add]
  have e : n * k + (i * k + j) = (n + i) * k + j := by rw [Nat.add_mul]; omega
  rw [e]
  exact this

theorem markType : SlType Try.prog 39 113 2 16 := sl_type Try.underlying39 infoMark rfl (by omega)
theorem rowMType : SlType Try.prog 105 91 8 72 := sl_type Try.underlying105 infoItem rfl (by omega)
theorem rowIType : SlType Try.prog 106 89 2 16 := sl_type Try.underlying106 infoId rfl (by omega)
theorem rowKType : SlType Try.prog 110 113 2 16 := sl_type Try.underlying110 infoMark rfl (by omega)

end Go.Proofs.Ytaggmcdfggmlhaa
