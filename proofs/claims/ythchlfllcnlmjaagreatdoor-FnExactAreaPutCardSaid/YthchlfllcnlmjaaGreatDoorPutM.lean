/-
  What AreaPut answers, as data.
-/
import Derived.Test.YthchlfllcnlmjaaGreatDoorReadM
import Derived.Test.YthchlfllcnlmjaaGreatDoorFormat
namespace Go.Proofs.YthchlfllcnlmjaaGreatDoor
open Go.RowKit

open Classical in
/-- A step of a put: the text's k-th sector; the head; a flush. -/
noncomputable def putDo (f : Nat) (g s : Int) (t : ByteArray) (k : Nat) (d : Dk) : Do :=
  if k < partsN t.size then writeDo d ((f + k : Nat) : Int) (t.extract (64 * k) (min (64 * k + 64) t.size))
  else if k = partsN t.size + 1 then writeDo d 0 (headB g s t.size) else flushDo d
theorem putDo_text {f : Nat} {g s : Int} {t : ByteArray} {k : Nat} {d : Dk} (h : k < partsN t.size) : putDo f g s t k d = writeDo d ((f + k : Nat) : Int) (t.extract (64 * k) (min (64 * k + 64) t.size)) := by
  classical
  unfold putDo; rw [if_pos h]
theorem putDo_head {f : Nat} {g s : Int} {t : ByteArray} {k : Nat} {d : Dk} (h : k = partsN t.size + 1) : putDo f g s t k d = writeDo d 0 (headB g s t.size) := by
  classical
  unfold putDo; rw [if_neg (by omega), if_pos h]
theorem putDo_flush {f : Nat} {g s : Int} {t : ByteArray} {k : Nat} {d : Dk} (h : ¬ k < partsN t.size) (h1 : ¬ k = partsN t.size + 1) : putDo f g s t k d = flushDo d := by
  classical
  unfold putDo; rw [if_neg h, if_neg h1]

theorem write_len {d : Dk} {a : Int} {t : ByteArray} (h : (writeDo d a t).code = 0) : (writeDo d a t).dk.S.length = d.S.length := by
  classical
  unfold writeDo at *
  split
  · rename_i hc; rw [if_pos hc] at h; cases h
  · rename_i hc; rw [if_neg hc] at h
    split
    · rename_i hd; rw [if_pos hd] at h; cases h
    · rename_i hd; rw [if_neg hd] at h
      split
      · rename_i he; rw [if_pos he] at h; cases h
      · rename_i he; rw [if_neg he] at h
        split
        · rename_i hf; rw [if_pos hf] at h; cases h
        · rfl
theorem flush_right {d : Dk} (h : Right d) : Right (flushDo d).dk ∧ (flushDo d).dk.S.length = d.S.length := by
  rw [flush_ok h]
  obtain ⟨h1, h2, h3, h4, h5⟩ := h
  refine ⟨⟨?_, ?_, Nat.zero_le _, fun s hs => ?_, fun p hp => by cases hp⟩, flushS_len _ _⟩
  · simp only [flushS_len]; exact h1
  · simp only [flushS_len]; exact h2
  · obtain ⟨i, hi, rfl⟩ := List.mem_iff_getElem.1 hs
    have hi' : i < d.S.length := by simpa [flushS_len] using hi
    have hg := flushS_get d.S d.P i hi'
    rw [List.getElem?_eq_getElem hi] at hg
    have hg := Option.some.inj hg
    rw [hg]
    cases hl : lastOf d.P (i : Int) with
    | some u => exact (h5 _ (lastOf_mem _ _ _ hl)).2.2
    | none => exact h4 _ (List.getElem_mem hi')
theorem putDo_right {f : Nat} {g s : Int} {t : ByteArray} {k : Nat} {d : Dk} (hR : Right d) (h : (putDo f g s t k d).code = 0) : Right (putDo f g s t k d).dk ∧ (putDo f g s t k d).dk.S.length = d.S.length := by
  by_cases h1 : k < partsN t.size
  · rw [putDo_text h1] at *
    exact ⟨write_right _ _ h, write_len h⟩
  · by_cases h2 : k = partsN t.size + 1
    · rw [putDo_head h2] at *
      exact ⟨write_right _ _ h, write_len h⟩
    · rw [putDo_flush h1 h2] at *
      exact flush_right hR

/-- The first j steps: a code, and the disk. -/
noncomputable def putRun (f : Nat) (g s : Int) (t : ByteArray) : Nat → Dk → Int × Dk
  | 0, d => (0, d)
  | j + 1, d => if (putRun f g s t j d).1 = 0 then
      (if (putDo f g s t j (putRun f g s t j d).2).code = 0 then (0, (putDo f g s t j (putRun f g s t j d).2).dk) else ((putDo f g s t j (putRun f g s t j d).2).code, ⟨[], []⟩))
    else putRun f g s t j d
theorem putRun_ok {f : Nat} {g s : Int} {t : ByteArray} {j : Nat} {d cur : Dk} (h : putRun f g s t j d = (0, cur)) (hc : (putDo f g s t j cur).code = 0) : putRun f g s t (j + 1) d = (0, (putDo f g s t j cur).dk) := by
  rw [putRun, h]
  simp only
  rw [if_pos trivial, if_pos hc]
theorem putRun_ill {f : Nat} {g s : Int} {t : ByteArray} {j : Nat} {d cur : Dk} (h : putRun f g s t j d = (0, cur)) (hc : ¬ (putDo f g s t j cur).code = 0) : ∀ i, j < i → putRun f g s t i d = ((putDo f g s t j cur).code, ⟨[], []⟩) := by
  have h1 : putRun f g s t (j + 1) d = ((putDo f g s t j cur).code, ⟨[], []⟩) := by
    rw [putRun, h]
    simp only
    rw [if_pos trivial, if_neg hc]
  intro i hi
  induction i with
  | zero => omega
  | succ i ih =>
    by_cases hji : i = j
    · rw [hji]; exact h1
    · rw [putRun, ih (by omega)]
      simp only
      rw [if_neg hc]
theorem putRun_right {f : Nat} {g s : Int} {t : ByteArray} {d : Dk} (hR : Right d) : ∀ (j : Nat) (cur : Dk), putRun f g s t j d = (0, cur) → Right cur ∧ cur.S.length = d.S.length
  | 0, cur, h => by
    rw [putRun] at h
    obtain rfl : d = cur := (Prod.mk.inj h).2
    exact ⟨hR, rfl⟩
  | j + 1, cur, h => by
    obtain ⟨c, hc⟩ : ∃ x, putRun f g s t j d = x := ⟨_, rfl⟩
    obtain ⟨c, d'⟩ := c
    by_cases h0 : c = 0
    · subst h0
      obtain ⟨i1, i2⟩ := putRun_right hR j d' hc
      by_cases hy : (putDo f g s t j d').code = 0
      · rw [putRun_ok hc hy] at h
        obtain rfl := (Prod.mk.inj h).2
        obtain ⟨i3, i4⟩ := putDo_right i1 hy
        exact ⟨i3, i4.trans i2⟩
      · rw [putRun_ill hc hy (j + 1) (by omega)] at h
        exact absurd (Prod.mk.inj h).1 hy
    · rw [putRun, hc] at h
      simp only at h
      rw [if_neg h0] at h
      exact absurd (Prod.mk.inj h).1 h0

/-- How many steps are done. -/
def putN (t : ByteArray) (steps : Int) : Nat := min steps.toNat (partsN t.size + 3)
open Classical in
/-- What AreaPut answers. -/
noncomputable def putAo (d : Dk) (t : ByteArray) (steps : Int) : Ao :=
  if 8000 < t.size then illAo 2
  else if ¬ Right d then illAo 1
  else if ¬ (readAo d).code = 0 then illAo (readAo d).code
  else if (64 * halfN d < t.size ∨ 1000000 ≤ (readAo d).gen) then illAo 9
  else
    let s := 1 - (seenH (readT d 0) (64 * halfN d)).2.1
    let r := putRun (firstN d s.toNat) ((readAo d).gen + 1) s t (putN t steps) d
    if r.1 = 0 then ⟨r.2, ⟨#[]⟩, 0, 0⟩ else illAo r.1
theorem putAo_size {d : Dk} {t : ByteArray} {steps : Int} (h : 8000 < t.size) : putAo d t steps = illAo 2 := by
  classical
  unfold putAo; rw [if_pos h]
theorem putAo_form {d : Dk} {t : ByteArray} {steps : Int} (h : ¬ 8000 < t.size) (hR : ¬ Right d) : putAo d t steps = illAo 1 := by
  classical
  unfold putAo; rw [if_neg h, if_pos hR]
theorem putAo_read {d : Dk} {t : ByteArray} {steps : Int} (h : ¬ 8000 < t.size) (hR : Right d) {c : Int} (hr : readAo d = illAo c) (hc : ¬ c = 0) : putAo d t steps = illAo c := by
  classical
  unfold putAo; rw [if_neg h, if_neg (fun h' => h' hR), hr]
  exact if_pos hc
theorem putAo_full {d : Dk} {t x : ByteArray} {steps g : Int} (h : ¬ 8000 < t.size) (hR : Right d) (hr : readAo d = ⟨d, x, g, 0⟩) (hf : 64 * halfN d < t.size ∨ 1000000 ≤ g) : putAo d t steps = illAo 9 := by
  classical
  unfold putAo; rw [if_neg h, if_neg (fun h' => h' hR), hr]
  simp only
  rw [if_neg (fun h' => h' trivial), if_pos hf]
/-- All is well: what the steps leave. -/
theorem putAo_run {d : Dk} {t x : ByteArray} {steps g n : Int} {s : Nat} (h : ¬ 8000 < t.size) (hR : Right d) (hr : readAo d = ⟨d, x, g, 0⟩) (hf : ¬ (64 * halfN d < t.size ∨ 1000000 ≤ g)) (hse : seenH (readT d 0) (64 * halfN d) = (g, (s : Int), n, 0)) (hs : s ≤ 1) :
    putAo d t steps = if (putRun (firstN d (1 - s)) (g + 1) ((1 - s : Nat) : Int) t (putN t steps) d).1 = 0 then ⟨(putRun (firstN d (1 - s)) (g + 1) ((1 - s : Nat) : Int) t (putN t steps) d).2, ⟨#[]⟩, 0, 0⟩ else illAo (putRun (firstN d (1 - s)) (g + 1) ((1 - s : Nat) : Int) t (putN t steps) d).1 := by
  classical
  unfold putAo; rw [if_neg h, if_neg (fun h' => h' hR), hr, hse]
  simp only
  rw [if_neg (fun h' => h' trivial), if_neg hf]
  have e1 : (1 : Int) - (s : Int) = ((1 - s : Nat) : Int) := by omega
  rw [e1, Int.toNat_natCast]

end Go.Proofs.YthchlfllcnlmjaaGreatDoor
