/-
  Plain mathematics of a doc's text: what is not gone, in order; where it stands.
-/
import Derived.Test.YtghiipoeedfkhaaDocQ
namespace Go.Proofs.Ytghiipoeedfkhaa

/-- The text of items. -/
def textL (l : List Im) : List UInt8 := l.flatMap fun x => if x.g then [] else x.t.data.toList
theorem textL_append (a b : List Im) : textL (a ++ b) = textL a ++ textL b := by simp [textL]
theorem textL_live {l : List Im} {k : Nat} (hk : k < l.length) (h : l[k].g = false) : textL (l.take (k + 1)) = textL (l.take k) ++ l[k].t.data.toList := by
  rw [List.take_succ_eq_append_getElem hk, textL_append]
  simp [textL, h]
theorem textL_gone {l : List Im} {k : Nat} (hk : k < l.length) (h : l[k].g = true) : textL (l.take (k + 1)) = textL (l.take k) := by
  rw [List.take_succ_eq_append_getElem hk, textL_append]
  simp [textL, h]
/-- One byte each. -/
def Ones (l : List Im) : Prop := ∀ x ∈ l, x.t.size = 1
theorem Ones.take {l : List Im} (h : Ones l) (k : Nat) : Ones (l.take k) := fun x hx => h x (List.mem_of_mem_take hx)
theorem size_list (t : ByteArray) : t.data.toList.length = t.size := by simp
theorem textL_len {l : List Im} (h : Ones l) : (textL l).length ≤ l.length := by
  induction l with
  | nil => simp [textL]
  | cons x l ih =>
    have h1 := ih (fun y hy => h y (List.mem_cons_of_mem _ hy))
    have h2 := h x List.mem_cons_self
    have e : textL (x :: l) = (if x.g then [] else x.t.data.toList) ++ textL l := by simp [textL]
    rw [e, List.length_append, List.length_cons]
    have h3 : (if x.g then ([] : List UInt8) else x.t.data.toList).length ≤ 1 := by
      split
      · simp
      · rw [size_list, h2]; exact Nat.le_refl _
    omega
theorem items_ones {l : List Im} (h : ItemsP l) : Ones l := fun x hx => by
  obtain ⟨i, hi, rfl⟩ := List.getElem_of_mem hx
  exact (h.2 i hi hi).1.2.2.2.1.1

/-- Where what is not gone stands, numbered from k on. -/
def liveFrom : Nat → List Im → List Int
  | _, [] => []
  | k, x :: l => if x.g then liveFrom (k + 1) l else (k : Int) :: liveFrom (k + 1) l
def liveI (l : List Im) : List Int := liveFrom 0 l
theorem liveFrom_cons (k : Nat) (x : Im) (l : List Im) : liveFrom k (x :: l) = if x.g then liveFrom (k + 1) l else (k : Int) :: liveFrom (k + 1) l := rfl
theorem liveFrom_append : ∀ (a b : List Im) (k : Nat), liveFrom k (a ++ b) = liveFrom k a ++ liveFrom (k + a.length) b
  | [], b, k => by simp [liveFrom]
  | x :: a, b, k => by
    rw [List.cons_append, liveFrom_cons, liveFrom_cons]
    rw [liveFrom_append a b (k + 1), List.length_cons, show k + 1 + a.length = k + (a.length + 1) by omega]
    split <;> simp
theorem liveI_live {l : List Im} {k : Nat} (hk : k < l.length) (h : l[k].g = false) : liveI (l.take (k + 1)) = liveI (l.take k) ++ [(k : Int)] := by
  unfold liveI
  rw [List.take_succ_eq_append_getElem hk, liveFrom_append]
  simp [liveFrom, h, Nat.min_eq_left (Nat.le_of_lt hk)]
theorem liveI_gone {l : List Im} {k : Nat} (hk : k < l.length) (h : l[k].g = true) : liveI (l.take (k + 1)) = liveI (l.take k) := by
  unfold liveI
  rw [List.take_succ_eq_append_getElem hk, liveFrom_append]
  simp [liveFrom, h]
theorem liveFrom_len : ∀ (l : List Im) (k : Nat), (liveFrom k l).length ≤ l.length
  | [], _ => by simp [liveFrom]
  | x :: l, k => by
    have := liveFrom_len l (k + 1)
    rw [liveFrom_cons]
    split <;> simp <;> omega
theorem liveI_len (l : List Im) : (liveI l).length ≤ l.length := liveFrom_len l 0
theorem liveFrom_mem : ∀ (l : List Im) (k : Nat) (p : Int), p ∈ liveFrom k l → ∃ n : Nat, ∃ h : n < l.length, p = ((k + n : Nat) : Int) ∧ l[n].g = false
  | [], _, p, h => by simp [liveFrom] at h
  | x :: l, k, p, h => by
    rw [liveFrom_cons] at h
    cases hg : x.g with
    | true =>
      rw [hg] at h
      obtain ⟨n, hn, e, hl⟩ := liveFrom_mem l (k + 1) p (by simpa using h)
      exact ⟨n + 1, by simp; omega, by rw [e]; congr 1; omega, by simpa using hl⟩
    | false =>
      rw [hg] at h
      rcases List.mem_cons.1 (by simpa using h) with rfl | h
      · exact ⟨0, by simp, by simp, by simpa using hg⟩
      · obtain ⟨n, hn, e, hl⟩ := liveFrom_mem l (k + 1) p h
        exact ⟨n + 1, by simp; omega, by rw [e]; congr 1; omega, by simpa using hl⟩
theorem liveI_mem {l : List Im} {p : Int} (h : p ∈ liveI l) : ∃ n : Nat, ∃ h : n < l.length, p = (n : Int) ∧ l[n].g = false := by
  obtain ⟨n, hn, e, hl⟩ := liveFrom_mem l 0 p h
  exact ⟨n, hn, by rw [e]; congr 1; omega, hl⟩
theorem liveI_at {l : List Im} {k : Nat} (hk : k < (liveI l).length) : ∃ n : Nat, ∃ h : n < l.length, (liveI l)[k] = (n : Int) ∧ l[n].g = false := liveI_mem (List.getElem_mem hk)

/-- The text of the items at these places. -/
def textAt (l : List Im) (ps : List Int) : List UInt8 := ps.flatMap fun p => match l[p.toNat]? with
  | some x => x.t.data.toList
  | none => []
theorem textAt_snoc {l : List Im} {ps : List Int} {k n : Nat} (hk : k < ps.length) (hn : n < l.length) (h : ps[k] = (n : Int)) : textAt l (ps.take (k + 1)) = textAt l (ps.take k) ++ l[n].t.data.toList := by
  rw [List.take_succ_eq_append_getElem hk]
  simp [textAt, h, hn]
theorem textAt_from (l : List Im) : ∀ (r : List Im) (k : Nat), (∀ j x, r[j]? = some x → l[k + j]? = some x) → textAt l (liveFrom k r) = textL r
  | [], k, _ => by simp [liveFrom, textAt, textL]
  | x :: r, k, h => by
    have ih := textAt_from l r (k + 1) (fun j y hj => by have := h (j + 1) y (by simpa using hj); rwa [show k + 1 + j = k + (j + 1) by omega])
    have h0 := h 0 x rfl
    rw [Nat.add_zero] at h0
    rw [liveFrom_cons]
    have e : textL (x :: r) = (if x.g then [] else x.t.data.toList) ++ textL r := by simp [textL]
    rw [e]
    cases hg : x.g with
    | true => simpa using ih
    | false =>
      simp only [Bool.false_eq_true, if_false]
      rw [← ih]
      simp [textAt, h0]
theorem textAt_live (l : List Im) : textAt l (liveI l) = textL l := textAt_from l l 0 (fun j x h => by rwa [Nat.zero_add])
theorem textAt_len {l : List Im} (h : Ones l) : ∀ ps : List Int, (textAt l ps).length ≤ ps.length
  | [] => by simp [textAt]
  | p :: ps => by
    have ih := textAt_len h ps
    have e : textAt l (p :: ps) = (match l[p.toNat]? with | some x => x.t.data.toList | none => []) ++ textAt l ps := by simp [textAt]
    rw [e, List.length_append, List.length_cons]
    have h3 : (match l[p.toNat]? with | some x => x.t.data.toList | none => ([] : List UInt8)).length ≤ 1 := by
      split
      · rename_i x hx
        rw [size_list, h x (List.mem_of_getElem? hx)]; exact Nat.le_refl _
      · simp
    omega
theorem live_text_len {l : List Im} (h : Ones l) : (textL l).length = (liveI l).length := by
  have : ∀ (l : List Im) (k : Nat), Ones l → (textL l).length = (liveFrom k l).length := by
    intro l
    induction l with
    | nil => intro k _; rfl
    | cons x l ih =>
      intro k h
      have h1 := ih (k + 1) (fun y hy => h y (List.mem_cons_of_mem _ hy))
      have h2 := h x List.mem_cons_self
      have e : textL (x :: l) = (if x.g then [] else x.t.data.toList) ++ textL l := by simp [textL]
      rw [e, List.length_append, h1, liveFrom_cons]
      cases x.g <;> simp [h2] <;> omega
  exact this l 0 h
def textB (l : List Im) : ByteArray := ⟨(textL l).toArray⟩
/-- TextOf. -/
noncomputable def textD (d : Dc) : ByteArray := if docB d = true then textB d.X else ⟨#[]⟩
theorem textD_yes {d : Dc} (h : docB d = true) : textD d = textB d.X := if_pos h
theorem textD_no {d : Dc} (h : docB d = false) : textD d = ⟨#[]⟩ := if_neg (by rw [h]; exact Bool.false_ne_true)

end Go.Proofs.Ytghiipoeedfkhaa
