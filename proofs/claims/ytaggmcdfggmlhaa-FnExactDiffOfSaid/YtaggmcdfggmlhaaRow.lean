/-
  Plain mathematics of rows in order: rising, where a name stands or would stand, one more put among them.
-/
import Derived.Test.YtaggmcdfggmlhaaDocQ
namespace Go.Proofs.Ytaggmcdfggmlhaa
set_option linter.unusedVariables false

theorem less_trans {a b c : Nm} (h : LessP a b) (k : LessP b c) : LessP a c := by unfold LessP at *; omega
theorem less_irr (a : Nm) : ¬ LessP a a := by unfold LessP; omega
theorem less_tri (a b : Nm) (h : ¬ LessP a b) (h2 : a ≠ b) : LessP b a := by
  cases a; cases b
  simp only [LessP, ne_eq, Nm.mk.injEq, not_and] at *
  omega
theorem lessB_t {a b : Nm} (h : LessP a b) : lessB a b = true := (lessB_iff a b).2 h
theorem lessB_f {a b : Nm} (h : ¬ LessP a b) : lessB a b = false := by
  cases e : lessB a b
  · rfl
  · exact absurd ((lessB_iff a b).1 e) h

section
variable {α : Type}
/-- Ahead of k each is of a greater name than the one ahead of it. -/
def RiseTo (f : α → Nm) (l : List α) (k : Nat) : Prop := ∀ i (h : i < l.length), i < k → ∀ j, i = j + 1 → ∀ h' : j < l.length, LessP (f l[j]) (f l[i])
theorem riseTo_one (f : α → Nm) (l : List α) : RiseTo f l 1 := fun i _ h j e => by omega
theorem riseTo_zero (f : α → Nm) (l : List α) : RiseTo f l 0 := fun i _ h j e => by omega
theorem riseTo_step {f : α → Nm} {l : List α} {k : Nat} (h : RiseTo f l k) (he : ∀ hk : k < l.length, ∀ j, k = j + 1 → ∀ h' : j < l.length, LessP (f l[j]) (f l[k])) : RiseTo f l (k + 1) := fun i hi hlt => by
  by_cases e : i = k
  · subst e; exact he hi
  · exact h i hi (by omega)
def Rise (f : α → Nm) (l : List α) : Prop := RiseTo f l l.length
open Classical in
noncomputable def riseB (f : α → Nm) (l : List α) : Bool := decide (Rise f l)
open Classical in
theorem riseB_iff (f : α → Nm) (l : List α) : riseB f l = true ↔ Rise f l := decide_eq_true_iff
theorem riseB_yes {f : α → Nm} {l : List α} (h : Rise f l) : riseB f l = true := (riseB_iff f l).2 h
theorem riseB_no {f : α → Nm} {l : List α} (h : ¬ Rise f l) : riseB f l = false := by
  cases e : riseB f l with
  | false => rfl
  | true => exact absurd ((riseB_iff f l).1 e) h
theorem rise_nil (f : α → Nm) : Rise f [] := fun i h => absurd h (Nat.not_lt_zero _)
theorem rise_lt {f : α → Nm} {l : List α} (h : Rise f l) {i j : Nat} (hj : j < l.length) (hij : i < j) : LessP (f (l[i]'(by omega))) (f l[j]) := by
  induction j with
  | zero => omega
  | succ j ih =>
    have h1 := h (j + 1) hj hj j rfl (by omega)
    by_cases e : i = j
    · subst e; exact h1
    · exact less_trans (ih (by omega) (by omega)) h1
theorem rise_of {f : α → Nm} {l : List α} (h : ∀ i j (hj : j < l.length) (hij : i < j), LessP (f (l[i]'(by omega))) (f l[j])) : Rise f l := fun i hi _ j e hj => by subst e; exact h j (j + 1) hi (by omega)

/-- Where a name stands, or would stand. -/
def spot (f : α → Nm) (l : List α) (n : Nm) : Nat := (l.takeWhile fun x => lessB (f x) n).length
theorem spot_le (f : α → Nm) (l : List α) (n : Nm) : spot f l n ≤ l.length := (List.takeWhile_sublist _).length_le
/-- All ahead of k are of lesser names. -/
def LowTo (f : α → Nm) (l : List α) (n : Nm) (k : Nat) : Prop := ∀ i (h : i < l.length), i < k → LessP (f l[i]) n
theorem lowTo_zero (f : α → Nm) (l : List α) (n : Nm) : LowTo f l n 0 := fun i _ h => by omega
theorem lowTo_step {f : α → Nm} {l : List α} {n : Nm} {k : Nat} (h : LowTo f l n k) (hk : k < l.length) (he : LessP (f l[k]) n) : LowTo f l n (k + 1) := fun i hi hlt => by
  by_cases e : i = k
  · subst e; exact he
  · exact h i hi (by omega)
theorem spot_is {f : α → Nm} {l : List α} {n : Nm} {k : Nat} (hk : k ≤ l.length) (h : LowTo f l n k) (h2 : ∀ hk : k < l.length, ¬ LessP (f l[k]) n) : spot f l n = k := by
  unfold spot
  induction l generalizing k with
  | nil => simp at hk; simp [hk]
  | cons x l ih =>
    cases k with
    | zero =>
      have := h2 (by simp)
      simp only [List.getElem_cons_zero] at this
      rw [List.takeWhile_cons, lessB_f this]
      simp
    | succ k =>
      have h0 := h 0 (by simp) (by omega)
      simp only [List.getElem_cons_zero] at h0
      rw [List.takeWhile_cons, lessB_t h0]
      simp only [if_true, List.length_cons, Nat.add_right_cancel_iff]
      refine ih (by simp at hk; omega) (fun i hi hlt => ?_) (fun hk => ?_)
      · have := h (i + 1) (by simp; omega) (by omega)
        simpa using this
      · have := h2 (by simp; omega)
        simpa using this
theorem spot_low (f : α → Nm) (l : List α) (n : Nm) : LowTo f l n (spot f l n) := by
  unfold spot
  induction l with
  | nil => exact fun i h => absurd h (Nat.not_lt_zero _)
  | cons x l ih =>
    by_cases hx : LessP (f x) n
    · rw [List.takeWhile_cons, lessB_t hx]
      intro i hi hlt
      cases i with
      | zero => exact hx
      | succ i => exact ih i (by simp at hi; omega) (by simp at hlt; omega)
    · rw [List.takeWhile_cons, lessB_f hx]
      intro i hi hlt
      simp at hlt
theorem spot_stop (f : α → Nm) (l : List α) (n : Nm) (h : spot f l n < l.length) : ¬ LessP (f l[spot f l n]) n := by
  intro hc
  have hl := spot_low f l n
  have h2 := lowTo_step hl h hc
  have : ∀ l : List α, ∀ k, LowTo f l n k → k ≤ l.length → k ≤ spot f l n := by
    intro l
    induction l with
    | nil => intro k _ hk; simp at hk; omega
    | cons x l ih =>
      intro k hk hle
      cases k with
      | zero => omega
      | succ k =>
        have h0 := hk 0 (by simp) (by omega)
        simp only [List.getElem_cons_zero] at h0
        have h1 := ih k (fun i hi hlt => by have := hk (i + 1) (by simp; omega) (by omega); simpa using this) (by simp at hle; omega)
        unfold spot at h1 ⊢
        rw [List.takeWhile_cons, lessB_t h0]
        simp only [if_true, List.length_cons]
        omega
  have := this l _ h2 (by omega)
  omega
/-- There is one of that name. -/
def ThereP (f : α → Nm) (l : List α) (n : Nm) : Prop := ∃ h : spot f l n < l.length, f l[spot f l n] = n
instance (f : α → Nm) (l : List α) (n : Nm) : Decidable (ThereP f l n) := by unfold ThereP; infer_instance
def thereB (f : α → Nm) (l : List α) (n : Nm) : Bool := decide (ThereP f l n)
theorem thereB_iff (f : α → Nm) (l : List α) (n : Nm) : thereB f l n = true ↔ ThereP f l n := decide_eq_true_iff
theorem there_yes {f : α → Nm} {l : List α} {n : Nm} (h : ThereP f l n) : thereB f l n = true := (thereB_iff f l n).2 h
theorem there_no {f : α → Nm} {l : List α} {n : Nm} (h : ¬ ThereP f l n) : thereB f l n = false := decide_eq_false h
/-- These and one more, if there is none of its name. -/
def withR (f : α → Nm) (l : List α) (x : α) : List α := if ThereP f l (f x) then l else l.take (spot f l (f x)) ++ x :: l.drop (spot f l (f x))
theorem with_there {f : α → Nm} {l : List α} {x : α} (h : ThereP f l (f x)) : withR f l x = l := if_pos h
theorem with_new {f : α → Nm} {l : List α} {x : α} (h : ¬ ThereP f l (f x)) : withR f l x = l.take (spot f l (f x)) ++ x :: l.drop (spot f l (f x)) := if_neg h
theorem with_mem {f : α → Nm} {l : List α} {x y : α} (h : y ∈ withR f l x) : y ∈ l ∨ y = x := by
  unfold withR at h
  split at h
  · exact .inl h
  · rcases List.mem_append.1 h with h | h
    · exact .inl (List.mem_of_mem_take h)
    · rcases List.mem_cons.1 h with h | h
      · exact .inr h
      · exact .inl (List.mem_of_mem_drop h)
theorem with_len (f : α → Nm) (l : List α) (x : α) : l.length ≤ (withR f l x).length ∧ (withR f l x).length ≤ l.length + 1 := by
  unfold withR
  split
  · omega
  · have := spot_le f l (f x)
    simp only [List.length_append, List.length_take, List.length_cons, List.length_drop]
    omega
theorem spot_of_rise {f : α → Nm} {l : List α} (hr : Rise f l) {n : Nm} {k : Nat} (hk : k < l.length) (h : f l[k] = n) : spot f l n = k :=
  spot_is (by omega) (fun i hi hlt => by rw [← h]; exact rise_lt hr hk hlt) (fun _ => by rw [h]; exact less_irr n)
theorem there_of_mem {f : α → Nm} {l : List α} (hr : Rise f l) {x : α} (hx : x ∈ l) : ThereP f l (f x) := by
  obtain ⟨k, hk, rfl⟩ := List.getElem_of_mem hx
  have := spot_of_rise hr hk rfl
  refine ⟨by omega, ?_⟩
  simp only [this]
theorem with_rise {f : α → Nm} {l : List α} (hr : Rise f l) (x : α) : Rise f (withR f l x) := by
  by_cases ht : ThereP f l (f x)
  · rw [with_there ht]; exact hr
  · rw [with_new ht]
    have hs := spot_le f l (f x)
    have hlow := spot_low f l (f x)
    obtain ⟨s, hs2⟩ : ∃ s, s = spot f l (f x) := ⟨_, rfl⟩
    have hhi : ∀ i (hi : i < l.length), s ≤ i → LessP (f x) (f l[i]) := by
      intro i hi hle
      have hsl : spot f l (f x) < l.length := by omega
      have h1 : LessP (f x) (f l[spot f l (f x)]) := less_tri _ _ (spot_stop f l (f x) hsl) (fun e => ht ⟨hsl, e⟩)
      by_cases e : i = spot f l (f x)
      · simpa only [e] using h1
      · exact less_trans h1 (rise_lt hr hi (by omega))
    rw [← hs2] at hs hlow ⊢
    have hlt : (l.take s).length = s := by simp; omega
    refine rise_of (fun i j hj hij => ?_)
    have hj' : j < l.length + 1 := by simp only [List.length_append, List.length_cons, List.length_drop, hlt] at hj; omega
    have get : ∀ m (hm : m < (l.take s ++ x :: l.drop s).length), (m < s ∧ ∃ h : m < l.length, (l.take s ++ x :: l.drop s)[m] = l[m]) ∨ (m = s ∧ (l.take s ++ x :: l.drop s)[m] = x) ∨ (s < m ∧ ∃ h : m - 1 < l.length, (l.take s ++ x :: l.drop s)[m] = l[m - 1]) := by
      intro m hm
      have hm' : m < l.length + 1 := by simp only [List.length_append, List.length_cons, List.length_drop, hlt] at hm; omega
      rcases Nat.lt_trichotomy m s with h | h | h
      · left
        exact ⟨h, by omega, by rw [List.getElem_append_left (by omega)]; simp⟩
      · right; left
        refine ⟨h, ?_⟩
        rw [List.getElem_append_right (by omega)]
        simp [hlt, h]
      · right; right
        refine ⟨h, by omega, ?_⟩
        rw [List.getElem_append_right (by omega)]
        have e : m - (l.take s).length = (m - s - 1) + 1 := by omega
        simp only [e, List.getElem_cons_succ, List.getElem_drop]
        congr 1
        omega
    rcases get i (by omega) with ⟨h1, hi, e1⟩ | ⟨h1, e1⟩ | ⟨h1, hi, e1⟩ <;> rcases get j hj with ⟨h2, hj2, e2⟩ | ⟨h2, e2⟩ | ⟨h2, hj2, e2⟩ <;> rw [e1, e2]
    · exact rise_lt hr hj2 hij
    · exact hlow i hi h1
    · exact less_trans (hlow i hi h1) (hhi (j - 1) hj2 (by omega))
    · omega
    · omega
    · exact hhi (j - 1) hj2 (by omega)
    · omega
    · omega
    · exact rise_lt hr hj2 (by omega)
end

end Go.Proofs.Ytaggmcdfggmlhaa
