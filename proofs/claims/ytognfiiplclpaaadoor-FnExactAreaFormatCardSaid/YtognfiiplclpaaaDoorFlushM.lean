/-
  Plain mathematics of what is pending: the last one of a place, a flush, a read; and a map that holds it.
-/
import Derived.Test.YtognfiiplclpaaaDoorWriteM
import Derived.Maps.StringElems
import Derived.Maps.OwnSet
import Derived.Maps.RangeWalk
namespace Go.Proofs.YtognfiiplclpaaaDoor
open Go.RowKit Go.Maps

/-- The last that is pending of a place. -/
def lastOf (P : List Pd) (a : Int) : Option ByteArray := P.foldl (fun r p => if p.1 = a then some p.2 else r) none
theorem lastOf_nil (a : Int) : lastOf [] a = none := rfl
theorem lastOf_snoc (P : List Pd) (p : Pd) (a : Int) : lastOf (P ++ [p]) a = if p.1 = a then some p.2 else lastOf P a := by simp [lastOf, List.foldl_append]
theorem lastOf_from (a : Int) (t : ByteArray) : ∀ (P : List Pd) (r : Option ByteArray), P.foldl (fun r p => if p.1 = a then some p.2 else r) r = some t → (a, t) ∈ P ∨ r = some t := by
  intro P
  induction P with
  | nil => intro r h; exact .inr h
  | cons p P ih =>
    intro r h
    rw [List.foldl_cons] at h
    rcases ih _ h with h1 | h1
    · exact .inl (List.mem_cons_of_mem _ h1)
    · by_cases hp : p.1 = a
      · rw [if_pos hp] at h1
        obtain ⟨x, y⟩ := p
        simp at h1 hp
        subst h1 hp
        exact .inl List.mem_cons_self
      · rw [if_neg hp] at h1
        exact .inr h1
theorem lastOf_mem (P : List Pd) (a : Int) (t : ByteArray) (h : lastOf P a = some t) : (a, t) ∈ P := by
  rcases lastOf_from a t P none h with h | h
  · exact h
  · cases h

/-- What the sectors are when all that is pending is in them. -/
def flushS (S : List ByteArray) (P : List Pd) : List ByteArray := (List.range S.length).map fun (i : Nat) => (lastOf P (i : Int)).getD (S.getD i ⟨#[]⟩)
theorem flushS_len (S : List ByteArray) (P : List Pd) : (flushS S P).length = S.length := by simp [flushS]
theorem flushS_get (S : List ByteArray) (P : List Pd) (i : Nat) (h : i < S.length) : (flushS S P)[i]? = some ((lastOf P (i : Int)).getD S[i]) := by
  simp [flushS, h]
theorem flushS_nil (S : List ByteArray) : flushS S [] = S := by
  apply List.ext_getElem (flushS_len S [])
  intro i h1 h2
  have := flushS_get S [] i h2
  rw [List.getElem?_eq_getElem h1] at this
  simpa [lastOf_nil] using this
theorem flushS_eq (S : List ByteArray) (P : List Pd) (L : List ByteArray) (hl : L.length = S.length) (h : ∀ (i : Nat) (hi : i < S.length), L[i]? = some ((lastOf P (i : Int)).getD S[i])) : L = flushS S P := by
  apply List.ext_getElem (by rw [hl, flushS_len])
  intro i h1 h2
  have h3 : i < S.length := by omega
  have e1 := h i h3
  have e2 := flushS_get S P i h3
  rw [List.getElem?_eq_getElem h1] at e1
  rw [List.getElem?_eq_getElem h2] at e2
  rw [Option.some.inj e1, Option.some.inj e2]
theorem flushS_snoc (S : List ByteArray) (P : List Pd) (k : Nat) (t : ByteArray) (hk : k < S.length) : flushS S (P ++ [((k : Int), t)]) = (flushS S P).set k t := by
  symm
  apply flushS_eq
  · rw [List.length_set, flushS_len]
  · intro i hi
    rw [lastOf_snoc, List.getElem?_set]
    by_cases h : k = i
    · subst h; simp [flushS_len, hk]
    · rw [if_neg h, if_neg (by simp; omega), flushS_get S P i hi]

/-- A map that holds what is pending, by its place. -/
def MapIs (D : DataW Unit) (P : List Pd) : Prop := ∀ a : Int, (has D (.int .i64 a) = (lastOf P a).isSome) ∧ ∀ s, lastOf P a = some s → ∀ z, D.atKey (.int .i64 a) z = .lit (.string s.data.toList)
theorem mapIs_nil : MapIs (.map []) [] := fun a => ⟨rfl, fun s h => by simp [lastOf_nil] at h⟩
theorem MapIs.put {D : DataW Unit} {P : List Pd} (h : MapIs D P) (hD : IsMap D) (a : Int) (t : ByteArray) : MapIs (D.put (.int .i64 a) (.lit (.string t.data.toList))) (P ++ [(a, t)]) := by
  intro b
  rw [lastOf_snoc]
  by_cases hb : a = b
  · subst hb
    rw [if_pos rfl]
    exact ⟨has_put_same hD (show WideAt.IsKeyLit (.int .i64 a) from trivial) _, fun s hs z => by
      have := Option.some.inj hs
      subst this
      exact atKey_put_same hD (show WideAt.IsKeyLit (.int .i64 a) from trivial) _ z⟩
  · rw [if_neg hb]
    have hne : (Lit.int .i64 b : Lit) ≠ Lit.int .i64 a := by simp; exact fun e => hb e.symm
    exact ⟨by rw [has_put_other hne]; exact (h b).1, fun s hs z => by rw [atKey_put_other hne]; exact (h b).2 s hs z⟩

theorem bytes_back (a b : ByteArray) (h : (DataW.lit (.string a.data.toList) : DataW Unit) = .lit (.string b.data.toList)) : a = b := by
  injection h with h
  injection h with h
  exact ByteArray.ext (Array.toList_inj.1 h)

open Classical in
/-- What DiskFlush answers. -/
noncomputable def flushDo (d : Dk) : Do := if Right d then ⟨⟨flushS d.S d.P, []⟩, ⟨#[]⟩, 0⟩ else illDo 1
open Classical in
theorem flush_ok {d : Dk} (h : Right d) : flushDo d = ⟨⟨flushS d.S d.P, []⟩, ⟨#[]⟩, 0⟩ := by unfold flushDo; rw [if_pos h]
open Classical in
theorem flush_form {d : Dk} (h : ¬ Right d) : flushDo d = illDo 1 := by unfold flushDo; rw [if_neg h]
/-- What a sector reads as. -/
def readT (d : Dk) (k : Nat) : ByteArray := (lastOf d.P (k : Int)).getD (d.S.getD k ⟨#[]⟩)
open Classical in
/-- What DiskRead answers. -/
noncomputable def readDo (d : Dk) (a : Int) : Do := if ¬ Right d then illDo 1 else if ¬ (0 ≤ a ∧ a < d.S.length) then illDo 8 else ⟨d, readT d a.toNat, 0⟩
open Classical in
theorem read_form {d : Dk} {a : Int} (h : ¬ Right d) : readDo d a = illDo 1 := by unfold readDo; rw [if_pos h]
open Classical in
theorem read_range {d : Dk} {a : Int} (h : Right d) (h1 : ¬ (0 ≤ a ∧ a < d.S.length)) : readDo d a = illDo 8 := by unfold readDo; rw [if_neg (fun h' => h' h), if_pos h1]
open Classical in
theorem read_ok {d : Dk} {a : Int} (h : Right d) (h1 : 0 ≤ a ∧ a < d.S.length) : readDo d a = ⟨d, readT d a.toNat, 0⟩ := by unfold readDo; rw [if_neg (fun h' => h' h), if_neg (fun h' => h' h1)]
/-- What a crash leaves of what is pending. -/
def kept (P : List Pd) (keep : List Int) : List Pd := ((List.range P.length).filter fun i => decide (0 < keep.getD i 0)).map fun i => P.getD i (0, ⟨#[]⟩)
open Classical in
/-- What DiskCrash answers. -/
noncomputable def crashDk (d : Dk) (keep : List Int) : Dk := if 400 < keep.length then ⟨[], []⟩ else if ¬ Right d then d else ⟨flushS d.S (kept d.P keep), []⟩
open Classical in
theorem crash_size {d : Dk} {keep : List Int} (h : 400 < keep.length) : crashDk d keep = ⟨[], []⟩ := by unfold crashDk; rw [if_pos h]
open Classical in
theorem crash_form {d : Dk} {keep : List Int} (h : ¬ 400 < keep.length) (h1 : ¬ Right d) : crashDk d keep = d := by unfold crashDk; rw [if_neg h, if_pos h1]
open Classical in
theorem crash_ok {d : Dk} {keep : List Int} (h : ¬ 400 < keep.length) (h1 : Right d) : crashDk d keep = ⟨flushS d.S (kept d.P keep), []⟩ := by unfold crashDk; rw [if_neg h, if_neg (fun h' => h' h1)]

theorem kept_take_yes (P : List Pd) (keep : List Int) (k : Nat) (hk : k < P.length) (h : 0 < keep.getD k 0) : kept (P.take (k + 1)) keep = kept (P.take k) keep ++ [P[k]] := by
  have e1 : (P.take (k + 1)).length = k + 1 := by rw [List.length_take]; omega
  have e2 : (P.take k).length = k := by rw [List.length_take]; omega
  unfold kept
  rw [e1, e2, List.range_succ, List.filter_append, List.map_append]
  congr 1
  · apply List.map_congr_left
    intro i hi
    have : i < k := by have := (List.mem_filter.1 hi).1; simpa using this
    simp [List.getD_eq_getElem?_getD, this, Nat.lt_succ_of_lt this]
  · simp only [List.filter_cons, h, decide_true, if_true, List.filter_nil, List.map_cons, List.map_nil]
    simp [List.getD_eq_getElem?_getD, hk]
theorem kept_take_no (P : List Pd) (keep : List Int) (k : Nat) (hk : k < P.length) (h : ¬ 0 < keep.getD k 0) : kept (P.take (k + 1)) keep = kept (P.take k) keep := by
  have e1 : (P.take (k + 1)).length = k + 1 := by rw [List.length_take]; omega
  have e2 : (P.take k).length = k := by rw [List.length_take]; omega
  unfold kept
  rw [e1, e2, List.range_succ, List.filter_append]
  have : ([k].filter fun i => decide (0 < keep.getD i 0)) = [] := by
    simp only [List.filter_cons, List.filter_nil]
    rw [if_neg (by simpa using h)]
  rw [this, List.append_nil]
  apply List.map_congr_left
  intro i hi
  have : i < k := by have := (List.mem_filter.1 hi).1; simpa using this
  simp [List.getD_eq_getElem?_getD, this, Nat.lt_succ_of_lt this]
theorem kept_mem (P : List Pd) (keep : List Int) (p : Pd) (h : p ∈ kept P keep) : p ∈ P := by
  unfold kept at h
  obtain ⟨i, hi, rfl⟩ := List.mem_map.1 h
  have : i < P.length := by have := (List.mem_filter.1 hi).1; simpa using this
  rw [List.getD_eq_getElem?_getD, List.getElem?_eq_getElem this]
  exact List.getElem_mem this
theorem kept_len (P : List Pd) (keep : List Int) : (kept P keep).length ≤ P.length := by
  unfold kept
  rw [List.length_map]
  have := List.length_filter_le (fun i => decide (0 < keep.getD i 0)) (List.range P.length)
  simpa using this

end Go.Proofs.YtognfiiplclpaaaDoor
