/-
  Plain mathematics of docs: where an item is, which one is next, what may stand, what may wait. No program in sight.
-/
import Derived.Test.YtghiipoeedfkhaaDocM
namespace Go.Proofs.Ytghiipoeedfkhaa

theorem ret_i64 {a b : Int} (h : a = b) : Ending.returned (.int .i64 a) = .returned (.int .i64 b) := by rw [h]

/-- Where the item of a name is; -1: nowhere. -/
def atOf (l : List Im) (n : Nm) : Int := match l.findIdx? (fun x => eqN x.i n) with
  | some i => (i : Int)
  | none => -1
theorem eqN_t {a b : Nm} : eqN a b = true ↔ a = b := decide_eq_true_iff
theorem eqN_f {a b : Nm} : eqN a b = false ↔ ¬ a = b := decide_eq_false_iff_not
/-- No item ahead of k is of that name. -/
def NoneTo (l : List Im) (n : Nm) (k : Nat) : Prop := ∀ j (h : j < l.length), j < k → eqN l[j].i n = false
theorem noneTo_zero (l : List Im) (n : Nm) : NoneTo l n 0 := fun _ _ h => absurd h (Nat.not_lt_zero _)
theorem noneTo_step {l : List Im} {n : Nm} {k : Nat} (h : NoneTo l n k) (hk : k < l.length) (he : eqN l[k].i n = false) : NoneTo l n (k + 1) := fun j hj hlt => by
  by_cases e : j = k
  · subst e; exact he
  · exact h j hj (by omega)
theorem at_yes {l : List Im} {n : Nm} {k : Nat} (h : NoneTo l n k) (hk : k < l.length) (he : eqN l[k].i n = true) : atOf l n = (k : Int) := by
  have : l.findIdx? (fun x => eqN x.i n) = some k := by
    rw [List.findIdx?_eq_some_iff_getElem]
    exact ⟨hk, he, fun j hj => by simp [h j (by omega) hj]⟩
  unfold atOf
  rw [this]
theorem at_no {l : List Im} {n : Nm} (h : NoneTo l n l.length) : atOf l n = -1 := by
  have : l.findIdx? (fun x => eqN x.i n) = none := by
    rw [List.findIdx?_eq_none_iff]
    intro x hx
    obtain ⟨j, hj, rfl⟩ := List.getElem_of_mem hx
    exact h j hj hj
  unfold atOf
  rw [this]
theorem at_cases (l : List Im) (n : Nm) : (∃ k : Nat, ∃ h : k < l.length, atOf l n = (k : Int) ∧ l[k].i = n ∧ NoneTo l n k) ∨ (atOf l n = -1 ∧ NoneTo l n l.length) := by
  cases hf : l.findIdx? (fun x => eqN x.i n) with
  | none =>
    right
    rw [List.findIdx?_eq_none_iff] at hf
    have hn : NoneTo l n l.length := fun j hj _ => hf _ (List.getElem_mem hj)
    exact ⟨at_no hn, hn⟩
  | some k =>
    left
    obtain ⟨hk, he, hj⟩ := List.findIdx?_eq_some_iff_getElem.1 hf
    have hn : NoneTo l n k := fun j hjl hjk => by have := hj j hjk; simpa using this
    exact ⟨k, hk, at_yes hn hk he, eqN_t.1 he, hn⟩
theorem at_bd (l : List Im) (n : Nm) : -1 ≤ atOf l n ∧ atOf l n < l.length ∨ atOf l n = -1 := by
  rcases at_cases l n with ⟨k, h, e, _⟩ | ⟨e, _⟩
  · left; omega
  · right; exact e
theorem at_lo (l : List Im) (n : Nm) : -1 ≤ atOf l n := by rcases at_bd l n with h | h <;> omega
theorem at_hi (l : List Im) (n : Nm) : atOf l n ≤ l.length := by rcases at_bd l n with h | h <;> omega

/-- How many items there are of a client. -/
def nextOf (l : List Im) (c : Int) : Nat := l.countP fun x => decide (x.i.c = c)
theorem next_le (l : List Im) (c : Int) : nextOf l c ≤ l.length := List.countP_le_length
theorem next_yes {l : List Im} {c : Int} {k : Nat} (hk : k < l.length) (h : l[k].i.c = c) : nextOf (l.take (k + 1)) c = nextOf (l.take k) c + 1 := by
  unfold nextOf
  rw [List.take_succ_eq_append_getElem hk, List.countP_append]
  simp [h]
theorem next_not {l : List Im} {c : Int} {k : Nat} (hk : k < l.length) (h : ¬ l[k].i.c = c) : nextOf (l.take (k + 1)) c = nextOf (l.take k) c := by
  unfold nextOf
  rw [List.take_succ_eq_append_getElem hk, List.countP_append]
  simp [h]

def leftOf (l : List Im) (n : Nm) : Int := if n = no then -1 else atOf l n
def rightOf (l : List Im) (n : Nm) : Int := if n = no then l.length else atOf l n
theorem left_no {l : List Im} {n : Nm} (h : n = no) : leftOf l n = -1 := if_pos h
theorem left_id {l : List Im} {n : Nm} (h : ¬ n = no) : leftOf l n = atOf l n := if_neg h
theorem right_no {l : List Im} {n : Nm} (h : n = no) : rightOf l n = l.length := if_pos h
theorem right_id {l : List Im} {n : Nm} (h : ¬ n = no) : rightOf l n = atOf l n := if_neg h
theorem left_lo (l : List Im) (n : Nm) : -1 ≤ leftOf l n := by unfold leftOf; split <;> first | omega | exact at_lo _ _
theorem left_hi (l : List Im) (n : Nm) : leftOf l n ≤ l.length := by unfold leftOf; split <;> first | omega | exact at_hi _ _
theorem right_lo (l : List Im) (n : Nm) : -1 ≤ rightOf l n := by unfold rightOf; split <;> first | omega | exact at_lo _ _
theorem right_hi (l : List Im) (n : Nm) : rightOf l n ≤ l.length := by unfold rightOf; split <;> first | omega | exact at_hi _ _

/-- An item can be put in. -/
def ReadyP (l : List Im) (x : Im) : Prop := x.i.k = nextOf l x.i.c ∧ ¬ (leftOf l x.l < 0 ∧ ¬ x.l = no) ∧ ¬ rightOf l x.r < 0 ∧ leftOf l x.l < rightOf l x.r
instance (l : List Im) (x : Im) : Decidable (ReadyP l x) := by unfold ReadyP; infer_instance
def readyB (l : List Im) (x : Im) : Bool := decide (ReadyP l x)
theorem readyB_iff (l : List Im) (x : Im) : readyB l x = true ↔ ReadyP l x := decide_eq_true_iff
/-- The item at place i may stand so. -/
def StandP (l : List Im) (i : Nat) (x : Im) : Prop := ItemP x ∧ x.i.k < nextOf l x.i.c ∧ atOf l x.i = i ∧ leftOf l x.l < i ∧ ¬ (leftOf l x.l < 0 ∧ ¬ x.l = no) ∧ i < rightOf l x.r
instance (l : List Im) (i : Nat) (x : Im) : Decidable (StandP l i x) := by unfold StandP; infer_instance
def standB (l : List Im) (i : Nat) (x : Im) : Bool := decide (StandP l i x)
theorem standB_iff (l : List Im) (i : Nat) (x : Im) : standB l i x = true ↔ StandP l i x := decide_eq_true_iff
def ItemsTo (l : List Im) (k : Nat) : Prop := ∀ i (h : i < l.length), i < k → StandP l i l[i]
def ItemsP (l : List Im) : Prop := l.length ≤ 60 ∧ ItemsTo l l.length
theorem itemsTo_zero (l : List Im) : ItemsTo l 0 := fun _ _ h => absurd h (Nat.not_lt_zero _)
theorem itemsTo_step {l : List Im} {k : Nat} (h : ItemsTo l k) (hk : k < l.length) (he : StandP l k l[k]) : ItemsTo l (k + 1) := fun j hj hlt => by
  by_cases e : j = k
  · subst e; exact he
  · exact h j hj (by omega)
open Classical in
noncomputable def itemsB (l : List Im) : Bool := decide (ItemsP l)
open Classical in
theorem itemsB_iff (l : List Im) : itemsB l = true ↔ ItemsP l := decide_eq_true_iff

/-- Ahead by client, then clock. -/
def LessP (a b : Nm) : Prop := a.c < b.c ∨ (a.c = b.c ∧ a.k < b.k)
instance (a b : Nm) : Decidable (LessP a b) := by unfold LessP; infer_instance
def lessB (a b : Nm) : Bool := decide (LessP a b)
theorem lessB_iff (a b : Nm) : lessB a b = true ↔ LessP a b := decide_eq_true_iff

def WaitP (X P : List Im) (i : Nat) (x : Im) : Prop := ItemP x ∧ (∀ j, i = j + 1 → ∀ h : j < P.length, LessP P[j].i x.i) ∧ ¬ 0 ≤ atOf X x.i ∧ ¬ ReadyP X x
def WaitTo (X P : List Im) (k : Nat) : Prop := ∀ i (h : i < P.length), i < k → WaitP X P i P[i]
theorem waitTo_zero (X P : List Im) : WaitTo X P 0 := fun _ _ h => absurd h (Nat.not_lt_zero _)
theorem waitTo_step {X P : List Im} {k : Nat} (h : WaitTo X P k) (hk : k < P.length) (he : WaitP X P k P[k]) : WaitTo X P (k + 1) := fun j hj hlt => by
  by_cases e : j = k
  · subst e; exact he
  · exact h j hj (by omega)
def HoleP (X : List Im) (H : List Nm) (i : Nat) (n : Nm) : Prop := IdP n ∧ (∀ j, i = j + 1 → ∀ h : j < H.length, LessP H[j] n) ∧ ¬ 0 ≤ atOf X n
def HolesTo (X : List Im) (H : List Nm) (k : Nat) : Prop := ∀ i (h : i < H.length), i < k → HoleP X H i H[i]
theorem holesTo_zero (X : List Im) (H : List Nm) : HolesTo X H 0 := fun _ _ h => absurd h (Nat.not_lt_zero _)
theorem holesTo_step {X : List Im} {H : List Nm} {k : Nat} (h : HolesTo X H k) (hk : k < H.length) (he : HoleP X H k H[k]) : HolesTo X H (k + 1) := fun j hj hlt => by
  by_cases e : j = k
  · subst e; exact he
  · exact h j hj (by omega)
/-- A right doc. -/
def DocP (d : Dc) : Prop := ItemsP d.X ∧ d.P.length ≤ 20 ∧ d.H.length ≤ 20 ∧ WaitTo d.X d.P d.P.length ∧ HolesTo d.X d.H d.H.length
open Classical in
noncomputable def docB (d : Dc) : Bool := decide (DocP d)
open Classical in
theorem docB_iff (d : Dc) : docB d = true ↔ DocP d := decide_eq_true_iff
theorem docB_yes {d : Dc} (h : DocP d) : docB d = true := (docB_iff d).2 h
theorem docB_no {d : Dc} (h : ¬ DocP d) : docB d = false := by
  cases e : docB d with
  | false => rfl
  | true => exact absurd ((docB_iff d).1 e) h
theorem itemsB_yes {l : List Im} (h : ItemsP l) : itemsB l = true := (itemsB_iff l).2 h
theorem itemsB_no {l : List Im} (h : ¬ ItemsP l) : itemsB l = false := by
  cases e : itemsB l with
  | false => rfl
  | true => exact absurd ((itemsB_iff l).1 e) h

end Go.Proofs.Ytghiipoeedfkhaa
