/-
  How lists lie in memory: a slice that reads as a list (Sl), one that the call owns (library: ownsRow), and worlds of which only some blocks have changed (Within).
-/
import Derived.Test.YtognfiiplclpaaaDoorLaws
import Derived.Below
import Derived.Laws.OwnMore
import Derived.Deep.Slices
import Derived.Deep.Draws
namespace Go.Proofs.YtognfiiplclpaaaDoor
open Go.RowKit

/-! Only blocks from lo on and below hi, and new ones, have changed. -/
structure Within (lo hi : Nat) (w w' : World) : Prop where
  os : w'.os = w.os
  tape : w'.tape = w.tape
  output : w'.output = w.output
  size : w.heap.size ≤ w'.heap.size
  block : ∀ j, j < w.heap.size → (j < lo ∨ hi ≤ j) → w'.heap[j]? = w.heap[j]?

theorem Within.refl (lo hi : Nat) (w : World) : Within lo hi w w := ⟨rfl, rfl, rfl, Nat.le_refl _, fun _ _ _ => rfl⟩
theorem Within.trans {lo hi : Nat} {a b c : World} (h : Within lo hi a b) (k : Within lo hi b c) : Within lo hi a c :=
  ⟨k.os.trans h.os, k.tape.trans h.tape, k.output.trans h.output, Nat.le_trans h.size k.size, fun i hi hr => (k.block i (Nat.lt_of_lt_of_le hi h.size) hr).trans (h.block i hi hr)⟩
theorem Within.wide {lo hi lo' hi' : Nat} {a b : World} (h : Within lo hi a b) (h1 : lo' ≤ lo) (h2 : hi ≤ hi') : Within lo' hi' a b :=
  ⟨h.os, h.tape, h.output, h.size, fun i hi hr => h.block i hi (by omega)⟩
theorem Within.of_below {w w' : World} (h : Below w.heap.size w w') (lo hi : Nat) : Within lo hi w w' := ⟨h.os, h.tape, h.output, h.size, fun j hj _ => h.block j hj⟩
theorem Within.below {lo hi B : Nat} {w w' : World} (h : Within lo hi w w') (hB : B ≤ lo) (hz : B ≤ w.heap.size) : Below B w w' := ⟨h.os, h.tape, h.output, h.size, fun j hj => h.block j (by omega) (by omega)⟩
theorem Within.of_grown {w w' : World} {row : Option Nat} {lo hi : Nat} (h : w.grownBy w' row) (hr : ∀ g, row = some g → lo ≤ g ∧ g < hi) : Within lo hi w w' :=
  ⟨h.os, h.tape, h.output, h.size, fun j hj hn => h.block j hj (fun e => by have := hr j e.symm; omega)⟩
theorem below_drewN' {B : Nat} {a w : World} (h : Below B a w) (n : Nat) : Below B a (w.drewN n) := ⟨h.os, h.tape, h.output, h.size, h.block⟩
theorem Below.all {w w' : World} {B : Nat} (h : Below w.heap.size w w') (hB : B ≤ w.heap.size) : Below B w w' := h.mono hB

/-! A slice that reads as a list. -/
variable {α : Type}

/-- The slice v reads as the list l, each element in k cells as enc says; its cells lie below block B. -/
def Sl (w : World) (B k : Nat) (enc : α → List Value) (v : Value) (l : List α) : Prop :=
  ∃ A c, v = .slice A l.length c ∧ (0 < l.length → ∃ ad : Addr, A = some ad ∧ ad.block < B ∧ ∀ i x, l[i]? = some x → ∀ j u, (enc x)[j]? = some u → w.cell? ((ad.add (i * k)).add j) = some u)

theorem add_block (a : Addr) (n : Nat) : (a.add n).block = a.block := by unfold Addr.add; split <;> rfl

theorem Sl.keep {w w' : World} {B k : Nat} {enc : α → List Value} {v : Value} {l : List α} (h : Sl w B k enc v l) (hk : ∀ p : Addr, p.block < B → w'.cell? p = w.cell? p) : Sl w' B k enc v l := by
  obtain ⟨A, c, rfl, h⟩ := h
  refine ⟨A, c, rfl, fun hn => ?_⟩
  obtain ⟨ad, rfl, hb, hc⟩ := h hn
  exact ⟨ad, rfl, hb, fun i x hx j u hu => (hk _ (by rw [add_block, add_block]; exact hb)).trans (hc i x hx j u hu)⟩
theorem Sl.more {w : World} {B B' k : Nat} {enc : α → List Value} {v : Value} {l : List α} (h : Sl w B k enc v l) (hB : B ≤ B') : Sl w B' k enc v l := by
  obtain ⟨A, c, rfl, h⟩ := h
  refine ⟨A, c, rfl, fun hn => ?_⟩
  obtain ⟨ad, rfl, hb, hc⟩ := h hn
  exact ⟨ad, rfl, by omega, hc⟩
theorem Sl.below {w w' : World} {B k : Nat} {enc : α → List Value} {v : Value} {l : List α} (h : Sl w B k enc v l) (hb : Below B w w') : Sl w' B k enc v l := h.keep fun _ hp => hb.cell hp
theorem Sl.nil_ (w : World) (B k : Nat) (enc : α → List Value) (c : Nat) (A : Option Addr) : Sl w B k enc (.slice A 0 c) ([] : List α) := ⟨A, c, rfl, fun h => absurd h (by simp)⟩

/-- Element by element: one cell each. -/
theorem Sl.one {w : World} {B : Nat} {f : α → Value} {v : Value} {l : List α} (h : Sl w B 1 (fun x => [f x]) v l) (i : Nat) (hi : i < l.length) :
    ∃ ad c, v = .slice (some ad) l.length c ∧ ad.block < B ∧ w.cell? (ad.add i) = some (f l[i]) := by
  obtain ⟨A, c, rfl, h⟩ := h
  obtain ⟨ad, rfl, hb, hc⟩ := h (by omega)
  have h0 := hc i l[i] (List.getElem?_eq_getElem hi) 0 _ rfl
  exact ⟨ad, c, rfl, hb, by simpa [Addr.add] using h0⟩
/-- Two cells each. -/
theorem Sl.two {w : World} {B : Nat} {f g : α → Value} {v : Value} {l : List α} (h : Sl w B 2 (fun x => [f x, g x]) v l) (i : Nat) (hi : i < l.length) :
    ∃ ad c, v = .slice (some ad) l.length c ∧ ad.block < B ∧ w.cell? (ad.add (i * 2)) = some (f l[i]) ∧ w.cell? ⟨(ad.add (i * 2)).block, (ad.add (i * 2)).off + 1, none⟩ = some (g l[i]) := by
  obtain ⟨A, c, rfl, h⟩ := h
  obtain ⟨ad, rfl, hb, hc⟩ := h (by omega)
  have h0 := hc i l[i] (List.getElem?_eq_getElem hi) 0 _ rfl
  have h1 := hc i l[i] (List.getElem?_eq_getElem hi) 1 _ rfl
  exact ⟨ad, c, rfl, hb, by simpa [Addr.add] using h0, h1⟩
theorem Sl.form {w : World} {B k : Nat} {enc : α → List Value} {v : Value} {l : List α} (h : Sl w B k enc v l) : ∃ A c, v = .slice A l.length c := by
  obtain ⟨A, c, rfl, _⟩ := h
  exact ⟨A, c, rfl⟩

theorem flat_at (k : Nat) (enc : α → List Value) (hk : ∀ x, (enc x).length = k) : ∀ (l : List α) (i : Nat) (x : α) (j : Nat) (u : Value), l[i]? = some x → (enc x)[j]? = some u → (l.flatMap enc)[i * k + j]? = some u := by
  intro l
  induction l with
  | nil => intro i x j u h; simp at h
  | cons y l ih =>
    intro i x j u hx hu
    have hj : j < k := by rw [← hk x]; exact (List.getElem?_eq_some_iff.1 hu).1
    cases i with
    | zero =>
      simp only [List.getElem?_cons_zero, Option.some.injEq] at hx
      subst hx
      rw [List.flatMap_cons, Nat.zero_mul, Nat.zero_add, List.getElem?_append_left (by rw [hk]; exact hj)]
      exact hu
    | succ i =>
      simp only [List.getElem?_cons_succ] at hx
      rw [List.flatMap_cons, List.getElem?_append_right (by rw [hk, Nat.add_mul]; omega), hk]
      have e : (i + 1) * k + j - k = i * k + j := by rw [Nat.add_mul]; omega
      rw [e]
      exact ih i x j u hx hu
theorem flat_len (k : Nat) (enc : α → List Value) (hk : ∀ x, (enc x).length = k) (l : List α) : (l.flatMap enc).length = l.length * k := by
  induction l with
  | nil => simp
  | cons y l ih => rw [List.flatMap_cons, List.length_append, ih, hk, List.length_cons, Nat.add_mul]; omega

/-- A slice that the call owns: in a block from base on. -/
def Ow (w : World) (base : Nat) (e : TypeId) (k : Nat) (enc : α → List Value) (v : Value) (l : List α) : Prop := w.ownsRow base e k v l.length (l.flatMap enc)

theorem Ow.sl {w : World} {base : Nat} {e : TypeId} {k : Nat} {enc : α → List Value} {v : Value} {l : List α} (h : Ow w base e k enc v l) (hk : ∀ x, (enc x).length = k) : Sl w w.heap.size k enc v l := by
  have h' := h
  unfold Ow at h'
  rcases h'.2 with ⟨rfl, h0⟩ | ⟨g, cap, cur, rfl, _, hg, _⟩
  · obtain rfl : l = [] := List.length_eq_zero_iff.1 h0
    exact Sl.nil_ w _ k enc 0 none
  · refine ⟨_, cap, rfl, fun hn => ⟨_, rfl, block_lt hg, fun i x hx j u hu => ?_⟩⟩
    have := World.ownsRow.cells h' (g := g) rfl (i * k + j) u (flat_at k enc hk l i x j u hx hu)
    rw [Go.Deep.add_add]
    exact this
theorem Ow.kept {w w' : World} {base : Nat} {e : TypeId} {k : Nat} {enc : α → List Value} {v : Value} {l : List α} (h : Ow w base e k enc v l) {lo hi : Nat} (hg : Within lo hi w w') (hh : hi ≤ base ∨ (∀ g, v.ownBlock = some g → g < lo ∨ hi ≤ g)) : Ow w' base e k enc v l := by
  have hlt := World.ownsRow.lt h
  refine ⟨h.1, ?_⟩
  rcases h.2 with hn | ⟨g, cap, cur, rfl, hb, hgg, rest⟩
  · exact .inl hn
  · refine .inr ⟨g, cap, cur, rfl, hb, ?_, rest⟩
    rw [hg.block g (block_lt hgg) (by
      rcases hh with hh | hh
      · exact .inr (by omega)
      · exact hh g rfl)]
    exact hgg
theorem Ow.lift {w w' : World} {base : Nat} {e : TypeId} {k : Nat} {enc : α → List Value} {v : Value} {l : List α} (h : Ow w base e k enc v l) (hb : Below w.heap.size w w') : Ow w' base e k enc v l :=
  h.kept (Within.of_below hb 0 0) (.inl (Nat.zero_le _))
theorem Ow.base {w : World} {base base' : Nat} {e : TypeId} {k : Nat} {enc : α → List Value} {v : Value} {l : List α} (h : Ow w base e k enc v l) (hb : base' ≤ base) : Ow w base' e k enc v l := by
  refine ⟨h.1, ?_⟩
  rcases h.2 with hn | ⟨g, cap, cur, rfl, hb', rest⟩
  · exact .inl hn
  · exact .inr ⟨g, cap, cur, rfl, by omega, rest⟩
theorem Ow.form {w : World} {base : Nat} {e : TypeId} {k : Nat} {enc : α → List Value} {v : Value} {l : List α} (h : Ow w base e k enc v l) : ∃ A c, v = .slice A l.length c := by
  rcases h.2 with ⟨rfl, h0⟩ | ⟨g, cap, cur, rfl, _⟩
  · exact ⟨none, 0, by rw [h0]⟩
  · exact ⟨_, _, rfl⟩
theorem Ow.far {w : World} {base : Nat} {e : TypeId} {k : Nat} {enc : α → List Value} {v : Value} {l : List α} (h : Ow w base e k enc v l) {p : Addr} (hp : p.block < base) (u : Value) : Ow (w.setCell p u) base e k enc v l := ownsRow_setCell_below h hp u
theorem Ow.alloc {w : World} {base : Nat} {e : TypeId} {k : Nat} {enc : α → List Value} {v : Value} {l : List α} (h : Ow w base e k enc v l) (o : Obj) : Ow (w.alloc o) base e k enc v l := World.ownsRow.alloc h o
/-- Where a slice lies that the call owns. -/
theorem Ow.lies {w : World} {base : Nat} {e : TypeId} {k : Nat} {enc : α → List Value} {v : Value} {l : List α} (h : Ow w base e k enc v l) : ∀ g, v.ownBlock = some g → base ≤ g ∧ g < w.heap.size := World.ownsRow.lt h
/-- Rows of different element types lie in different blocks. -/
theorem Ow.apart {β : Type} {w : World} {base base' : Nat} {e e' : TypeId} {k k' : Nat} {enc : α → List Value} {enc' : β → List Value} {v v' : Value} {l : List α} {l' : List β} (h : Ow w base e k enc v l) (h' : Ow w base' e' k' enc' v' l') (he : e ≠ e') : v.ownBlock = none ∨ v.ownBlock ≠ v'.ownBlock := by
  rcases h.2 with ⟨rfl, _⟩ | ⟨g, cap, cur, rfl, _, hg, _⟩
  · exact .inl rfl
  · refine .inr ?_
    rcases h'.2 with ⟨rfl, _⟩ | ⟨g', cap', cur', rfl, _, hg', _⟩
    · simp [Value.ownBlock]
    · intro hh
      simp [Value.ownBlock] at hh
      subst hh
      rw [hg] at hg'
      injection hg' with hg'
      injection hg' with _ ht
      exact he ht

/-! Only one row has been written, and new blocks have come. -/
theorem grown_trans {w w1 w2 : World} {r : Option Nat} (h : w.grownBy w1 r) (k : w1.grownBy w2 r) : w.grownBy w2 r :=
  ⟨k.os.trans h.os, k.tape.trans h.tape, k.output.trans h.output, Nat.le_trans h.size k.size, fun j hj hr => (k.block j (Nat.lt_of_lt_of_le hj h.size) hr).trans (h.block j hj hr)⟩
theorem grown_refl (w : World) (r : Option Nat) : w.grownBy w r := ⟨rfl, rfl, rfl, Nat.le_refl _, fun _ _ _ => rfl⟩
theorem grown_below {w w' : World} (h : Below w.heap.size w w') (r : Option Nat) : w.grownBy w' r := ⟨h.os, h.tape, h.output, h.size, fun j hj _ => h.block j hj⟩
theorem grown_set (w : World) (g k : Nat) (v : Value) : w.grownBy (w.setCell ⟨g, k, none⟩ v) (some g) :=
  ⟨rfl, rfl, rfl, by simp [World.setCell], fun j _ hj => Below.heap_setCell _ _ _ _ (fun e => hj (by simp [e]))⟩
theorem own_lift {w w' : World} {base : Nat} {e : TypeId} {k : Nat} {v : Value} {n : Nat} {xs : List Value} (h : w.ownsRow base e k v n xs) (hb : Below w.heap.size w w') : w'.ownsRow base e k v n xs := by
  refine ⟨h.1, ?_⟩
  rcases h.2 with hn | ⟨g, cap, cur, rfl, hb', hgg, rest⟩
  · exact .inl hn
  · exact .inr ⟨g, cap, cur, rfl, hb', by rw [hb.block g (block_lt hgg)]; exact hgg, rest⟩
theorem own_form {w : World} {base : Nat} {e : TypeId} {k : Nat} {A : Option Addr} {n c : Nat} {xs : List Value} (h : w.ownsRow base e k (.slice A n c) n xs) (hn : 0 < n) : ∃ g, A = some ⟨g, 0, none⟩ ∧ base ≤ g ∧ g < w.heap.size := by
  rcases h.2 with ⟨_, h0⟩ | ⟨g, cap, cur, hv, hb', hgg, _⟩
  · omega
  · simp only [Value.slice.injEq, true_and] at hv
    exact ⟨g, hv.1, hb', block_lt hgg⟩
theorem own_cell {w : World} {base : Nat} {e : TypeId} {k : Nat} {g n c : Nat} {xs : List Value} (h : w.ownsRow base e k (.slice (some ⟨g, 0, none⟩) n c) n xs) (j : Nat) (hj : j < n * k) : ∃ u, w.cell? ⟨g, j, none⟩ = some u ∧ w.frozen? ⟨g, j, none⟩ = false := by
  refine ⟨xs[j]'(by rw [h.1]; exact hj), ?_, h.frozenAt j⟩
  rw [h.cellAt j hj, List.getElem?_eq_getElem]
theorem list_set_take (xs : List Value) (k : Nat) (ys : List Value) (u : Value) (hk : k < xs.length) (h : xs.take k = ys) : (xs.set k u).take (k + 1) = ys ++ [u] := by
  rw [List.take_succ_eq_append_getElem (by simpa using hk), List.take_set, List.set_eq_of_length_le (by rw [List.length_take]; omega), h]
  simp

end Go.Proofs.YtognfiiplclpaaaDoor
