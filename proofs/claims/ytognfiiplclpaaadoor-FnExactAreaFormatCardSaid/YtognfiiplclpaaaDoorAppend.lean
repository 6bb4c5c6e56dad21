/-
  append of a slice that reads as a list (nil or not) onto a row of the call's own: its run, and as a step of a region.
-/
import Derived.Test.YtognfiiplclpaaaDoorMem
import Derived.Maps.AppendAt
import Derived.OwnWalk
import Derived.Deep.RegionLaw
namespace Go.Proofs.YtognfiiplclpaaaDoor
open Go.RowKit
variable {P : Program} {α : Type}

/-- All that is asked of the types of a slice. -/
structure SlType (P : Program) (T E : TypeId) (k : Nat) (bytes : Nat) : Prop where
  under : P.underlying T = some (.slice E)
  info : ∃ (i : TypeInfo) (z : Value), P.info? E = some i ∧ i.zero = some z ∧ i.size = k ∧ i.bytes = bytes ∧ z.cells.size = k
  pos : 0 < k

/-- What an append leaves. -/
def Grew (w : World) (base : Nat) (E : TypeId) (k : Nat) (v : Value) (n : Nat) (xs : List Value) (v' : Value) (w' : World) : Prop :=
  w'.ownsRow base E k v' n xs ∧ w.grownBy w' v.ownBlock ∧ (v'.ownBlock = v.ownBlock ∨ v'.ownBlock = some w.heap.size)

theorem run_append_sl {T E : TypeId} {k bytes : Nat} (hT : SlType P T E k bytes) (ty : TypeId) (w : World) (base : Nat) (v : Value) (n : Nat) (xs : List Value) (hown : w.ownsRow base E k v n xs)
    (B : Nat) (enc : α → List Value) (s : Value) (l : List α) (hs : Sl w B k enc s l) (hk : ∀ x, (enc x).length = k) (h1 : ∀ x, ∀ u ∈ enc x, u.oneCell' = true) (hn : n + l.length ≤ maxLen) (hb : (n + l.length) * bytes ≤ 140737488355328) (hbase : base ≤ w.heap.size) :
    ∃ v' w', (Builtin.append_ #[T, T] ty #[v, s]).run P w = .ok v' w' ∧ Grew w base E k v (n + l.length) (xs ++ l.flatMap enc) v' w' := by
  obtain ⟨i, z, hi, hz, hsz, hby, hzs⟩ := hT.info
  obtain ⟨A, c, rfl, hA⟩ := hs
  have hl := flat_len k enc hk l
  have hone : ∀ u ∈ l.flatMap enc, u.oneCell' = true := fun u hu => by
    obtain ⟨x, _, hx⟩ := List.mem_flatMap.1 hu
    exact h1 x u hx
  rcases A with _ | ad
  · have h0 : l = [] := by
      rcases Nat.eq_zero_or_pos l.length with h0 | h0
      · exact List.length_eq_zero_iff.1 h0
      · obtain ⟨_, h, _⟩ := hA h0
        cases h
    subst h0
    refine ⟨v, w, ?_, by simpa using hown, grown_refl _ _, .inl rfl⟩
    rcases hown.2 with ⟨rfl, rfl⟩ | ⟨g, cap, cur, rfl, _, _, hnc, _⟩
    · simp [Builtin.append_, run_underlying hT.under, sizeOf, typeInfo, hi, Builtin.lenOf, Builtin.firstCells]
    · simp [Builtin.append_, run_underlying hT.under, sizeOf, typeInfo, hi, Builtin.lenOf, Builtin.firstCells, hnc, storeCells]
  · have hcells : ∀ j u, (l.flatMap enc)[j]? = some u → w.cell? (ad.add j) = some u := by
      intro j u hu
      have hj : j < l.length * k := by rw [← hl]; exact (List.getElem?_eq_some_iff.1 hu).1
      have hpos := hT.pos
      have hln : 0 < l.length := by
        rcases Nat.eq_zero_or_pos l.length with h0 | h0
        · rw [h0] at hj; omega
        · exact h0
      obtain ⟨ad', h, _, hc⟩ := hA hln
      simp only [Option.some.injEq] at h
      subst h
      have hdm : j / k * k + j % k = j := by rw [Nat.mul_comm]; exact Nat.div_add_mod j k
      have hq : j / k < l.length := (Nat.div_lt_iff_lt_mul hpos).2 hj
      have hr : j % k < k := Nat.mod_lt _ hpos
      have hx : l[j / k]? = some (l[j / k]) := List.getElem?_eq_getElem hq
      have hy : (enc l[j / k])[j % k]? = some ((enc l[j / k])[j % k]'(by rw [hk]; exact hr)) := List.getElem?_eq_getElem _
      have hf := flat_at k enc hk l _ _ _ _ hx hy
      rw [hdm, hu] at hf
      rw [hf, ← hc _ _ hx _ _ hy, Go.Deep.add_add, hdm]
    obtain ⟨v', w', hrun, h2, h3, _, h5⟩ := run_append_own_at (P := P) w base T ty E i z k bytes hT.under hi hz hsz hby hzs hT.pos v n xs hown ad l.length c (l.flatMap enc) hl hcells hone hn hb hbase
    exact ⟨v', w', hrun, h2, h3, h5⟩

theorem wp_append_sl {T E : TypeId} {k bytes : Nat} (hT : SlType P T E k bytes) (w : World) {o : Oper} {a : Act} {K : Act → World → Prop} {Q : Exit → Act → World → Prop} (p q : Operand)
    (ho : o.op = .call { callee := .builtin .append, args := #[p, q], argTypes := #[T, T] })
    (base : Nat) (v : Value) (n : Nat) (xs : List Value) (hv : a.eval p = v) (hown : w.ownsRow base E k v n xs)
    (B : Nat) (enc : α → List Value) (s : Value) (l : List α) (hq : a.eval q = s) (hs : Sl w B k enc s l) (hk : ∀ x, (enc x).length = k) (h1 : ∀ x, ∀ u ∈ enc x, u.oneCell' = true) (hn : n + l.length ≤ maxLen) (hb : (n + l.length) * bytes ≤ 140737488355328) (hbase : base ≤ w.heap.size)
    (h : ∀ v' w', Grew w base E k v (n + l.length) (xs ++ l.flatMap enc) v' w' → K (a.put o.dst v') w') : o.wp P a w K Q := by
  obtain ⟨v', w', hrun, hg⟩ := run_append_sl hT o.type w base v n xs hown B enc s l hs hk h1 hn hb hbase
  unfold Oper.wp execOp
  simp only [ho, resolve, invoke, builtin, Sem.run_bind, Sem.run_pure, Result.andThen_ok, List.map_toArray, List.map_cons, List.map_nil, hv, hq, hrun]
  exact h v' w' hg

/-- In a plain region. -/
theorem list_append_sl {T E : TypeId} {k bytes : Nat} (hT : SlType P T E k bytes) (w : World) {ops : Array Oper} {rest : List Oper} {o : Oper} {a : Act} {Q : Exit → Act → World → Prop} (hgd : o.guard = none) (p q : Operand)
    (ho : o.op = .call { callee := .builtin .append, args := #[p, q], argTypes := #[T, T] })
    (base : Nat) (v : Value) (n : Nat) (xs : List Value) (hv : a.eval p = v) (hown : w.ownsRow base E k v n xs)
    (B : Nat) (enc : α → List Value) (s : Value) (l : List α) (hq : a.eval q = s) (hs : Sl w B k enc s l) (hk : ∀ x, (enc x).length = k) (h1 : ∀ x, ∀ u ∈ enc x, u.oneCell' = true) (hn : n + l.length ≤ maxLen) (hb : (n + l.length) * bytes ≤ 140737488355328) (hbase : base ≤ w.heap.size)
    (h : ∀ v' w', Grew w base E k v (n + l.length) (xs ++ l.flatMap enc) v' w' → wpList P ops Q rest (a.put o.dst v') w') : wpList P ops Q (o :: rest) a w :=
  wpList_plain hgd fun _ hK => wp_append_sl hT w p q ho base v n xs hv hown B enc s l hq hs hk h1 hn hb hbase fun v' w' h2 => hK _ _ (h v' w' h2)

/-- In a region that draws its order. -/
theorem step_append_sl {T E : TypeId} {k bytes : Nat} (hT : SlType P T E k bytes) (w : World) {ops : Array Oper} {o : Oper} {a : Act} {K : Act → World → Prop} {Q : Exit → Act → World → Prop} {X : Prop} (hgd : o.guard = none) (p q : Operand)
    (ho : o.op = .call { callee := .builtin .append, args := #[p, q], argTypes := #[T, T] })
    (base : Nat) (v : Value) (n : Nat) (xs : List Value) (hv : a.eval p = v) (hown : w.ownsRow base E k v n xs)
    (B : Nat) (enc : α → List Value) (s : Value) (l : List α) (hq : a.eval q = s) (hs : Sl w B k enc s l) (hk : ∀ x, (enc x).length = k) (h1 : ∀ x, ∀ u ∈ enc x, u.oneCell' = true) (hn : n + l.length ≤ maxLen) (hb : (n + l.length) * bytes ≤ 140737488355328) (hbase : base ≤ w.heap.size)
    (h : ∀ v' w', Grew w base E k v (n + l.length) (xs ++ l.flatMap enc) v' w' → K (a.put o.dst v') w') : if Region.wanted o (yielded ops a.tmps) = true then Oper.wp P o a w K Q else X := by
  have hw : Region.wanted o (yielded ops a.tmps) = true := by simp [Region.wanted, hgd]
  rw [if_pos hw]
  exact wp_append_sl hT w p q ho base v n xs hv hown B enc s l hq hs hk h1 hn hb hbase h

theorem Grew.form {w : World} {base : Nat} {E : TypeId} {k : Nat} {v : Value} {n : Nat} {xs : List Value} {v' : Value} {w' : World} (h : Grew w base E k v n xs v' w') : ∃ A c, v' = .slice A n c := by
  rcases h.1.2 with ⟨rfl, h0⟩ | ⟨g, cap, cur, rfl, _⟩
  · exact ⟨none, 0, by rw [h0]⟩
  · exact ⟨_, _, rfl⟩
theorem rows_apart {w : World} {b b' : Nat} {E E' : TypeId} {k k' : Nat} {v v' : Value} {n n' : Nat} {xs xs' : List Value} (h : w.ownsRow b E k v n xs) (h' : w.ownsRow b' E' k' v' n' xs') (he : E ≠ E') : v.ownBlock = none ∨ v.ownBlock ≠ v'.ownBlock := by
  rcases h.2 with ⟨rfl, _⟩ | ⟨g, cap, cur, rfl, _, hg, _⟩
  · exact .inl rfl
  · refine .inr ?_
    rcases h'.2 with ⟨rfl, _⟩ | ⟨g', cap', cur', rfl, _, hg', _⟩
    · simp [Value.ownBlock]
    · intro hh
      simp [Value.ownBlock] at hh
      subst hh
      rw [hg] at hg'
      injection hg' with hg'
      injection hg' with _ ht
      exact he ht
/-- A row of another element type stays. -/
theorem Grew.other {w : World} {base : Nat} {E : TypeId} {k : Nat} {v : Value} {n : Nat} {xs : List Value} {v' : Value} {w' : World} (h : Grew w base E k v n xs v' w') {b2 : Nat} {E2 : TypeId} {k2 : Nat} {v2 : Value} {n2 : Nat} {xs2 : List Value} (h2 : w.ownsRow b2 E2 k2 v2 n2 xs2)
    {b1 k1 n1 : Nat} {xs1 : List Value} (h1 : w.ownsRow b1 E k1 v n1 xs1) (he : E2 ≠ E) : w'.ownsRow b2 E2 k2 v2 n2 xs2 := World.ownsRow.kept h2 h.2.1 (rows_apart h2 h1 he)
theorem Grew.below {w : World} {base : Nat} {E : TypeId} {k : Nat} {v : Value} {n : Nat} {xs : List Value} {v' : Value} {w' : World} (h : Grew w base E k v n xs v' w') {B : Nat} (hv : ∀ g, v.ownBlock = some g → B ≤ g) (hB : B ≤ w.heap.size) : Below B w w' :=
  ⟨h.2.1.os, h.2.1.tape, h.2.1.output, h.2.1.size, fun j hj => h.2.1.block j (by omega) (fun e => by have := hv j e.symm; omega)⟩
/-- An empty row of the call's own. -/
theorem own_empty {w : World} {g : Nat} {E : TypeId} (h : w.heap[g]? = some (.cells #[] E (0, 0))) (base k : Nat) (hb : base ≤ g) : w.ownsRow base E k (.slice (some ⟨g, 0, none⟩) 0 0) 0 [] :=
  ⟨by simp, .inr ⟨g, 0, #[], rfl, hb, h, Nat.le_refl _, by unfold maxLen; omega, by simp, by simp⟩⟩
theorem heap_at {W : World} {o : Obj} {n : Nat} (h : W.heap.size = n) : (W.alloc o).heap[n]? = some o := by
  subst h
  exact heap_alloc_new _ _
theorem sl_type {T E : TypeId} {k bytes : Nat} {z : Value} (hT : P.underlying T = some (.slice E)) (hI : (P.info? E).map (fun i => (i.zero, i.size, i.bytes)) = some (some z, k, bytes)) (hz : z.cells.size = k) (hk : 0 < k) : SlType P T E k bytes := by
  obtain ⟨i0, hi, hz0, hz1, hz2⟩ := info_parts hI
  exact ⟨hT, ⟨i0, z, hi, hz0, hz1, hz2, hz⟩, hk⟩

end Go.Proofs.YtognfiiplclpaaaDoor
