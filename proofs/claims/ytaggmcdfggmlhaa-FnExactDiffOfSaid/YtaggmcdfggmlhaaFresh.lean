/-
  append onto an empty row of the call's own that has no room: nothing that was there turns.
-/
import Derived.Test.YtaggmcdfggmlhaaProg
import Derived.Test.YtaggmcdfggmlhaaAid
import Derived.Test.YtaggmcdfggmlhaaDocM
import Derived.ArgAppend
namespace Go.Proofs.Ytaggmcdfggmlhaa
set_option linter.unusedSimpArgs false
set_option linter.unusedVariables false
open Go.RowKit
variable {P : Program} {α : Type}

/-- An empty slice without room: nil, or in a block of its own without cells. -/
def Bare (w : World) (base : Nat) (E : TypeId) (v : Value) : Prop := v = .slice none 0 0 ∨ ∃ g, v = .slice (some ⟨g, 0, none⟩) 0 0 ∧ base ≤ g ∧ w.heap[g]? = some (.cells #[] E (0, 0))
theorem Bare.lift {w w' : World} {base : Nat} {E : TypeId} {v : Value} (h : Bare w base E v) (hb : Below w.heap.size w w') : Bare w' base E v := by
  rcases h with h | ⟨g, h, hg, hh⟩
  · exact .inl h
  · exact .inr ⟨g, h, hg, keep_blk hb hh⟩

theorem run_append_bare {T E : TypeId} {k bytes : Nat} (hT : SlType P T E k bytes) (ty : TypeId) (w : World) (base : Nat) (v : Value) (hv : Bare w base E v)
    (B : Nat) (enc : α → List Value) (s : Value) (l : List α) (hs : Sl w B k enc s l) (hk : ∀ x, (enc x).length = k) (h1 : ∀ x, ∀ u ∈ enc x, u.oneCell' = true) (hn : l.length ≤ maxLen) (hb : l.length * bytes ≤ 140737488355328) (hbase : base ≤ w.heap.size) :
    ∃ v' w', (Builtin.append_ #[T, T] ty #[v, s]).run P w = .ok v' w' ∧ Below w.heap.size w w' ∧ Ow w' base E k enc v' l := by
  rcases hv with rfl | ⟨g, rfl, hg, hh⟩
  · obtain ⟨v', w', hr, h⟩ := run_append_sl hT ty w base (.slice none 0 0) 0 [] (World.ownsRow_nil _ _ _ _) B enc s l hs hk h1 (by omega) (by rw [Nat.zero_add]; exact hb) hbase
    refine ⟨v', w', hr, h.below (fun g hg => by cases hg) (Nat.le_refl _), ?_⟩
    have := h.1
    rw [Nat.zero_add, List.nil_append] at this
    exact this
  · rcases Nat.eq_zero_or_pos l.length with h0 | h0
    · obtain rfl : l = [] := List.length_eq_zero_iff.1 h0
      obtain ⟨v', w', hr, h⟩ := run_append_sl hT ty w base (.slice (some ⟨g, 0, none⟩) 0 0) 0 [] (own_empty hh base k hg) B enc s [] hs hk h1 (by simp [maxLen]) (by simp) hbase
      have hr2 : (Builtin.append_ #[T, T] ty #[.slice (some ⟨g, 0, none⟩) 0 0, s]).run P w = .ok (.slice (some ⟨g, 0, none⟩) 0 0) w := by
        obtain ⟨i, z, hi, hz, hsz, hby, hzs⟩ := hT.info
        obtain ⟨A, c, rfl, _⟩ := hs
        rcases A with _ | ad <;>
        simp [Builtin.append_, run_underlying hT.under, sizeOf, typeInfo, hi, Builtin.lenOf, Builtin.firstCells, storeCells, loadCells, loadCellsFrom]
      exact ⟨_, _, hr2, Below.refl _ _, own_empty hh base k hg⟩
    · obtain ⟨i, z, hi, hz, hsz, hby, hzs⟩ := hT.info
      obtain ⟨A, c, rfl, hA⟩ := hs
      obtain ⟨ad, rfl, hbk, hc⟩ := hA h0
      have hl := flat_len k enc hk l
      have hone : ∀ u ∈ l.flatMap enc, u.oneCell' = true := fun u hu => by
        obtain ⟨x, _, hx⟩ := List.mem_flatMap.1 hu
        exact h1 x u hx
      have hcells : ∀ j u, (l.flatMap enc)[j]? = some u → w.cell? (ad.add j) = some u := by
        intro j u hu
        have hj : j < l.length * k := by rw [← hl]; exact (List.getElem?_eq_some_iff.1 hu).1
        have hpos := hT.pos
        have hdm : j / k * k + j % k = j := by rw [Nat.mul_comm]; exact Nat.div_add_mod j k
        have hq : j / k < l.length := (Nat.div_lt_iff_lt_mul hpos).2 hj
        have hr : j % k < k := Nat.mod_lt _ hpos
        have hx : l[j / k]? = some (l[j / k]) := List.getElem?_eq_getElem hq
        have hy : (enc l[j / k])[j % k]? = some ((enc l[j / k])[j % k]'(by rw [hk]; exact hr)) := List.getElem?_eq_getElem _
        have hf := flat_at k enc hk l _ _ _ _ hx hy
        rw [hdm, hu] at hf
        rw [hf, ← hc _ _ hx _ _ hy, Go.Deep.add_add, hdm]
      obtain ⟨v', w', hr, ho, hgr⟩ := run_append_arg_grows (P := P) w T ty E i z k bytes hT.under hi hz hsz hby hzs hT.pos ⟨g, 0, none⟩ 0 0 [] (by simp) (fun j u hj => by simp at hj) ad l.length c (l.flatMap enc) hl hcells (by omega) (by omega) (by rw [Nat.zero_add]; exact hb)
      refine ⟨v', w', hr, ⟨hgr.os, hgr.tape, hgr.output, hgr.size, fun j hj => hgr.block j hj (by simp)⟩, ?_⟩
      have : Ow w' w.heap.size E k enc v' l := by
        unfold Ow
        rw [Nat.zero_add, List.nil_append] at ho
        exact ho
      exact this.base hbase

/-- The operation itself. -/
theorem exec_append {T : TypeId} {o : Oper} {a : Act} {w w' : World} {p q : Operand} {v s v' : Value} (ho : o.op = .call { callee := .builtin .append, args := #[p, q], argTypes := #[T, T] })
    (hp : a.eval p = v) (hq : a.eval q = s) (h : (Builtin.append_ #[T, T] o.type #[v, s]).run P w = .ok v' w') : (execOp a.eval o).run P w = .ok (.value v') w' := by
  unfold execOp
  simp only [ho, resolve, invoke, builtin, Sem.run_bind, Sem.run_pure, Result.andThen_ok, List.map_toArray, List.map_cons, List.map_nil, hp, hq, h]

end Go.Proofs.Ytaggmcdfggmlhaa
