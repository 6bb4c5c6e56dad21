/-
  A ledger of the draw of a disk: the box that holds it, the box of the result, what it owns, what has grown, the source.
-/
import Derived.Test.YtdllbnlimnahaaaDrawDM
import Derived.Test.YtdllbnlimnahaaaLed
namespace Go.Proofs.Ytdllbnlimnahaaa
open Go.RowKit

theorem Ow.type {α : Type} {w : World} {base : Nat} {e : TypeId} {k : Nat} {enc : α → List Value} {v : Value} {l : List α} (h : Ow w base e k enc v l) {b : Nat} {cs : Array Value} {T : TypeId} {f : Nat × Nat} (hb : w.heap[b]? = some (.cells cs T f)) (hT : T ≠ e) : ∀ g, v.ownBlock = some g → b ≠ g := by
  intro g hg he
  subst he
  rcases h.2 with ⟨rfl, _⟩ | ⟨g', cap, cur, rfl, _, hgg, _⟩
  · cases hg
  · simp [Value.ownBlock] at hg
    subst hg
    rw [hb] at hgg
    injection hgg with hgg
    injection hgg with _ ht
    exact hT ht
/-- A block of another type has been written. -/
theorem DkOw.beside {w : World} {base : Nat} {v : Value} {d : Dk} (h : DkOw w base v d) {b : Nat} {cs : Array Value} {T : TypeId} {f : Nat × Nat} (hb : w.heap[b]? = some (.cells cs T f)) (h1 : T ≠ 9) (h2 : T ≠ 46) (k : Nat) (u : Value) : DkOw (w.setCell ⟨b, k, none⟩ u) base v d := by
  obtain ⟨s, p, rfl, hs, hp⟩ := h
  exact ⟨s, p, rfl, hs.aside (hs.type hb h1) u, hp.aside (hp.type hb h2) u⟩

/-- Where the draw of a disk stands: the disk d in the box b. -/
structure At (w W : World) (S b : Nat) (cv : Value) (len : Nat) (s p : Value) (d : Dk) : Prop where
  src : Src W S cv len
  grown : w.grownBy W (some S)
  low : S < w.heap.size
  far : w.heap.size < b
  res : W.heap[w.heap.size]? = some (.cells #[.slice none 0 0, .slice none 0 0] 26 (0, 0))
  box : W.heap[b]? = some (.cells #[s, p] 26 (0, 0))
  own : DkOw W (w.heap.size + 1) (.agg #[s, p]) d

theorem At.by_ {w W W' : World} {S b : Nat} {cv : Value} {len : Nat} {s p : Value} {d : Dk} (h : At w W S b cv len s p d) (hg : W.grownBy W' (some S)) (hs : Src W' S cv len) : At w W' S b cv len s p d :=
  ⟨hs, grown_trans h.grown hg, h.low, h.far, blk_by h.res hg h.low, blk_by h.box hg (Nat.lt_trans h.low h.far), h.own.by_ hg (Nat.lt_succ_of_lt h.low)⟩
theorem At.below {w W W' : World} {S b : Nat} {cv : Value} {len : Nat} {s p : Value} {d : Dk} (h : At w W S b cv len s p d) (hb : Below W.heap.size W W') : At w W' S b cv len s p d :=
  ⟨h.src.below hb, grown_trans h.grown (grown_below hb _), h.low, h.far, keep_blk hb h.res, keep_blk hb h.box, h.own.lift hb⟩
theorem At.alloc {w W : World} {S b : Nat} {cv : Value} {len : Nat} {s p : Value} {d : Dk} (h : At w W S b cv len s p d) (o : Obj) : At w (W.alloc o) S b cv len s p d := h.below ((Below.refl _ _).alloc (Nat.le_refl _) _)
theorem At.drew {w W : World} {S b : Nat} {cv : Value} {len : Nat} {s p : Value} {d : Dk} (h : At w W S b cv len s p d) : At w W.drew S b cv len s p d := h.below (Below.refl W.heap.size W).drew
/-- A block beside has been written. -/
theorem At.other {w W : World} {S b : Nat} {cv : Value} {len : Nat} {s p : Value} {d : Dk} (h : At w W S b cv len s p d) {y : Nat} {cs : Array Value} {T : TypeId} {f : Nat × Nat} (hy : W.heap[y]? = some (.cells cs T f)) (h1 : T ≠ 9) (h2 : T ≠ 46) (hb : b < y) (k : Nat) (u : Value) : At w (W.setCell ⟨y, k, none⟩ u) S b cv len s p d := by
  have h3 := h.far
  have h4 := h.low
  exact ⟨h.src.far y k u (by omega), grown_set_far h.grown y k u (by omega), h.low, h.far, by rw [Below.heap_setCell _ _ _ _ (by simp only; omega)]; exact h.res, by rw [Below.heap_setCell _ _ _ _ (by simp only; omega)]; exact h.box, h.own.beside hy h1 h2 k u⟩
/-- The answer's box, all four cells written. -/
theorem At.other4 {w W : World} {S b : Nat} {cv : Value} {len : Nat} {s p : Value} {d : Dk} (h : At w W S b cv len s p d) {y : Nat} {x0 x1 x2 x3 : Value} (hy : W.heap[y]? = some (.cells #[x0, x1, x2, x3] 30 (0, 0))) (hb : b < y) (y0 y1 y2 y3 : Value) :
    At w ((((W.setCell ⟨y, 0, none⟩ y0).setCell ⟨y, 1, none⟩ y1).setCell ⟨y, 2, none⟩ y2).setCell ⟨y, 3, none⟩ y3) S b cv len s p d ∧ ((((W.setCell ⟨y, 0, none⟩ y0).setCell ⟨y, 1, none⟩ y1).setCell ⟨y, 2, none⟩ y2).setCell ⟨y, 3, none⟩ y3).heap[y]? = some (.cells #[y0, y1, y2, y3] 30 (0, 0))
    ∧ ∀ {base : Nat} {v : Value} {d' : Dk}, DkOw W base v d' → DkOw ((((W.setCell ⟨y, 0, none⟩ y0).setCell ⟨y, 1, none⟩ y1).setCell ⟨y, 2, none⟩ y2).setCell ⟨y, 3, none⟩ y3) base v d' := by
  have e0 : (W.setCell ⟨y, 0, none⟩ y0).heap[y]? = some (.cells #[y0, x1, x2, x3] 30 (0, 0)) := block_set hy 0 y0
  have e1 : ((W.setCell ⟨y, 0, none⟩ y0).setCell ⟨y, 1, none⟩ y1).heap[y]? = some (.cells #[y0, y1, x2, x3] 30 (0, 0)) := block_set e0 1 y1
  have e2 : (((W.setCell ⟨y, 0, none⟩ y0).setCell ⟨y, 1, none⟩ y1).setCell ⟨y, 2, none⟩ y2).heap[y]? = some (.cells #[y0, y1, y2, x3] 30 (0, 0)) := block_set e1 2 y2
  have e3 : ((((W.setCell ⟨y, 0, none⟩ y0).setCell ⟨y, 1, none⟩ y1).setCell ⟨y, 2, none⟩ y2).setCell ⟨y, 3, none⟩ y3).heap[y]? = some (.cells #[y0, y1, y2, y3] 30 (0, 0)) := block_set e2 3 y3
  exact ⟨(((h.other hy (by decide) (by decide) hb 0 y0).other e0 (by decide) (by decide) hb 1 y1).other e1 (by decide) (by decide) hb 2 y2).other e2 (by decide) (by decide) hb 3 y3, e3,
    fun k => (((k.beside hy (by decide) (by decide) 0 y0).beside e0 (by decide) (by decide) 1 y1).beside e1 (by decide) (by decide) 2 y2).beside e2 (by decide) (by decide) 3 y3⟩
/-- The box holds another disk. -/
theorem At.put {w W : World} {S b : Nat} {cv : Value} {len : Nat} {s p s' p' : Value} {d d' : Dk} (h : At w W S b cv len s p d) (ho : DkOw W (w.heap.size + 1) (.agg #[s', p']) d') : At w ((W.setCell ⟨b, 0, none⟩ s').setCell ⟨b, 1, none⟩ p') S b cv len s' p' d' := by
  have h3 := h.far
  have h4 := h.low
  have e0 : (W.setCell ⟨b, 0, none⟩ s').heap[b]? = some (.cells #[s', p] 26 (0, 0)) := block_set h.box 0 s'
  have e1 : ((W.setCell ⟨b, 0, none⟩ s').setCell ⟨b, 1, none⟩ p').heap[b]? = some (.cells #[s', p'] 26 (0, 0)) := block_set e0 1 p'
  exact ⟨(h.src.far b 0 s' (by omega)).far b 1 p' (by omega), grown_set_far (grown_set_far h.grown b 0 s' (by omega)) b 1 p' (by omega), h.low, h.far, by rw [Below.heap_setCell _ _ _ _ (by simp only; omega), Below.heap_setCell _ _ _ _ (by simp only; omega)]; exact h.res, e1,
    (ho.beside h.box (by decide) (by decide) 0 s').beside e0 (by decide) (by decide) 1 p'⟩
/-- One of the box's cells is written. -/
theorem At.put0 {w W : World} {S b : Nat} {cv : Value} {len : Nat} {s p s' : Value} {d d' : Dk} (h : At w W S b cv len s p d) (ho : DkOw W (w.heap.size + 1) (.agg #[s', p]) d') : At w (W.setCell ⟨b, 0, none⟩ s') S b cv len s' p d' := by
  have h3 := h.far
  have h4 := h.low
  exact ⟨h.src.far b 0 s' (by omega), grown_set_far h.grown b 0 s' (by omega), h.low, h.far, by rw [Below.heap_setCell _ _ _ _ (by simp only; omega)]; exact h.res, block_set h.box 0 s', ho.beside h.box (by decide) (by decide) 0 s'⟩
theorem At.put1 {w W : World} {S b : Nat} {cv : Value} {len : Nat} {s p p' : Value} {d d' : Dk} (h : At w W S b cv len s p d) (ho : DkOw W (w.heap.size + 1) (.agg #[s, p']) d') : At w (W.setCell ⟨b, 1, none⟩ p') S b cv len s p' d' := by
  have h3 := h.far
  have h4 := h.low
  exact ⟨h.src.far b 1 p' (by omega), grown_set_far h.grown b 1 p' (by omega), h.low, h.far, by rw [Below.heap_setCell _ _ _ _ (by simp only; omega)]; exact h.res, block_set h.box 1 p', ho.beside h.box (by decide) (by decide) 1 p'⟩

/-- A drawn disk of the call's own. -/
def SomeDisk (w : World) (S : Nat) (cv : Value) (len : Nat) (e : Ending) (w' : World) : Prop :=
  ∃ A1 c1 A2 c2 d, e = .returned (.agg #[.slice A1 d.S.length c1, .slice A2 d.P.length c2]) ∧ DkOw w' w.heap.size (.agg #[.slice A1 d.S.length c1, .slice A2 d.P.length c2]) d ∧ Drawn d ∧ w.grownBy w' (some S) ∧ Src w' S cv len
theorem At.done {w W : World} {S b : Nat} {cv : Value} {len : Nat} {A1 A2 : Option Addr} {c1 c2 : Nat} {d : Dk} (h : At w W S b cv len (.slice A1 d.S.length c1) (.slice A2 d.P.length c2) d) (hd : Drawn d) :
    SomeDisk w S cv len (.returned (.agg #[.slice A1 d.S.length c1, .slice A2 d.P.length c2])) ((W.setCell ⟨w.heap.size, 0, none⟩ (.slice A1 d.S.length c1)).setCell ⟨w.heap.size, 1, none⟩ (.slice A2 d.P.length c2)) := by
  have h4 := h.low
  exact ⟨A1, c1, A2, c2, d, rfl, ((h.own.far (by simp only; omega) _).far (by simp only; omega) _).base (by omega), hd, grown_set_far (grown_set_far h.grown _ _ _ (Nat.le_refl _)) _ _ _ (Nat.le_refl _), (h.src.far _ _ _ (by omega)).far _ _ _ (by omega)⟩

theorem At.done' {w W : World} {S b : Nat} {cv : Value} {len : Nat} {A1 A2 : Option Addr} {c1 c2 n m : Nat} {d : Dk} (h : At w W S b cv len (.slice A1 n c1) (.slice A2 m c2) d) (hn : n = d.S.length) (hm : m = d.P.length) (hd : Drawn d) :
    SomeDisk w S cv len (.returned (.agg #[.slice A1 n c1, .slice A2 m c2])) ((W.setCell ⟨w.heap.size, 0, none⟩ (.slice A1 n c1)).setCell ⟨w.heap.size, 1, none⟩ (.slice A2 m c2)) := by
  subst hn hm
  exact h.done hd
theorem At.nilS {w W : World} {S b : Nat} {cv : Value} {len : Nat} {s p : Value} {d : Dk} (h : At w W S b cv len s p d) : At w (W.setCell ⟨b, 0, none⟩ (.slice none 0 0)) S b cv len (.slice none 0 0) p ⟨[], d.P⟩ := by
  obtain ⟨s', p', e, _, hp⟩ := h.own
  simp only [Value.agg.injEq, Array.mk.injEq, List.cons.injEq, and_true] at e
  obtain ⟨rfl, rfl⟩ := e
  exact h.put0 ⟨_, _, rfl, World.ownsRow_nil _ _ _ _, hp⟩
/-- One more is pending. -/
theorem At.grewP {w W w3 : World} {S b : Nat} {cv : Value} {len : Nat} {s p v' : Value} {d : Dk} (h : At w W S b cv len s p d) (x : Pd) {xs : List Value} {n : Nat} (hn : n = d.P.length + 1) (hx : xs = (d.P ++ [x]).flatMap encP) (g : Grew W (w.heap.size + 1) 46 2 p n xs v' w3) :
    At w (w3.setCell ⟨b, 1, none⟩ v') S b cv len s v' ⟨d.S, d.P ++ [x]⟩ ∧ w3.heap[b]? = some (.cells #[s, p] 26 (0, 0)) ∧ w3.heap[w.heap.size]? = some (.cells #[.slice none 0 0, .slice none 0 0] 26 (0, 0)) := by
  subst hn hx
  obtain ⟨s', p', e, hs, hp⟩ := h.own
  simp only [Value.agg.injEq, Array.mk.injEq, List.cons.injEq, and_true] at e
  obtain ⟨rfl, rfl⟩ := e
  have h1 := h.low
  have h2 := h.far
  have hl := World.ownsRow.lt hp
  have hb := block_lt h.box
  have e1 : w3.heap[b]? = some (.cells #[s, p] 26 (0, 0)) := by
    rw [g.2.1.block b hb (fun e => hp.type h.box (by decide) b e.symm rfl)]
    exact h.box
  have hO : DkOw w3 (w.heap.size + 1) (.agg #[s, v']) ⟨d.S, d.P ++ [x]⟩ := ⟨_, _, rfl, g.other hs hp (by decide), by unfold Ow; rw [List.length_append]; exact g.1⟩
  have hG : w.grownBy w3 (some S) := grownBy_young h.grown g.2.1 (fun j hj => by have := (hl j hj).1; omega)
  have e2 : w3.heap[w.heap.size]? = some (.cells #[.slice none 0 0, .slice none 0 0] 26 (0, 0)) := by
    rw [g.2.1.block w.heap.size (by omega) (fun e => by have := (hl _ e.symm).1; omega)]
    exact h.res
  refine ⟨⟨?_, grown_set_far hG b 1 v' (by omega), h1, h2, ?_, block_set e1 1 v', hO.beside e1 (by decide) (by decide) 1 v'⟩, e1, e2⟩
  · refine Src.far ?_ b 1 v' (by omega)
    exact h.src.keep (g.2.1.block S h.src.lt (fun e => by have := (hl S e.symm).1; omega))
  · rw [Below.heap_setCell _ _ _ _ (by simp only; omega)]
    exact e2
theorem ow_set0 {W : World} {base g n c : Nat} {L : List ByteArray} (h : Ow W base 9 1 encS (.slice (some ⟨g, 0, none⟩) n c) L) (t : ByteArray) (hn : 0 < n) : Ow (W.setCell ⟨g, 0, none⟩ (.string t)) base 9 1 encS (.slice (some ⟨g, 0, none⟩) n c) (L.set 0 t) := by
  obtain ⟨h1, h2⟩ := h
  rcases h2 with ⟨e, _⟩ | ⟨g', cap, cur, e, hb, hg, hc1, hc2, hc3, hx⟩
  · cases e
  · injection e with e1 e2 e3
    injection e1 with e1
    injection e1 with e1
    subst e1 e2 e3
    have hx' : (cur.setIfInBounds 0 (.string t)).toList.take (L.length * 1) = (L.set 0 t).flatMap encS := by
      rw [Array.toList_setIfInBounds, List.take_set, hx]
      cases L with
      | nil => simp at hn
      | cons a l => rfl
    refine ⟨?_, .inr ⟨g, c, cur.setIfInBounds 0 (.string t), ?_, hb, block_set hg 0 _, ?_, hc2, by simpa using hc3, ?_⟩⟩
    · exact flat_len 1 encS encS_len (L.set 0 t)
    · rw [List.length_set]
    · rw [List.length_set]; exact hc1
    · rw [List.length_set]; exact hx'
theorem At.setS {w W : World} {S b : Nat} {cv : Value} {len g n c : Nat} {p : Value} {d : Dk} (h : At w W S b cv len (.slice (some ⟨g, 0, none⟩) n c) p d) (hn : n = d.S.length) (h0 : 0 < n) (t : ByteArray) : At w (W.setCell ⟨g, 0, none⟩ (.string t)) S b cv len (.slice (some ⟨g, 0, none⟩) n c) p ⟨d.S.set 0 t, d.P⟩ := by
  subst hn
  obtain ⟨s', p', e, hs, hp⟩ := h.own
  simp only [Value.agg.injEq, Array.mk.injEq, List.cons.injEq, and_true] at e
  obtain ⟨rfl, rfl⟩ := e
  have h1 := h.low
  have h2 := h.far
  have hl := (World.ownsRow.lt hs) g rfl
  have hgb : b ≠ g := hs.type h.box (by decide) g rfl
  refine ⟨h.src.far g 0 _ (by omega), grown_set_far h.grown g 0 _ (by omega), h1, h2, by rw [Below.heap_setCell _ _ _ _ (by simp only; omega)]; exact h.res, by rw [Below.heap_setCell _ _ _ _ (by simp only; omega)]; exact h.box, ⟨_, _, rfl, ow_set0 hs t h0, hp.aside (fun g' hg' => ?_) _⟩⟩
  rcases hp.apart hs (by decide) with e | e
  · rw [e] at hg'; cases hg'
  · intro hh
    exact e (by rw [hg']; exact congrArg some hh.symm)
theorem At.ownS {w W : World} {S b : Nat} {cv : Value} {len : Nat} {s p : Value} {d : Dk} (h : At w W S b cv len s p d) : Ow W (w.heap.size + 1) 9 1 encS s d.S := by
  obtain ⟨s', p', e, hs, hp⟩ := h.own
  simp only [Value.agg.injEq, Array.mk.injEq, List.cons.injEq, and_true] at e
  obtain ⟨rfl, rfl⟩ := e
  exact hs
theorem At.ownP {w W : World} {S b : Nat} {cv : Value} {len : Nat} {s p : Value} {d : Dk} (h : At w W S b cv len s p d) : Ow W (w.heap.size + 1) 46 2 encP p d.P := by
  obtain ⟨s', p', e, hs, hp⟩ := h.own
  simp only [Value.agg.injEq, Array.mk.injEq, List.cons.injEq, and_true] at e
  obtain ⟨rfl, rfl⟩ := e
  exact hp
theorem drawn_more {d : Dk} (h : Drawn d) (hl : d.P.length < 300) (x : Pd) (h1 : 0 ≤ x.1) (h2 : x.1 ≤ 64) (h3 : x.2.size ≤ 65) : Drawn ⟨d.S, d.P ++ [x]⟩ := by
  obtain ⟨a1, a2, a3, a4, a5⟩ := h
  refine ⟨a1, a2, by simp only [List.length_append, List.length_singleton]; omega, fun q hq => ?_, fun q hq => ?_⟩
  all_goals
    rcases List.mem_append.1 hq with hq | hq
    · first | exact a4 q hq | exact a5 q hq
    · have e : q = x := by simpa using hq
      subst e
      first | exact h3 | exact ⟨h1, h2⟩
theorem drawn_set {d : Dk} (h : Drawn d) (t : ByteArray) (h3 : t.size ≤ 65) : Drawn ⟨d.S.set 0 t, d.P⟩ := by
  obtain ⟨a1, a2, a3, a4, a5⟩ := h
  refine ⟨by simp only [List.length_set]; exact a1, fun q hq => ?_, a3, a4, a5⟩
  rcases List.mem_or_eq_of_mem_set hq with hq | rfl
  · exact a2 q hq
  · exact h3
/-- How long the second slice of a box is. -/
def boxLen (w : World) (b : Nat) : Nat := match w.cell? ⟨b, 1, none⟩ with
  | some (.slice _ n _) => n
  | _ => 0
theorem boxLen_at {w W : World} {S b : Nat} {cv : Value} {len n c : Nat} {s : Value} {A : Option Addr} {d : Dk} (h : At w W S b cv len s (.slice A n c) d) : boxLen W b = n := by
  unfold boxLen
  rw [(box2 h.box).2]
theorem SomeDisk.alloc {w W : World} {S : Nat} {cv : Value} {len : Nat} {e : Ending} (h : SomeDisk w S cv len e W) (o : Obj) : SomeDisk w S cv len e (W.alloc o) := by
  obtain ⟨A1, c1, A2, c2, d, he, hd, hdr, hg, hs⟩ := h
  exact ⟨A1, c1, A2, c2, d, he, hd.alloc o, hdr, grown_trans hg (World.grownBy_alloc _ _ _), hs.below ((Below.refl _ _).alloc (Nat.le_refl _) _)⟩

end Go.Proofs.Ytdllbnlimnahaaa
