/-
  Contracts of the copies of an input: names, items, docs.
-/
import Derived.Test.YtghiipoeedfkhaaProg
import Derived.Test.YtghiipoeedfkhaaDocM
import Derived.Test.YtghiipoeedfkhaaAid
import Derived.Test.YtghiipoeedfkhaaSzDoc
namespace Go.Proofs.Ytghiipoeedfkhaa
set_option linter.unusedSimpArgs false
set_option linter.unusedVariables false
open Go.ChangeShapes Go.WideShapes Go.ChangeAt Go.RowKit

/-- It answers v, and nothing that was there has turned. -/
def Back (v : Value) (w : World) (e : Ending) (w' : World) : Prop := e = .returned v ∧ Below w.heap.size w w'

theorem to_id (n : Nm) (w : World) : Calls Try.prog 133 #[vN n] w (Back (vN n) w) := by
  go_enter Try.func133, Try.ntmps133
  go_wp2
  refine bodyPost_ret (v := vN n) (by simp [results, Try.results133, go_sem]) rfl ⟨rfl, ?_⟩
  (repeat (first | with_reducible refine bset ?_ _ (by omega) | with_reducible refine ball ?_ _ (by first | exact Nat.le_refl _ | (simp only [World.size_alloc, World.size_setCell]; omega)) | with_reducible exact Below.refl _ _ | with_reducible refine Below.drew ?_))

theorem res_item {W : World} {b : Nat} {cs : Array Value} {a0 a1 a2 a3 a4 a5 a6 a7 : Value} (tm : Array Value) (ht : tm[2]? = some (.pointer (some ⟨b, 0, none⟩))) (hg : W.heap[b]? = some (.cells cs 83 (0, 0))) (he : cs = #[a0, a1, a2, a3, a4, a5, a6, a7]) :
    (results Try.f132 tm).run Try.prog W = .ok (.agg #[a0, a1, a2, a3, a4, a5, a6, a7]) W := by
  subst he
  obtain ⟨c0, c1, c2, c3, c4, c5, c6, c7⟩ := box8 hg
  simp [results, Try.results132, go_sem, ht, c0, c1, c2, c3, c4, c5, c6, c7]

set_option maxRecDepth 100000 in
set_option maxHeartbeats 4000000 in
theorem to_item (x : Im) (w : World) : Calls Try.prog 132 #[vM x] w (Back (vM x) w) := by
  go_enter Try.func132, Try.ntmps132
  go_wp2_with fail
  refine (to_id _ _).mono ?_
  rintro e w1 ⟨rfl, hb1⟩
  have hz := hb1.size; simp only [World.size_alloc] at hz
  have hs : w.heap.size + 1 + 1 < w1.heap.size := by omega
  have g0 : w1.heap[w.heap.size]? = _ := keep_blk hb1 (alloc_there (alloc_there (heap_alloc_new w _) _) _)
  have g1 : w1.heap[w.heap.size + 1]? = _ := keep_blk hb1 (alloc_there (heap_two w _ _) _)
  have g2 : w1.heap[w.heap.size + 1 + 1]? = _ := keep_blk hb1 (heap_three w _ _ _)
  have HB := Lib.hid (show Below w.heap.size w w1 from below_call (by (repeat (first | with_reducible refine bset ?_ _ (by omega) | with_reducible refine ball ?_ _ (by first | exact Nat.le_refl _ | (simp only [World.size_alloc, World.size_setCell]; omega)) | with_reducible exact Below.refl _ _ | with_reducible refine Below.drew ?_))) (by (first | (simp; done) | (simp; omega) | omega)) hb1)
  have HG0 := Lib.hid g0; have HG1 := Lib.hid g1; have HG2 := Lib.hid g2
  obtain ⟨c0, c1, c2, c3, c4, c5, c6, c7⟩ := box8 g0
  obtain ⟨d0, d1, d2, d3, d4, d5, d6, d7⟩ := box8 g2
  have f2 := box_any g2
  clear hb1 g0 g1 g2 hz
  go_wp2_with fail
  refine (to_id _ _).mono ?_
  rintro e w2 ⟨rfl, hb2⟩
  have hz := hb2.size; simp only [World.size_setCell] at hz
  have g0 : w2.heap[w.heap.size]? = _ := keep_blk hb2 (set_there (set_there HG0.out _ (by omega)) _ (by omega))
  have g1 : w2.heap[w.heap.size + 1]? = _ := keep_blk hb2 (set_there (set_there HG1.out _ (by omega)) _ (by omega))
  have g2 : w2.heap[w.heap.size + 1 + 1]? = _ := keep_blk hb2 (block_set (block_set HG2.out _ _) _ _)
  replace HB := Lib.hid (show Below w.heap.size w w2 from below_call ((HB.out.setCell (by simp only; omega) _).setCell (by simp only; omega) _) (by simp only [World.size_setCell]; omega) hb2)
  replace HG0 := Lib.hid g0; replace HG1 := Lib.hid g1; replace HG2 := Lib.hid g2
  clear c0 c1 c2 c3 c4 c5 c6 c7 d0 d1 d2 d3 d4 d5 d6 d7 f2 hb2
  obtain ⟨c0, c1, c2, c3, c4, c5, c6, c7⟩ := box8 g0
  obtain ⟨d0, d1, d2, d3, d4, d5, d6, d7⟩ := box8 g2
  have f2 := box_any g2
  have hs2 : w.heap.size + 1 + 1 < w2.heap.size := by omega
  clear g0 g1 g2 hz hs
  go_wp2_with fail
  refine (to_id _ _).mono ?_
  rintro e w3 ⟨rfl, hb3⟩
  have hz := hb3.size; simp only [World.size_setCell] at hz
  have g0 : w3.heap[w.heap.size]? = _ := keep_blk hb3 (set_there (set_there HG0.out _ (by omega)) _ (by omega))
  have g1 : w3.heap[w.heap.size + 1]? = _ := keep_blk hb3 (set_there (set_there HG1.out _ (by omega)) _ (by omega))
  have g2 : w3.heap[w.heap.size + 1 + 1]? = _ := keep_blk hb3 (block_set (block_set HG2.out _ _) _ _)
  replace HB := Lib.hid (show Below w.heap.size w w3 from below_call ((HB.out.setCell (by simp only; omega) _).setCell (by simp only; omega) _) (by simp only [World.size_setCell]; omega) hb3)
  replace HG0 := Lib.hid g0; replace HG1 := Lib.hid g1; replace HG2 := Lib.hid g2
  clear c0 c1 c2 c3 c4 c5 c6 c7 d0 d1 d2 d3 d4 d5 d6 d7 f2 hb3
  obtain ⟨c0, c1, c2, c3, c4, c5, c6, c7⟩ := box8 g0
  obtain ⟨r0, r1, r2, r3, r4, r5, r6, r7⟩ := box8 g1
  obtain ⟨d0, d1, d2, d3, d4, d5, d6, d7⟩ := box8 g2
  have f2 := box_any g2
  have f1 := box_any g1
  have hs3 : w.heap.size + 1 + 1 < w3.heap.size := by omega
  clear g0 g1 g2 hz hs2
  go_wp2
  refine bodyPost_ret (v := vM x) ?_ rfl ⟨rfl, ?_⟩
  · apply res_item (b := w.heap.size + 1)
    · rfl
    · repeat (first | with_reducible apply block_set | (with_reducible refine set_there ?_ _ (by omega)) | with_reducible exact HG1.out)
    · simp only [List.setIfInBounds_toArray, List.set_cons_zero, List.set_cons_succ]
  · refine HB.out.trans ?_
    (repeat (first | with_reducible refine bset ?_ _ (by omega) | with_reducible refine ball ?_ _ (by first | exact Nat.le_refl _ | (simp only [World.size_alloc, World.size_setCell]; omega)) | with_reducible exact Below.refl _ _ | with_reducible refine Below.drew ?_))

theorem infoItem : (Try.prog.info? 83).map (fun i => (i.zero, i.size, i.bytes)) = some (some (.agg #[.int .i64 0, .int .i64 0, .int .i64 0, .int .i64 0, .int .i64 0, .int .i64 0, .string ⟨#[]⟩, .bool false]), 8, 72) := by kernel_rfl
theorem infoId : (Try.prog.info? 66).map (fun i => (i.zero, i.size, i.bytes)) = some (some (.agg #[.int .i64 0, .int .i64 0]), 2, 16) := by kernel_rfl

theorem set_take_eight (cur : Array Value) (k : Nat) (xs : List Value) (a b c d e f g h : Value) (hk : k * 8 + 7 < cur.size) (ht : cur.toList.take (k * 8) = xs) :
    ((((((((cur.setIfInBounds (k * 8) a).setIfInBounds (k * 8 + 1) b).setIfInBounds (k * 8 + 2) c).setIfInBounds (k * 8 + 3) d).setIfInBounds (k * 8 + 4) e).setIfInBounds (k * 8 + 5) f).setIfInBounds (k * 8 + 6) g).setIfInBounds (k * 8 + 7) h).toList.take ((k + 1) * 8) = xs ++ [a, b, c, d, e, f, g, h] := by
  have e1 : (k + 1) * 8 = k * 8 + 7 + 1 := by omega
  rw [e1]
  have h0 := set_take_one cur (k * 8) xs a (by omega) ht
  have h1 := set_take_one _ (k * 8 + 1) _ b (by simp only [Array.size_setIfInBounds]; omega) h0
  have h2 := set_take_one _ (k * 8 + 2) _ c (by simp only [Array.size_setIfInBounds]; omega) h1
  have h3 := set_take_one _ (k * 8 + 3) _ d (by simp only [Array.size_setIfInBounds]; omega) h2
  have h4 := set_take_one _ (k * 8 + 4) _ e (by simp only [Array.size_setIfInBounds]; omega) h3
  have h5 := set_take_one _ (k * 8 + 5) _ f (by simp only [Array.size_setIfInBounds]; omega) h4
  have h6 := set_take_one _ (k * 8 + 6) _ g (by simp only [Array.size_setIfInBounds]; omega) h5
  have h7 := set_take_one _ (k * 8 + 7) _ h (by simp only [Array.size_setIfInBounds]; omega) h6
  rw [h7]
  simp

set_option maxRecDepth 100000 in
theorem to_items (v : Value) (L : List Im) (w : World) (hv : Sl w w.heap.size 8 encM v L) (hL : L.length ≤ 1048576) :
    Calls Try.prog 71 #[v] w (Owns w 83 8 encM L) := by
  obtain ⟨A, c, rfl⟩ := hv.form
  have HV := Lib.hid hv
  clear hv
  obtain ⟨M, -, hMs, hmk⟩ := make_row 26 83 _ 8 72 Try.underlying26 infoItem L.length (by omega) (by omega)
  have HM := Lib.hid hMs; clear hMs
  go_enter Try.func71, Try.ntmps71
  go_wp2
  go_loopw [4] (fun i wr => ∃ (k : Nat) (cur : Array Value), k ≤ L.length ∧ i = .int .i64 k ∧ wr.heap[w.heap.size]? = some (.cells cur 83 (0, 0)) ∧ cur.size = L.length * 8 ∧ cur.toList.take (k * 8) = (L.take k).flatMap encM ∧ Below w.heap.size w wr) (fun i _ => L.length - (intOf i).toNat)
  case atStart => exact ⟨0, M, by omega, rfl, heap_alloc_new _ _, HM.out, rfl, (Below.refl _ _).alloc (Nat.le_refl _) _⟩
  case round =>
    obtain ⟨k, cur, hk, rfl, hg, hs, ht, hb⟩ := hrel
    have HG := Lib.hid hg; have HS := Lib.hid hs; have HT := Lib.hid ht; have HB := Lib.hid hb
    by_cases hlt : k < L.length
    · obtain ⟨ad, c', e', _, c0, c1, c2, c3, c4, c5, c6, c7⟩ := (HV.out.below hb).item k hlt
      clear hb hg hs ht
      simp only [Value.slice.injEq, true_and] at e'
      obtain ⟨rfl, rfl⟩ := e'
      obtain ⟨t, ht⟩ : ∃ t, t = L[k] := ⟨_, rfl⟩
      rw [← ht] at c0 c1 c2 c3 c4 c5 c6 c7
      have HX := Lib.hid ht; clear ht
      have hzr : w.heap.size < wr.heap.size := block_lt HG.out
      go_wp2_with fail
      refine (to_item t _).mono ?_
      rintro e w1 ⟨rfl, hb1⟩
      have hg1 : w1.heap[w.heap.size]? = some (.cells cur 83 (0, 0)) := by rw [hb1.block _ hzr]; exact HG.out
      obtain ⟨y0, d0⟩ := block_some hg1 (k * 8) (by have := HS.out; omega)
      obtain ⟨y1, d1⟩ := block_some hg1 (k * 8 + 1) (by have := HS.out; omega)
      obtain ⟨y2, d2⟩ := block_some hg1 (k * 8 + 2) (by have := HS.out; omega)
      obtain ⟨y3, d3⟩ := block_some hg1 (k * 8 + 3) (by have := HS.out; omega)
      obtain ⟨y4, d4⟩ := block_some hg1 (k * 8 + 4) (by have := HS.out; omega)
      obtain ⟨y5, d5⟩ := block_some hg1 (k * 8 + 5) (by have := HS.out; omega)
      obtain ⟨y6, d6⟩ := block_some hg1 (k * 8 + 6) (by have := HS.out; omega)
      obtain ⟨y7, d7⟩ := block_some hg1 (k * 8 + 7) (by have := HS.out; omega)
      have hfree := box_any hg1
      have HG1 := Lib.hid hg1
      have HB1 := Lib.hid (below_call HB.out HB.out.size hb1)
      clear hg1 hb1 c0 c1 c2 c3 c4 c5 c6 c7
      go_wp2
      go_roundw
      case rel => exact ⟨k + 1, _, by omega, by go_num, block_set (block_set (block_set (block_set (block_set (block_set (block_set (block_set HG1.out (k * 8) _) (k * 8 + 1) _) (k * 8 + 2) _) (k * 8 + 3) _) (k * 8 + 4) _) (k * 8 + 5) _) (k * 8 + 6) _) (k * 8 + 7) _, by simp only [Array.size_setIfInBounds]; exact HS.out, by
        rw [set_take_eight cur k _ _ _ _ _ _ _ _ _ (by have := HS.out; omega) HT.out, List.take_succ_eq_append_getElem hlt, List.flatMap_append, HX.out]; rfl, by
        refine HB1.out.trans ?_
        (repeat (first | with_reducible refine bset ?_ _ (by omega) | with_reducible refine ball ?_ _ (by first | exact Nat.le_refl _ | (simp only [World.size_alloc, World.size_setCell]; omega)) | with_reducible exact Below.refl _ _ | with_reducible refine Below.drew ?_))⟩
      case measure => simp [intOf]; omega
    · have hks : k = L.length := by omega
      subst hks
      clear hb hg hs ht
      go_wp2
      go_ret
      refine ⟨_, rfl, row_lit HG.out _ _ 8 (Nat.le_refl _) (by unfold maxLen; omega) HS.out ?_, HB.out⟩
      have h := HT.out
      rw [List.take_of_length_le (by rw [Array.length_toList, HS.out]; omega), List.take_of_length_le (Nat.le_refl _)] at h
      exact h

set_option maxRecDepth 100000 in
theorem to_ids (v : Value) (L : List Nm) (w : World) (hv : Sl w w.heap.size 2 encN v L) (hL : L.length ≤ 1048576) :
    Calls Try.prog 72 #[v] w (Owns w 66 2 encN L) := by
  obtain ⟨A, c, rfl⟩ := hv.form
  have HV := Lib.hid hv
  clear hv
  obtain ⟨M, -, hMs, hmk⟩ := make_row 27 66 _ 2 16 Try.underlying27 infoId L.length (by omega) (by omega)
  have HM := Lib.hid hMs; clear hMs
  go_enter Try.func72, Try.ntmps72
  go_wp2
  go_loopw [4] (fun i wr => ∃ (k : Nat) (cur : Array Value), k ≤ L.length ∧ i = .int .i64 k ∧ wr.heap[w.heap.size]? = some (.cells cur 66 (0, 0)) ∧ cur.size = L.length * 2 ∧ cur.toList.take (k * 2) = (L.take k).flatMap encN ∧ Below w.heap.size w wr) (fun i _ => L.length - (intOf i).toNat)
  case atStart => exact ⟨0, M, by omega, rfl, heap_alloc_new _ _, HM.out, rfl, (Below.refl _ _).alloc (Nat.le_refl _) _⟩
  case round =>
    obtain ⟨k, cur, hk, rfl, hg, hs, ht, hb⟩ := hrel
    have HG := Lib.hid hg; have HS := Lib.hid hs; have HT := Lib.hid ht; have HB := Lib.hid hb
    by_cases hlt : k < L.length
    · obtain ⟨ad, c', e', _, c0, c1⟩ := (HV.out.below hb).two k hlt
      clear hb hg hs ht
      simp only [Value.slice.injEq, true_and] at e'
      obtain ⟨rfl, rfl⟩ := e'
      obtain ⟨t, ht⟩ : ∃ t, t = L[k] := ⟨_, rfl⟩
      rw [← ht] at c0 c1
      have HX := Lib.hid ht; clear ht
      have hzr : w.heap.size < wr.heap.size := block_lt HG.out
      go_wp2_with fail
      refine (to_id t _).mono ?_
      rintro e w1 ⟨rfl, hb1⟩
      have hg1 : w1.heap[w.heap.size]? = some (.cells cur 66 (0, 0)) := by rw [hb1.block _ hzr]; exact HG.out
      obtain ⟨y0, d0⟩ := block_some hg1 (k * 2) (by have := HS.out; omega)
      obtain ⟨y1, d1⟩ := block_some hg1 (k * 2 + 1) (by have := HS.out; omega)
      have hfree := box_any hg1
      have HG1 := Lib.hid hg1
      have HB1 := Lib.hid (below_call HB.out HB.out.size hb1)
      clear hg1 hb1 c0 c1
      go_wp2
      go_roundw
      case rel => exact ⟨k + 1, _, by omega, by go_num, block_set (block_set HG1.out (k * 2) _) (k * 2 + 1) _, by simp only [Array.size_setIfInBounds]; exact HS.out, by
        rw [set_take_two cur k _ _ _ (by have := HS.out; omega) HT.out, List.take_succ_eq_append_getElem hlt, List.flatMap_append, HX.out]; rfl, by
        refine HB1.out.trans ?_
        (repeat (first | with_reducible refine bset ?_ _ (by omega) | with_reducible refine ball ?_ _ (by first | exact Nat.le_refl _ | (simp only [World.size_alloc, World.size_setCell]; omega)) | with_reducible exact Below.refl _ _ | with_reducible refine Below.drew ?_))⟩
      case measure => simp [intOf]; omega
    · have hks : k = L.length := by omega
      subst hks
      clear hb hg hs ht
      go_wp2
      go_ret
      refine ⟨_, rfl, row_lit HG.out _ _ 2 (Nat.le_refl _) (by unfold maxLen; omega) HS.out ?_, HB.out⟩
      have h := HT.out
      rw [List.take_of_length_le (by rw [Array.length_toList, HS.out]; omega), List.take_of_length_le (Nat.le_refl _)] at h
      exact h

/-- A doc's value that owns its memory, in blocks from base on. -/
def DcOw (w : World) (base : Nat) (v : Value) (d : Dc) : Prop := ∃ vx vp vh, v = .agg #[vx, vp, vh] ∧ Ow w base 83 8 encM vx d.X ∧ Ow w base 83 8 encM vp d.P ∧ Ow w base 66 2 encN vh d.H
theorem DcOw.at_ {w : World} {base : Nat} {v : Value} {d : Dc} (h : DcOw w base v d) : DcAt w w.heap.size v d := by
  obtain ⟨vx, vp, vh, rfl, h1, h2, h3⟩ := h
  exact ⟨vx, vp, vh, rfl, h1.sl encM_len, h2.sl encM_len, h3.sl encN_len⟩
theorem DcOw.lift {w w' : World} {base : Nat} {v : Value} {d : Dc} (h : DcOw w base v d) (hb : Below w.heap.size w w') : DcOw w' base v d := by
  obtain ⟨vx, vp, vh, rfl, h1, h2, h3⟩ := h
  exact ⟨vx, vp, vh, rfl, h1.lift hb, h2.lift hb, h3.lift hb⟩
theorem DcOw.base {w : World} {base base' : Nat} {v : Value} {d : Dc} (h : DcOw w base v d) (hb : base' ≤ base) : DcOw w base' v d := by
  obtain ⟨vx, vp, vh, rfl, h1, h2, h3⟩ := h
  exact ⟨vx, vp, vh, rfl, h1.base hb, h2.base hb, h3.base hb⟩
theorem DcOw.far {w : World} {base : Nat} {v : Value} {d : Dc} (h : DcOw w base v d) {p : Addr} (hp : p.block < base) (u : Value) : DcOw (w.setCell p u) base v d := by
  obtain ⟨vx, vp, vh, rfl, h1, h2, h3⟩ := h
  exact ⟨vx, vp, vh, rfl, h1.far hp u, h2.far hp u, h3.far hp u⟩
theorem DcOw.alloc {w : World} {base : Nat} {v : Value} {d : Dc} (h : DcOw w base v d) (o : Obj) : DcOw (w.alloc o) base v d := by
  obtain ⟨vx, vp, vh, rfl, h1, h2, h3⟩ := h
  exact ⟨vx, vp, vh, rfl, h1.alloc o, h2.alloc o, h3.alloc o⟩
/-- A doc of the call's own. -/
def OwnsDc (w : World) (d : Dc) (e : Ending) (w' : World) : Prop := ∃ v, e = .returned v ∧ DcOw w' w.heap.size v d ∧ Below w.heap.size w w'
theorem OwnsDc.parts {w : World} {d : Dc} {e : Ending} {w' : World} (h : OwnsDc w d e w') : ∃ A1 c1 A2 c2 A3 c3, e = .returned (.agg #[.slice A1 d.X.length c1, .slice A2 d.P.length c2, .slice A3 d.H.length c3]) ∧
    DcOw w' w.heap.size (.agg #[.slice A1 d.X.length c1, .slice A2 d.P.length c2, .slice A3 d.H.length c3]) d ∧ Below w.heap.size w w' := by
  obtain ⟨v, rfl, ⟨vx, vp, vh, rfl, h1, h2, h3⟩, hb⟩ := h
  obtain ⟨A1, c1, rfl⟩ := h1.form
  obtain ⟨A2, c2, rfl⟩ := h2.form
  obtain ⟨A3, c3, rfl⟩ := h3.form
  exact ⟨A1, c1, A2, c2, A3, c3, rfl, ⟨_, _, _, rfl, h1, h2, h3⟩, hb⟩

set_option maxRecDepth 100000 in
theorem to_doc (v : Value) (d : Dc) (w : World) (hv : DcAt w w.heap.size v d) (h1 : d.X.length ≤ 1048576) (h2 : d.P.length ≤ 1048576) (h3 : d.H.length ≤ 1048576) :
    Calls Try.prog 20 #[v] w (OwnsDc w d) := by
  obtain ⟨vx, vp, vh, rfl, hx, hp, hh⟩ := hv
  have H1 := Lib.hid (fun W (hb : Below w.heap.size w W) => to_items vx d.X W ((hx.below hb).more hb.size) h1)
  have H2 := Lib.hid (fun W (hb : Below w.heap.size w W) => to_items vp d.P W ((hp.below hb).more hb.size) h2)
  have H3 := Lib.hid (fun W (hb : Below w.heap.size w W) => to_ids vh d.H W ((hh.below hb).more hb.size) h3)
  clear hx hp hh h1 h2 h3
  go_enter Try.func20, Try.ntmps20
  go_wp2_with fail
  refine (H1.out _ (by (repeat (first | with_reducible refine bset ?_ _ (by omega) | with_reducible refine ball ?_ _ (by first | exact Nat.le_refl _ | (simp only [World.size_alloc, World.size_setCell]; omega)) | with_reducible exact Below.refl _ _ | with_reducible refine Below.drew ?_)))).mono ?_
  rintro e w1 ⟨v1, rfl, ho1, hb1⟩
  obtain ⟨A1, c1, rfl⟩ := ho1.form
  have hz := hb1.size
  simp only [World.size_alloc] at hz
  have hs1 : w.heap.size + 1 + 1 < w1.heap.size := by omega
  have g0 : w1.heap[w.heap.size]? = _ := keep_blk hb1 (alloc_there (alloc_there (heap_alloc_new w _) _) _)
  have g1 : w1.heap[w.heap.size + 1]? = _ := keep_blk hb1 (alloc_there (heap_two w _ _) _)
  have g2 : w1.heap[w.heap.size + 1 + 1]? = _ := keep_blk hb1 (heap_three w _ _ _)
  have HB := Lib.hid (show Below w.heap.size w w1 from below_call (by (repeat (first | with_reducible refine bset ?_ _ (by omega) | with_reducible refine ball ?_ _ (by first | exact Nat.le_refl _ | (simp only [World.size_alloc, World.size_setCell]; omega)) | with_reducible exact Below.refl _ _ | with_reducible refine Below.drew ?_))) (by (first | (simp; done) | (simp; omega) | omega)) hb1)
  have HO1 := Lib.hid (ho1.base (base' := w.heap.size + 1 + 1 + 1) (by simp only [World.size_alloc]; omega))
  have HG0 := Lib.hid g0; have HG1 := Lib.hid g1; have HG2 := Lib.hid g2
  obtain ⟨k0, k1, k2⟩ := box3 g0
  obtain ⟨d0, d1, d2⟩ := box3 g2
  have f2 := box_any g2
  clear ho1 hb1 g0 g1 g2 hz
  go_wp2_with fail
  refine (H2.out _ (bset HB.out _ (by omega))).mono ?_
  rintro e w2 ⟨v2, rfl, ho2, hb2⟩
  obtain ⟨A2, c2, rfl⟩ := ho2.form
  have hz := hb2.size
  simp only [World.size_setCell] at hz
  have hs2 : w.heap.size + 1 + 1 < w2.heap.size := by omega
  have g0 : w2.heap[w.heap.size]? = _ := keep_blk hb2 (set_there HG0.out _ (by omega))
  have g1 : w2.heap[w.heap.size + 1]? = _ := keep_blk hb2 (set_there HG1.out _ (by omega))
  have g2 : w2.heap[w.heap.size + 1 + 1]? = _ := keep_blk hb2 (block_set HG2.out _ _)
  replace HB := Lib.hid (show Below w.heap.size w w2 from below_call (bset HB.out _ (by omega)) (by simp only [World.size_setCell]; omega) hb2)
  replace HO1 := Lib.hid ((HO1.out.far (p := ⟨w.heap.size + 1 + 1, 0, none⟩) (by simp only; omega) (.slice A1 d.X.length c1)).lift hb2)
  have HO2 := Lib.hid (ho2.base (base' := w.heap.size + 1 + 1 + 1) (by simp only [World.size_setCell]; omega))
  replace HG0 := Lib.hid g0; replace HG1 := Lib.hid g1; replace HG2 := Lib.hid g2
  clear k0 k1 k2 d0 d1 d2 f2
  obtain ⟨k0, k1, k2⟩ := box3 g0
  obtain ⟨d0, d1, d2⟩ := box3 g2
  have f2 := box_any g2
  clear ho2 hb2 g0 g1 g2 hz hs1
  go_wp2_with fail
  refine (H3.out _ (bset HB.out _ (by omega))).mono ?_
  rintro e w3 ⟨v3, rfl, ho3, hb3⟩
  obtain ⟨A3, c3, rfl⟩ := ho3.form
  have hz := hb3.size
  simp only [World.size_setCell] at hz
  have hs3 : w.heap.size + 1 + 1 < w3.heap.size := by omega
  have g0 : w3.heap[w.heap.size]? = _ := keep_blk hb3 (set_there HG0.out _ (by omega))
  have g1 : w3.heap[w.heap.size + 1]? = _ := keep_blk hb3 (set_there HG1.out _ (by omega))
  have g2 : w3.heap[w.heap.size + 1 + 1]? = _ := keep_blk hb3 (block_set HG2.out _ _)
  replace HB := Lib.hid (show Below w.heap.size w w3 from below_call (bset HB.out _ (by omega)) (by simp only [World.size_setCell]; omega) hb3)
  replace HO1 := Lib.hid ((HO1.out.far (p := ⟨w.heap.size + 1 + 1, 1, none⟩) (by simp only; omega) (.slice A2 d.P.length c2)).lift hb3)
  replace HO2 := Lib.hid ((HO2.out.far (p := ⟨w.heap.size + 1 + 1, 1, none⟩) (by simp only; omega) (.slice A2 d.P.length c2)).lift hb3)
  have HO3 := Lib.hid (ho3.base (base' := w.heap.size + 1 + 1 + 1) (by simp only [World.size_setCell]; omega))
  replace HG0 := Lib.hid g0; replace HG1 := Lib.hid g1; replace HG2 := Lib.hid g2
  clear k0 k1 k2 d0 d1 d2 f2
  obtain ⟨k0, k1, k2⟩ := box3 g0
  obtain ⟨d0, d1, d2⟩ := box3 g2
  obtain ⟨r0, r1, r2⟩ := box3 g1
  have f2 := box_any g2
  have f1 := box_any g1
  clear ho3 hb3 g0 g1 g2 hz hs2
  go_wp2
  refine bodyPost_ret (v := .agg #[.slice A1 d.X.length c1, .slice A2 d.P.length c2, .slice A3 d.H.length c3]) (by simp [results, Try.results20, go_sem, *]) rfl ⟨_, rfl, ⟨_, _, _, rfl, ?_, ?_, ?_⟩, ?_⟩
  case refine_4 =>
    refine HB.out.trans ?_
    (repeat (first | with_reducible refine bset ?_ _ (by omega) | with_reducible refine ball ?_ _ (by first | exact Nat.le_refl _ | (simp only [World.size_alloc, World.size_setCell]; omega)) | with_reducible exact Below.refl _ _ | with_reducible refine Below.drew ?_))
  all_goals
    refine Ow.base (base := w.heap.size + 1 + 1 + 1) ?_ (by omega)
    repeat (first | with_reducible refine ofar ?_ _ (by omega) | with_reducible exact HO1.out | with_reducible exact HO2.out | with_reducible exact HO3.out)

end Go.Proofs.Ytghiipoeedfkhaa
