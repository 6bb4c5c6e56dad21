/-
  The copy of an input's doc, its rows of items apart.
-/
import Derived.Test.YtaggmcdfggmlhaaToDoc
namespace Go.Proofs.Ytaggmcdfggmlhaa
set_option linter.unusedSimpArgs false
set_option linter.unusedVariables false
open Go.ChangeShapes Go.WideShapes Go.ChangeAt Go.RowKit

theorem own_some {w : World} {base : Nat} {v : Value} {L : List Im} (h : Ow w base 91 8 encM v L) (h0 : 0 < L.length) : ∃ q, v.ownBlock = some q := by
  rcases h.2 with ⟨_, e⟩ | ⟨g, cap, cur, rfl, _⟩
  · omega
  · exact ⟨g, rfl⟩
/-- The rows of items lie in two blocks. -/
def ApartC (v : Value) (d : Dc) : Prop := ∀ vx vp vh, v = .agg #[vx, vp, vh] → 0 < d.X.length → 0 < d.P.length → vx.ownBlock ≠ vp.ownBlock
def OwnsDcA (w : World) (d : Dc) (e : Ending) (w' : World) : Prop := ∃ v, e = .returned v ∧ DcOw w' w.heap.size v d ∧ ApartC v d ∧ Below w.heap.size w w'

set_option maxRecDepth 100000 in
set_option maxHeartbeats 4000000 in
theorem to_doc2 (v : Value) (d : Dc) (w : World) (hv : DcAt w w.heap.size v d) (h1 : d.X.length ≤ 1048576) (h2 : d.P.length ≤ 1048576) (h3 : d.H.length ≤ 1048576) :
    Calls Try.prog 22 #[v] w (OwnsDcA w d) := by
  obtain ⟨vx, vp, vh, rfl, hx, hp, hh⟩ := hv
  have H1 := Lib.hid (fun W (hb : Below w.heap.size w W) => to_items vx d.X W ((hx.below hb).more hb.size) h1)
  have H2 := Lib.hid (fun W (hb : Below w.heap.size w W) => to_items vp d.P W ((hp.below hb).more hb.size) h2)
  have H3 := Lib.hid (fun W (hb : Below w.heap.size w W) => to_ids vh d.H W ((hh.below hb).more hb.size) h3)
  clear hx hp hh h1 h2 h3
  go_enter Try.func22, Try.ntmps22
  go_wp2_with fail
  refine (H1.out _ (by (repeat (first | with_reducible refine bset ?_ _ (by omega) | with_reducible refine ball ?_ _ (by first | exact Nat.le_refl _ | (simp only [World.size_alloc, World.size_setCell]; omega)) | with_reducible exact Below.refl _ _ | with_reducible refine Below.drew ?_)))).mono ?_
  rintro e w1 ⟨v1, rfl, ho1, hb1⟩
  obtain ⟨A1, c1, rfl⟩ := ho1.form
  have hz := hb1.size
  simp only [World.size_alloc] at hz
  have hs1 : w.heap.size + 1 + 1 < w1.heap.size := by omega
  have g0 : w1.heap[w.heap.size]? = _ := keep_blk hb1 (alloc_there (alloc_there (heap_alloc_new w _) _) _)
  have g1 : w1.heap[w.heap.size + 1]? = _ := keep_blk hb1 (alloc_there (heap_two w _ _) _)
  have g2 : w1.heap[w.heap.size + 1 + 1]? = _ := keep_blk hb1 (heap_three w _ _ _)
  have HB := Lib.hid (show Below w.heap.size w w1 from below_call (by (repeat (first | with_reducible refine bset ?_ _ (by omega) | with_reducible refine ball ?_ _ (by first | exact Nat.le_refl _ | (simp only [World.size_alloc, World.size_setCell]; omega)) | with_reducible exact Below.refl _ _ | with_reducible refine Below.drew ?_))) (by (first | (simp; done) | (simp; omega) | omega)) hb1)
  have HO1 := Lib.hid (ho1.base (base' := w.heap.size + 1 + 1 + 1) (by simp only [World.size_alloc]; omega))
  have HLI := Lib.hid (fun h => own_some ho1 h)
  have HLQ := Lib.hid (fun q l => (ho1.lies q l).2)
  have HG0 := Lib.hid g0; have HG1 := Lib.hid g1; have HG2 := Lib.hid g2
  obtain ⟨k0, k1, k2⟩ := box3 g0
  obtain ⟨d0, d1, d2⟩ := box3 g2
  have f2 := box_any g2
  clear ho1 hb1 g0 g1 g2 hz
  go_wp2_with fail
  refine (H2.out _ (bset HB.out _ (by omega))).mono ?_
  rintro e w2 ⟨v2, rfl, ho2, hb2⟩
  obtain ⟨A2, c2, rfl⟩ := ho2.form
  have hz := hb2.size
  simp only [World.size_setCell] at hz
  have hs2 : w.heap.size + 1 + 1 < w2.heap.size := by omega
  have g0 : w2.heap[w.heap.size]? = _ := keep_blk hb2 (set_there HG0.out _ (by omega))
  have g1 : w2.heap[w.heap.size + 1]? = _ := keep_blk hb2 (set_there HG1.out _ (by omega))
  have g2 : w2.heap[w.heap.size + 1 + 1]? = _ := keep_blk hb2 (block_set HG2.out _ _)
  replace HB := Lib.hid (show Below w.heap.size w w2 from below_call (bset HB.out _ (by omega)) (by simp only [World.size_setCell]; omega) hb2)
  replace HO1 := Lib.hid ((HO1.out.far (p := ⟨w.heap.size + 1 + 1, 0, none⟩) (by simp only; omega) (.slice A1 d.X.length c1)).lift hb2)
  have HO2 := Lib.hid (ho2.base (base' := w.heap.size + 1 + 1 + 1) (by simp only [World.size_setCell]; omega))
  have HAP := Lib.hid (show 0 < d.X.length → 0 < d.P.length → (Value.slice A1 d.X.length c1).ownBlock ≠ (Value.slice A2 d.P.length c2).ownBlock from fun h1 h2 => by
    obtain ⟨q1, l1⟩ := HLI.out h1
    obtain ⟨q2, l2⟩ := own_some ho2 h2
    rw [l1, l2]
    intro e
    simp only [Option.some.injEq] at e
    have := HLQ.out q1 l1
    have := ho2.lies q2 l2
    simp only [World.size_setCell] at this
    omega)
  clear HLI HLQ
  replace HG0 := Lib.hid g0; replace HG1 := Lib.hid g1; replace HG2 := Lib.hid g2
  clear k0 k1 k2 d0 d1 d2 f2
  obtain ⟨k0, k1, k2⟩ := box3 g0
  obtain ⟨d0, d1, d2⟩ := box3 g2
  have f2 := box_any g2
  clear ho2 hb2 g0 g1 g2 hz hs1
  go_wp2_with fail
  refine (H3.out _ (bset HB.out _ (by omega))).mono ?_
  rintro e w3 ⟨v3, rfl, ho3, hb3⟩
  obtain ⟨A3, c3, rfl⟩ := ho3.form
  have hz := hb3.size
  simp only [World.size_setCell] at hz
  have hs3 : w.heap.size + 1 + 1 < w3.heap.size := by omega
  have g0 : w3.heap[w.heap.size]? = _ := keep_blk hb3 (set_there HG0.out _ (by omega))
  have g1 : w3.heap[w.heap.size + 1]? = _ := keep_blk hb3 (set_there HG1.out _ (by omega))
  have g2 : w3.heap[w.heap.size + 1 + 1]? = _ := keep_blk hb3 (block_set HG2.out _ _)
  replace HB := Lib.hid (show Below w.heap.size w w3 from below_call (bset HB.out _ (by omega)) (by simp only [World.size_setCell]; omega) hb3)
  replace HO1 := Lib.hid ((HO1.out.far (p := ⟨w.heap.size + 1 + 1, 1, none⟩) (by simp only; omega) (.slice A2 d.P.length c2)).lift hb3)
  replace HO2 := Lib.hid ((HO2.out.far (p := ⟨w.heap.size + 1 + 1, 1, none⟩) (by simp only; omega) (.slice A2 d.P.length c2)).lift hb3)
  have HO3 := Lib.hid (ho3.base (base' := w.heap.size + 1 + 1 + 1) (by simp only [World.size_setCell]; omega))
  replace HG0 := Lib.hid g0; replace HG1 := Lib.hid g1; replace HG2 := Lib.hid g2
  clear k0 k1 k2 d0 d1 d2 f2
  obtain ⟨k0, k1, k2⟩ := box3 g0
  obtain ⟨d0, d1, d2⟩ := box3 g2
  obtain ⟨r0, r1, r2⟩ := box3 g1
  have f2 := box_any g2
  have f1 := box_any g1
  clear ho3 hb3 g0 g1 g2 hz hs2
  go_wp2
  refine bodyPost_ret (v := .agg #[.slice A1 d.X.length c1, .slice A2 d.P.length c2, .slice A3 d.H.length c3]) (by simp [results, Try.results22, go_sem, *]) rfl ⟨_, rfl, ⟨_, _, _, rfl, ?_, ?_, ?_⟩, ?_, ?_⟩
  case refine_4 =>
    intro a b c e
    simp only [Value.agg.injEq, Array.mk.injEq, List.cons.injEq, and_true] at e
    obtain ⟨rfl, rfl, rfl⟩ := e
    exact HAP.out
  case refine_5 =>
    refine HB.out.trans ?_
    (repeat (first | with_reducible refine bset ?_ _ (by omega) | with_reducible refine ball ?_ _ (by first | exact Nat.le_refl _ | (simp only [World.size_alloc, World.size_setCell]; omega)) | with_reducible exact Below.refl _ _ | with_reducible refine Below.drew ?_))
  all_goals
    refine Ow.base (base := w.heap.size + 1 + 1 + 1) ?_ (by omega)
    repeat (first | with_reducible refine ofar ?_ _ (by omega) | with_reducible exact HO1.out | with_reducible exact HO2.out | with_reducible exact HO3.out)

end Go.Proofs.Ytaggmcdfggmlhaa
