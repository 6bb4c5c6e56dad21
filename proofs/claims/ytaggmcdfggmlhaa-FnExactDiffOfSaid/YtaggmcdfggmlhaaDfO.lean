/-
  DiffOf of the model.
-/
import Derived.Test.YtaggmcdfggmlhaaDfS
namespace Go.Proofs.Ytaggmcdfggmlhaa
set_option linter.unusedSimpArgs false
set_option linter.unusedVariables false
open Go.ChangeShapes Go.WideShapes Go.ChangeAt Go.RowKit

set_option maxRecDepth 100000 in
set_option maxHeartbeats 8000000 in
theorem spec_diffOf (v vl : Value) (d : Dc) (l : List Nm) (w : World) (hv : DcAt w w.heap.size v d) (hm : Sl w w.heap.size 2 encN vl l) (hf : Fit d) (hl : l.length ≤ 140737488351232) :
    Calls Try.prog 41 #[v, vl] w (OwnsUp w (diffD d l)) := by
  have HD := Lib.hid (fun W (hb : Below w.heap.size w W) => spec_docF v d W ((hv.below hb).more hb.size) hf)
  have HM := Lib.hid (fun W (hb : Below w.heap.size w W) => spec_marksR vl l W ((hm.below hb).more hb.size) hl)
  have HDF := Lib.hid (fun (h60 : d.X.length ≤ 60) (h20 : d.H.length ≤ 20) (hr : Rise nmI d.H) W (hb : Below w.heap.size w W) => spec_diff v vl d l W ((hv.below hb).more hb.size) ((hm.below hb).more hb.size) hl h60 h20 hr)
  obtain ⟨vx, vp, vh, rfl, hx, hp, hh⟩ := hv
  obtain ⟨A1, k1, rfl⟩ := hx.form; obtain ⟨A2, k2, rfl⟩ := hp.form; obtain ⟨A3, k3, rfl⟩ := hh.form
  obtain ⟨AM, kM, rfl⟩ := hm.form
  clear hx hp hh hf hm
  have hL := ((Lg.start w).alloc (.cells #[.slice A1 d.X.length k1, .slice A2 d.P.length k2, .slice A3 d.H.length k3] 29)).alloc (.cells #[.slice none 0 0, .slice none 0 0] 37)
  simp only [World.size_alloc] at hL
  have HL := Lib.hid hL; clear hL
  by_cases h400 : 400 < l.length
  · have h4 : (400 : Int) < (l.length : Int) := by omega
    have hmk : marksB l = false := marks_no (fun h => by have := h.1; omega)
    rw [diffD_no (.inr hmk)]
    clear hmk
    go_enter Try.func41, Try.ntmps41
    obtain ⟨y0, y1⟩ := box2 (HL.out.blk _ List.mem_cons_self)
    have f1 := box_any (HL.out.blk _ List.mem_cons_self)
    have HBX := Lib.hid (HL.out.blk _ List.mem_cons_self)
    go_wp2
    refine bodyPost_ret (v := .agg #[.slice none 0 0, .slice none 0 0]) ?_ rfl ⟨_, rfl, ⟨_, _, rfl, World.ownsRow_nil _ _ _ _, World.ownsRow_nil _ _ _ _⟩, ?_⟩
    · first
        | (apply res_upd (b := w.heap.size + 1) _ (by kernel_rfl)
           · rfl
           · repeat (first | with_reducible apply block_set | with_reducible exact HBX.out)
           · simp only [List.setIfInBounds_toArray, List.set_cons_zero, List.set_cons_succ])
        | (apply res_upd (b := w.heap.size + 1) _ (by kernel_rfl)
           · rfl
           · exact HBX.out
           · rfl)
    · first
        | exact HL.out.bel
        | (refine HL.out.bel.trans ?_
           (repeat (first | with_reducible refine bset ?_ _ (by omega) | with_reducible refine ball ?_ _ (by first | exact Nat.le_refl _ | (simp only [World.size_alloc, World.size_setCell]; omega)) | with_reducible exact Below.refl _ _ | with_reducible refine Below.drew ?_)))
  have h4 : ¬ (400 : Int) < (l.length : Int) := by omega
  cases hd : docB d with
  | false =>
    rw [diffD_no (.inl hd)]
    replace HD := Lib.hid (fun W hb => (HD.out W hb).mono fun _ _ h => Tell.to h hd)
    clear hd
    go_enter Try.func41, Try.ntmps41
    go_wp2_with fail
    refine (HD.out _ HL.out.bel).mono ?_
    rintro e w1 ⟨rfl, hb1⟩
    replace HL := Lib.hid (HL.out.lift hb1); clear hb1
    obtain ⟨y0, y1⟩ := box2 (HL.out.blk _ List.mem_cons_self)
    have f1 := box_any (HL.out.blk _ List.mem_cons_self)
    have HBX := Lib.hid (HL.out.blk _ List.mem_cons_self)
    go_wp2
    refine bodyPost_ret (v := .agg #[.slice none 0 0, .slice none 0 0]) ?_ rfl ⟨_, rfl, ⟨_, _, rfl, World.ownsRow_nil _ _ _ _, World.ownsRow_nil _ _ _ _⟩, ?_⟩
    · apply res_upd (b := w.heap.size + 1) _ (by kernel_rfl)
      · rfl
      · repeat (first | with_reducible apply block_set | with_reducible exact HBX.out)
      · simp only [List.setIfInBounds_toArray, List.set_cons_zero, List.set_cons_succ]
    · refine HL.out.bel.trans ?_
      (repeat (first | with_reducible refine bset ?_ _ (by omega) | with_reducible refine ball ?_ _ (by first | exact Nat.le_refl _ | (simp only [World.size_alloc, World.size_setCell]; omega)) | with_reducible exact Below.refl _ _ | with_reducible refine Below.drew ?_))
  | true =>
    replace HD := Lib.hid (fun W hb => (HD.out W hb).mono fun _ _ h => Tell.to h hd)
    cases hmk : marksB l with
    | false =>
      rw [diffD_no (.inr hmk)]
      replace HM := Lib.hid (fun W hb => (HM.out W hb).mono fun _ _ h => Tell.to h hmk)
      clear hd hmk
      go_enter Try.func41, Try.ntmps41
      go_wp2_with fail
      refine (HD.out _ HL.out.bel).mono ?_
      rintro e w1 ⟨rfl, hb1⟩
      replace HL := Lib.hid (HL.out.lift hb1); clear hb1
      go_wp2_with fail
      refine (HM.out _ HL.out.bel).mono ?_
      rintro e w1b ⟨rfl, hb1⟩
      replace HL := Lib.hid (HL.out.lift hb1); clear hb1
      obtain ⟨y0, y1⟩ := box2 (HL.out.blk _ List.mem_cons_self)
      have f1 := box_any (HL.out.blk _ List.mem_cons_self)
      have HBX := Lib.hid (HL.out.blk _ List.mem_cons_self)
      go_wp2
      refine bodyPost_ret (v := .agg #[.slice none 0 0, .slice none 0 0]) ?_ rfl ⟨_, rfl, ⟨_, _, rfl, World.ownsRow_nil _ _ _ _, World.ownsRow_nil _ _ _ _⟩, ?_⟩
      · apply res_upd (b := w.heap.size + 1) _ (by kernel_rfl)
        · rfl
        · repeat (first | with_reducible apply block_set | with_reducible exact HBX.out)
        · simp only [List.setIfInBounds_toArray, List.set_cons_zero, List.set_cons_succ]
      · refine HL.out.bel.trans ?_
        (repeat (first | with_reducible refine bset ?_ _ (by omega) | with_reducible refine ball ?_ _ (by first | exact Nat.le_refl _ | (simp only [World.size_alloc, World.size_setCell]; omega)) | with_reducible exact Below.refl _ _ | with_reducible refine Below.drew ?_))
    | true =>
      rw [diffD_yes hd hmk]
      replace HM := Lib.hid (fun W hb => (HM.out W hb).mono fun _ _ h => Tell.to h hmk)
      have hdp := (docB_iff d).1 hd
      replace HDF := Lib.hid (HDF.out hdp.1.1 hdp.2.2.1 (holes_rise hdp))
      clear hd hmk hdp
      go_enter Try.func41, Try.ntmps41
      go_wp2_with fail
      refine (HD.out _ HL.out.bel).mono ?_
      rintro e w1 ⟨rfl, hb1⟩
      replace HL := Lib.hid (HL.out.lift hb1); clear hb1
      go_wp2_with fail
      refine (HM.out _ HL.out.bel).mono ?_
      rintro e w1b ⟨rfl, hb1⟩
      replace HL := Lib.hid (HL.out.lift hb1); clear hb1
      obtain ⟨x0, x1, x2⟩ := box3 (HL.out.blk _ (List.mem_cons_of_mem _ List.mem_cons_self))
      go_wp2_with fail
      refine (HDF.out _ HL.out.bel).mono ?_
      intro e w3 h3
      obtain ⟨C1, e1, C2, e2, rfl, ho3, hb3⟩ := h3.parts
      obtain ⟨u1, u2, hu, hX, hH⟩ := ho3
      simp only [Value.agg.injEq, Array.mk.injEq, List.cons.injEq, and_true] at hu
      obtain ⟨rfl, rfl⟩ := hu
      have HX := Lib.hid (hX.base HL.out.bel.size); have HH := Lib.hid (hH.base HL.out.bel.size)
      replace HL := Lib.hid (HL.out.lift hb3)
      clear h3 hX hH hb3 x0 x1 x2
      obtain ⟨y0, y1⟩ := box2 (HL.out.blk _ List.mem_cons_self)
      have f1 := box_any (HL.out.blk _ List.mem_cons_self)
      have HBX := Lib.hid (HL.out.blk _ List.mem_cons_self)
      go_wp2
      refine bodyPost_ret (v := .agg #[.slice C1 (diffX d.X l d.X.length).length e1, .slice C2 (diffH d.X d.H d.X.length).length e2]) ?_ rfl ⟨_, rfl, ⟨_, _, rfl, ?_, ?_⟩, ?_⟩
      · apply res_upd (b := w.heap.size + 1) _ (by kernel_rfl)
        · rfl
        · repeat (first | with_reducible apply block_set | with_reducible exact HBX.out)
        · simp only [List.setIfInBounds_toArray, List.set_cons_zero, List.set_cons_succ]
      · exact own_box (own_box HX.out HBX.out (by decide) _) (block_set HBX.out _ _) (by decide) _
      · exact own_box (own_box HH.out HBX.out (by decide) _) (block_set HBX.out _ _) (by decide) _
      · refine HL.out.bel.trans ?_
        (repeat (first | with_reducible refine bset ?_ _ (by omega) | with_reducible refine ball ?_ _ (by first | exact Nat.le_refl _ | (simp only [World.size_alloc, World.size_setCell]; omega)) | with_reducible exact Below.refl _ _ | with_reducible refine Below.drew ?_))

end Go.Proofs.Ytaggmcdfggmlhaa
