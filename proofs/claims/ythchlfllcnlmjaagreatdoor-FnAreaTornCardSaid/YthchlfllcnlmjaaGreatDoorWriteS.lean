/-
  The contract of the model's DiskWrite.
-/
import Derived.Test.YthchlfllcnlmjaaGreatDoorBase2
import Derived.Test.YthchlfllcnlmjaaGreatDoorCopy
import Derived.Test.YthchlfllcnlmjaaGreatDoorRite
import Derived.Test.YthchlfllcnlmjaaGreatDoorBase1
namespace Go.Proofs.YthchlfllcnlmjaaGreatDoor
open Go.ChangeShapes Go.WideShapes Go.ChangeAt Go.RowKit

set_option maxRecDepth 100000 in
set_option maxHeartbeats 2000000 in
theorem spec_write (v : Value) (d : Dk) (a : Int) (t : ByteArray) (w : World) (hv : DkAt w w.heap.size v d) (hd : Small d) (ht : t.size ≤ 1048576) :
    Calls Tryz.prog 53 #[v, .int .i64 a, .string t] w (OwnsDo w (writeDo d a t)) := by
  obtain ⟨vs, vp, rfl, hs, hp⟩ := hv
  obtain ⟨A1, c1, rfl⟩ := hs.form
  obtain ⟨A2, c2, rfl⟩ := hp.form
  obtain ⟨d1, _, d3, _, _⟩ := hd
  have HV := Lib.hid (show DkAt w w.heap.size (.agg #[.slice A1 d.S.length c1, .slice A2 d.P.length c2]) d from ⟨_, _, rfl, hs, hp⟩)
  clear hs hp
  by_cases h8 : 8000 < t.size
  · have HE := Lib.hid (write_size (d := d) (a := a) h8)
    have h8' : 8000 < (t.size : Int) := by omega
    go_enter Tryz.func53, Tryz.ntmps53
    go_wp2_with fail
    refine (spec_ill 2 _).mono ?_
    rintro e w1 ⟨rfl, hb1⟩
    obtain ⟨hc, hf⟩ := bcell hb1
    have HB1 := Lib.hid (below_call (((Below.refl w.heap.size w).alloc (Nat.le_refl _) _).alloc (by simp) _) (by simp only [World.size_alloc]; omega) hb1)
    clear hb1
    go_wp2
    refine bodyPost_ret (v := .agg #[.slice none 0 0, .slice none 0 0, .string ⟨#[]⟩, .int .i64 2]) (by simp [results, Tryz.results53, go_sem, hc]) rfl ⟨_, rfl, ?_, ?_⟩
    · rw [HE.out]; exact do_ill _ _ _
    · repeat (refine Below.setCell ?_ (by simp only; omega) _)
      exact HB1.out
  · have h8' : ¬ 8000 < (t.size : Int) := by omega
    by_cases hR : Right d
    · have H1 := Lib.hid (fun W (hb : Below w.heap.size w W) => spec_right_yes _ d W ((HV.out.below hb).more hb.size) d1 d3 hR)
      by_cases h64 : t.size ≤ 64
      · have h64' : ¬ 64 < (t.size : Int) := by omega
        have e1 : IntKind.i64.wrap ((d.S.length : Int) - 1) = (d.S.length : Int) - 1 := IntWalk.i64_in _ (by omega)
        by_cases hA : 0 ≤ a ∧ a < d.S.length
        · by_cases hf : d.P.length = 200
          · have HE := Lib.hid (write_full hR h64 hA hf)
            have hf' : 200 ≤ (d.P.length : Int) := by omega
            clear hf
            go_enter Tryz.func53, Tryz.ntmps53
            go_wp2_with fail
            refine (H1.out _ (((Below.refl _ _).alloc (Nat.le_refl _) _).alloc (by simp) _)).mono ?_
            rintro e w1 ⟨rfl, hb1⟩
            have HB1 := Lib.hid (below_call (((Below.refl w.heap.size w).alloc (Nat.le_refl _) _).alloc (by simp) _) (by simp only [World.size_alloc]; omega) hb1)
            have HG0 := Lib.hid (keep_blk hb1 (alloc_blk (heap_alloc_new _ _) _))
            have HG1 := Lib.hid (keep_blk hb1 (heap_two _ _ _))
            obtain ⟨x0, x1⟩ := box2 HG0.out
            clear hb1
            go_wp2_with fail
            refine (spec_is_yes _ _ _ _ hA.1 (by omega)).mono ?_
            rintro e w' ⟨rfl, rfl⟩
            go_wp2_with fail
            refine (spec_ill 9 _).mono ?_
            rintro e w2 ⟨rfl, hb2⟩
            have K2 := Lib.hid (keep_blk hb2 HG1.out)
            obtain ⟨z0, z1, z2, z3⟩ := box4 K2.out
            have f0 := block_free K2.out 0
            have f1 := block_free K2.out 1
            have f2 := block_free K2.out 2
            have f3 := block_free K2.out 3
            have HB2 := Lib.hid (below_call HB1.out HB1.out.size hb2)
            clear hb2
            go_wp2
            refine bodyPost_ret (v := .agg #[.slice none 0 0, .slice none 0 0, .string ⟨#[]⟩, .int .i64 9]) (by simp [results, Tryz.results53, go_sem, z0, z1, z2, z3]) rfl ⟨_, rfl, ?_, ?_⟩
            · rw [HE.out]; exact do_ill _ _ _
            · repeat (refine Below.setCell ?_ (by simp only; omega) _)
              exact HB2.out
          · have HE := Lib.hid (write_ok hR h64 hA hf)
            have hf' : ¬ 200 ≤ (d.P.length : Int) := by have := hR.2.2.1; omega
            clear hf
            have HC := Lib.hid (fun W (hb : Below w.heap.size w W) => spec_copy _ d W ((HV.out.below hb).more hb.size) (by omega) (by omega))
            go_enter Tryz.func53, Tryz.ntmps53
            go_wp2_with fail
            refine (H1.out _ (((Below.refl _ _).alloc (Nat.le_refl _) _).alloc (by simp) _)).mono ?_
            rintro e w1 ⟨rfl, hb1⟩
            have HB1 := Lib.hid (below_call (((Below.refl w.heap.size w).alloc (Nat.le_refl _) _).alloc (by simp) _) (by simp only [World.size_alloc]; omega) hb1)
            have HG0 := Lib.hid (keep_blk hb1 (alloc_blk (heap_alloc_new _ _) _))
            have HG1 := Lib.hid (keep_blk hb1 (heap_two _ _ _))
            obtain ⟨x0, x1⟩ := box2 HG0.out
            clear hb1
            go_wp2_with fail
            refine (spec_is_yes _ _ _ _ hA.1 (by omega)).mono ?_
            rintro e w' ⟨rfl, rfl⟩
            go_wp2_with fail
            refine (HC.out _ HB1.out).mono ?_
            intro e w2 h2
            obtain ⟨B1, e1', B2, e2', rfl, ho2, hb2⟩ := h2.parts
            have HO2 := Lib.hid ho2
            have HB2 := Lib.hid (below_call HB1.out HB1.out.size hb2)
            have KG1 := Lib.hid (keep_blk hb2 HG1.out)
            have hz1 : w.heap.size + 1 < w2.heap.size := block_lt KG1.out
            have hz2 := hb2.size
            clear h2 ho2 hb2 x0 x1
            obtain ⟨vs', vp', ev, hos, hop⟩ := HO2.out
            simp only [Value.agg.injEq, Array.mk.injEq, List.cons.injEq, and_true] at ev
            obtain ⟨rfl, rfl⟩ := ev
            have HOS := Lib.hid hos; have HOP := Lib.hid hop
            clear hos hop
            go_wp2_with (at_builtin; refine list_append_sl pendType _ rfl (.tmp 37) (.tmp 41) rfl w1.heap.size (.slice B2 d.P.length e2') d.P.length _ rfl (World.ownsRow.alloc (World.ownsRow.alloc HOP.out _) _) _ encP _ [(a, t)] rfl (sl_single (heap_two _ _ _) 2 encP (a, t) rfl) encP_len encP_one (by simp; unfold maxLen; omega) (by simp; omega) (by simp; omega) ?_; intro v3 w3 g3; obtain ⟨A', c', rfl⟩ := g3.form; have K7 := Lib.hid ((g3.2.1.block w2.heap.size (by simp; omega) (fun e => by have := (World.ownsRow.lt HOP.out _ e.symm).2; omega)).trans (alloc_blk (heap_alloc_new _ _) _)); have KG3 := Lib.hid ((g3.2.1.block (w.heap.size + 1) (by simp; omega) (fun e => by have := (World.ownsRow.lt HOP.out _ e.symm).1; have := HB1.out.size; have := block_lt HG1.out; omega)).trans (alloc_blk (alloc_blk KG1.out _) _)); have GS := Lib.hid (g3.other (World.ownsRow.alloc (World.ownsRow.alloc HOS.out _) _) (World.ownsRow.alloc (World.ownsRow.alloc HOP.out _) _) (by decide)); have GO := Lib.hid g3.1; have GW := Lib.hid g3.2.2; have GB := Lib.hid (g3.below (B := w1.heap.size) (fun g hg => (World.ownsRow.lt HOP.out g hg).1) (by simp; omega)); obtain ⟨q0, q1⟩ := box2 K7.out; obtain ⟨qf0, qf1, _, _⟩ := box_frozen K7.out; obtain ⟨z0, z1, z2, z3⟩ := box4 KG3.out; obtain ⟨f0, f1, f2, f3⟩ := box_frozen KG3.out; clear g3)
            have HB3 := Lib.hid (((HB2.out.alloc HB2.out.size (.cells #[.slice B1 d.S.length e1', .slice B2 d.P.length e2'] 26)).alloc (by have := HB2.out.size; simp only [World.size_alloc]; omega) (.cells #[.int .i64 a, .string t] 84)).trans (GB.out.mono HB1.out.size))
            have hw1 := block_lt HG1.out
            refine bodyPost_ret (v := .agg #[.slice B1 d.S.length e1', .slice A' (d.P.length + 1) c', .string ⟨#[]⟩, .int .i64 0]) (by simp [results, Tryz.results53, go_sem, z0, z1, z2, z3]) rfl ⟨_, rfl, ?_, ?_⟩
            · rw [HE.out]
              refine ⟨_, _, rfl, _, _, rfl, ?_, ?_⟩
              · have h := show Ow w3 w1.heap.size 9 1 encS (.slice B1 d.S.length e1') d.S from GS.out
                refine Ow.base (base := w1.heap.size) ?_ (by omega)
                repeat (refine Ow.far ?_ (by simp only; omega) _)
                exact h.aside (fun g hg => by have := (World.ownsRow.lt HOS.out g hg).2; simp only; omega) _
              · have h := show Ow w3 w1.heap.size 84 2 encP (.slice A' (d.P.length + 1) c') (d.P ++ [(a, t)]) from (by unfold Ow; rw [List.length_append, List.flatMap_append]; exact GO.out)
                refine Ow.base (base := w1.heap.size) ?_ (by omega)
                repeat (refine Ow.far ?_ (by simp only; omega) _)
                exact h.aside (fun g hg => by
                  rcases GW.out with e | e
                  · have := (World.ownsRow.lt HOP.out g (e ▸ hg)).2; simp only; omega
                  · have h2 := e.symm.trans hg; simp at h2; simp only; omega) _
            · repeat (refine Below.setCell ?_ (by simp only; omega) _)
              exact HB3.out
        · have HE := Lib.hid (write_range hR h64 hA)
          go_enter Tryz.func53, Tryz.ntmps53
          go_wp2_with fail
          refine (H1.out _ (((Below.refl _ _).alloc (Nat.le_refl _) _).alloc (by simp) _)).mono ?_
          rintro e w1 ⟨rfl, hb1⟩
          have HB1 := Lib.hid (below_call (((Below.refl w.heap.size w).alloc (Nat.le_refl _) _).alloc (by simp) _) (by simp only [World.size_alloc]; omega) hb1)
          have HG0 := Lib.hid (keep_blk hb1 (alloc_blk (heap_alloc_new _ _) _))
          have HG1 := Lib.hid (keep_blk hb1 (heap_two _ _ _))
          obtain ⟨x0, x1⟩ := box2 HG0.out
          clear hb1
          go_wp2_with fail
          refine (spec_is_no _ _ _ _ (by omega)).mono ?_
          rintro e w' ⟨rfl, rfl⟩
          go_wp2_with fail
          refine (spec_ill 8 _).mono ?_
          rintro e w2 ⟨rfl, hb2⟩
          have K2 := Lib.hid (keep_blk hb2 HG1.out)
          obtain ⟨z0, z1, z2, z3⟩ := box4 K2.out
          have f0 := block_free K2.out 0
          have f1 := block_free K2.out 1
          have f2 := block_free K2.out 2
          have f3 := block_free K2.out 3
          have HB2 := Lib.hid (below_call HB1.out HB1.out.size hb2)
          clear hb2
          go_wp2
          refine bodyPost_ret (v := .agg #[.slice none 0 0, .slice none 0 0, .string ⟨#[]⟩, .int .i64 8]) (by simp [results, Tryz.results53, go_sem, z0, z1, z2, z3]) rfl ⟨_, rfl, ?_, ?_⟩
          · rw [HE.out]; exact do_ill _ _ _
          · repeat (refine Below.setCell ?_ (by simp only; omega) _)
            exact HB2.out
      · have HE := Lib.hid (write_form (d := d) (a := a) h8 (fun h => h64 h.2))
        have h64' : 64 < (t.size : Int) := by omega
        go_enter Tryz.func53, Tryz.ntmps53
        go_wp2_with fail
        refine (H1.out _ (((Below.refl _ _).alloc (Nat.le_refl _) _).alloc (by simp) _)).mono ?_
        rintro e w1 ⟨rfl, hb1⟩
        have HB1 := Lib.hid (below_call (((Below.refl w.heap.size w).alloc (Nat.le_refl _) _).alloc (by simp) _) (by simp only [World.size_alloc]; omega) hb1)
        have HG0 := Lib.hid (keep_blk hb1 (alloc_blk (heap_alloc_new _ _) _))
        have HG1 := Lib.hid (keep_blk hb1 (heap_two _ _ _))
        obtain ⟨x0, x1⟩ := box2 HG0.out
        clear hb1
        go_wp2_with fail
        refine (spec_ill 1 _).mono ?_
        rintro e w2 ⟨rfl, hb2⟩
        have K2 := Lib.hid (keep_blk hb2 HG1.out)
        obtain ⟨z0, z1, z2, z3⟩ := box4 K2.out
        have f0 := block_free K2.out 0
        have f1 := block_free K2.out 1
        have f2 := block_free K2.out 2
        have f3 := block_free K2.out 3
        have HB2 := Lib.hid (below_call HB1.out HB1.out.size hb2)
        clear hb2
        go_wp2
        refine bodyPost_ret (v := .agg #[.slice none 0 0, .slice none 0 0, .string ⟨#[]⟩, .int .i64 1]) (by simp [results, Tryz.results53, go_sem, z0, z1, z2, z3]) rfl ⟨_, rfl, ?_, ?_⟩
        · rw [HE.out]; exact do_ill _ _ _
        · repeat (refine Below.setCell ?_ (by simp only; omega) _)
          exact HB2.out
    · have HE := Lib.hid (write_form (d := d) (a := a) h8 (fun h => hR h.1))
      have H1 := Lib.hid (fun W (hb : Below w.heap.size w W) => spec_right_no _ d W ((HV.out.below hb).more hb.size) d1 d3 hR)
      go_enter Tryz.func53, Tryz.ntmps53
      go_wp2_with fail
      refine (H1.out _ (((Below.refl _ _).alloc (Nat.le_refl _) _).alloc (by simp) _)).mono ?_
      rintro e w1 ⟨rfl, hb1⟩
      have HB1 := Lib.hid (below_call (((Below.refl w.heap.size w).alloc (Nat.le_refl _) _).alloc (by simp) _) (by simp only [World.size_alloc]; omega) hb1)
      have HG0 := Lib.hid (keep_blk hb1 (alloc_blk (heap_alloc_new _ _) _))
      have HG1 := Lib.hid (keep_blk hb1 (heap_two _ _ _))
      obtain ⟨x0, x1⟩ := box2 HG0.out
      clear hb1
      go_wp2_with fail
      refine (spec_ill 1 _).mono ?_
      rintro e w2 ⟨rfl, hb2⟩
      have K2 := Lib.hid (keep_blk hb2 HG1.out)
      obtain ⟨z0, z1, z2, z3⟩ := box4 K2.out
      have f0 := block_free K2.out 0
      have f1 := block_free K2.out 1
      have f2 := block_free K2.out 2
      have f3 := block_free K2.out 3
      have HB2 := Lib.hid (below_call HB1.out HB1.out.size hb2)
      clear hb2
      go_wp2
      refine bodyPost_ret (v := .agg #[.slice none 0 0, .slice none 0 0, .string ⟨#[]⟩, .int .i64 1]) (by simp [results, Tryz.results53, go_sem, z0, z1, z2, z3]) rfl ⟨_, rfl, ?_, ?_⟩
      · rw [HE.out]; exact do_ill _ _ _
      · repeat (refine Below.setCell ?_ (by simp only; omega) _)
        exact HB2.out

end Go.Proofs.YthchlfllcnlmjaaGreatDoor
