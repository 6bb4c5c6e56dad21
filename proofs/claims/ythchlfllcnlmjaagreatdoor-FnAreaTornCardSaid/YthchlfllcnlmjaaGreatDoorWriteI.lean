/-
  The contract of the program's DiskWrite.
-/
import Derived.Test.YthchlfllcnlmjaaGreatDoorBase2
import Derived.Test.YthchlfllcnlmjaaGreatDoorAnew
import Derived.Test.YthchlfllcnlmjaaGreatDoorRite
namespace Go.Proofs.YthchlfllcnlmjaaGreatDoor
open Go.ChangeShapes Go.WideShapes Go.ChangeAt Go.RowKit

set_option maxRecDepth 100000 in
set_option maxHeartbeats 4000000 in
theorem impl_write (v : Value) (d : Dk) (a : Int) (t : ByteArray) (w : World) (hv : DkAt w w.heap.size v d) (hd : Small d) (ht : t.size ≤ 1048576) :
    Calls Tryz.prog 42 #[v, .int .i64 a, .string t] w (OwnsDo w (writeDo d a t)) := by
  obtain ⟨vs, vp, rfl, hs, hp⟩ := hv
  obtain ⟨A1, c1, rfl⟩ := hs.form
  obtain ⟨A2, c2, rfl⟩ := hp.form
  have HSM := Lib.hid hd
  obtain ⟨d1, _, d3, _, _⟩ := hd
  have HV := Lib.hid (show DkAt w w.heap.size (.agg #[.slice A1 d.S.length c1, .slice A2 d.P.length c2]) d from ⟨_, _, rfl, hs, hp⟩)
  clear hs hp
  by_cases h8 : 8000 < t.size
  · have HE := Lib.hid (write_size (d := d) (a := a) h8)
    have h8' : 8000 < (t.size : Int) := by omega
    go_enter Tryz.func42, Tryz.ntmps42
    go_wp2
    refine bodyPost_ret (v := .agg #[.slice none 0 0, .slice none 0 0, .string ⟨#[]⟩, .int .i64 2]) (by simp [results, Tryz.results42, go_sem]) rfl ⟨_, rfl, ?_, ?_⟩
    · rw [HE.out]; exact do_ill _ _ _
    · exact ((Below.refl _ _).alloc (Nat.le_refl _) _).alloc (by simp) _
  · have h8' : ¬ 8000 < (t.size : Int) := by omega
    by_cases hR : Right d
    · have H1 := Lib.hid (fun W (hb : Below w.heap.size w W) => impl_right_yes _ d W ((HV.out.below hb).more hb.size) d1 d3 hR)
      by_cases h64 : t.size ≤ 64
      · by_cases hA : 0 ≤ a ∧ a < d.S.length
        · by_cases hf : d.P.length = 200
          · have HE := Lib.hid (write_full hR h64 hA hf)
            have hf' : ((d.P.length : Int) == 200) = true := by simp; omega
            clear hf
            go_enter Tryz.func42, Tryz.ntmps42
            go_wp2_with fail
            refine (H1.out _ (((Below.refl _ _).alloc (Nat.le_refl _) _).alloc (by simp) _)).mono ?_
            rintro e w1 ⟨rfl, hb1⟩
            have HB1 := Lib.hid (below_call (((Below.refl w.heap.size w).alloc (Nat.le_refl _) _).alloc (by simp) _) (by simp only [World.size_alloc]; omega) hb1)
            have HG0 := Lib.hid (keep_blk hb1 (alloc_blk (heap_alloc_new _ _) _))
            have HG1 := Lib.hid (keep_blk hb1 (heap_two _ _ _))
            obtain ⟨x0, x1⟩ := box2 HG0.out
            clear hb1
            go_wp2_with fail
            refine (impl_fits_yes _ _ h64).mono ?_
            rintro e w' ⟨rfl, rfl⟩
            go_wp2_with fail
            refine (impl_has_yes _ _ _ _ a _ hA.1 hA.2).mono ?_
            rintro e w2 ⟨rfl, hb2⟩
            have HB2 := Lib.hid (below_call HB1.out HB1.out.size hb2)
            have KG0 := Lib.hid (keep_blk hb2 HG0.out)
            have KG1 := Lib.hid (keep_blk hb2 HG1.out)
            clear hb2 x0 x1
            obtain ⟨x0, x1⟩ := box2 KG0.out
            obtain ⟨z0, z1, z2, z3⟩ := box4 KG1.out
            obtain ⟨f0, f1, f2, f3⟩ := box_frozen KG1.out
            go_wp2
            refine bodyPost_ret (v := .agg #[.slice none 0 0, .slice none 0 0, .string ⟨#[]⟩, .int .i64 9]) (by simp [results, Tryz.results42, go_sem, z0, z1, z2, z3]) rfl ⟨_, rfl, ?_, ?_⟩
            · rw [HE.out]; exact do_ill _ _ _
            · repeat (refine Below.setCell ?_ (by simp only; omega) _)
              exact HB2.out
          · have HE := Lib.hid (write_ok hR h64 hA hf)
            have hf' : ((d.P.length : Int) == 200) = false := by simp; omega
            clear hf
            have HC := Lib.hid (fun W (hb : Below w.heap.size w W) => impl_anew _ d W ((HV.out.below hb).more hb.size) HSM.out)
            go_enter Tryz.func42, Tryz.ntmps42
            go_wp2_with fail
            refine (H1.out _ (((Below.refl _ _).alloc (Nat.le_refl _) _).alloc (by simp) _)).mono ?_
            rintro e w1 ⟨rfl, hb1⟩
            have HB1 := Lib.hid (below_call (((Below.refl w.heap.size w).alloc (Nat.le_refl _) _).alloc (by simp) _) (by simp only [World.size_alloc]; omega) hb1)
            have HG0 := Lib.hid (keep_blk hb1 (alloc_blk (heap_alloc_new _ _) _))
            have HG1 := Lib.hid (keep_blk hb1 (heap_two _ _ _))
            obtain ⟨x0, x1⟩ := box2 HG0.out
            clear hb1
            go_wp2_with fail
            refine (impl_fits_yes _ _ h64).mono ?_
            rintro e w' ⟨rfl, rfl⟩
            go_wp2_with fail
            refine (impl_has_yes _ _ _ _ a _ hA.1 hA.2).mono ?_
            rintro e w2 ⟨rfl, hb2⟩
            have HB2 := Lib.hid (below_call HB1.out HB1.out.size hb2)
            have KG0 := Lib.hid (keep_blk hb2 HG0.out)
            have KG1 := Lib.hid (keep_blk hb2 HG1.out)
            clear hb2 x0 x1
            obtain ⟨x0, x1⟩ := box2 KG0.out
            go_wp2_with fail
            refine (HC.out _ HB2.out).mono ?_
            intro e w3 h3
            obtain ⟨B1, e1', B2, e2', rfl, ho3, hb3⟩ := h3.parts
            have HO3 := Lib.hid ho3
            have HB3 := Lib.hid (below_call HB2.out HB2.out.size hb3)
            have LG1 := Lib.hid (keep_blk hb3 KG1.out)
            have hz1 : w.heap.size + 1 < w3.heap.size := block_lt LG1.out
            have hz3 := hb3.size
            have hw2 := block_lt KG1.out
            clear h3 ho3 hb3 x0 x1
            obtain ⟨vs', vp', ev, hos, hop⟩ := HO3.out
            simp only [Value.agg.injEq, Array.mk.injEq, List.cons.injEq, and_true] at ev
            obtain ⟨rfl, rfl⟩ := ev
            have HOS := Lib.hid hos; have HOP := Lib.hid hop
            clear hos hop
            go_wp2
            go_region_law (first
              | (go_simp
                 go_at_call 80
                 refine (strings_clone t _ (by omega)).mono ?_
                 rintro e w4 ⟨rfl, hb4⟩
                 have HB4 := Lib.hid (undrew hb4)
                 have K7 := Lib.hid (keep_blk HB4.out (heap_alloc_new _ _))
                 obtain ⟨y0, y1⟩ := box2 K7.out
                 have hz4 : w3.heap.size < w4.heap.size := block_lt K7.out
                 clear hb4)
              | (refine step_append_sl pendType' _ rfl (.tmp 34) (.tmp 39) rfl w2.heap.size (.slice B2 d.P.length e2') d.P.length _ rfl (World.ownsRow.alloc (own_lift (World.ownsRow.alloc HOP.out _) HB4.out) _) _ encP _ [(a, t)] rfl (sl_single (heap_at rfl) 2 encP (a, t) rfl) encP_len encP_one' (by simp; unfold maxLen; omega) (by simp; omega) (by simp; omega) ?_
                 intro v5 w5 g5
                 obtain ⟨A', c', rfl⟩ := g5.form
                 have GK7 := Lib.hid ((g5.2.1.block w3.heap.size (by simp; omega) (fun e => by have := (World.ownsRow.lt HOP.out _ e.symm).2; omega)).trans (alloc_blk K7.out _))
                 obtain ⟨q0, q1⟩ := box2 GK7.out
                 obtain ⟨qf0, qf1, _, _⟩ := box_frozen GK7.out
                 have GS := Lib.hid (g5.other (World.ownsRow.alloc (own_lift (World.ownsRow.alloc HOS.out _) HB4.out) _) (World.ownsRow.alloc (own_lift (World.ownsRow.alloc HOP.out _) HB4.out) _) (by decide))
                 have GO := Lib.hid g5.1
                 have GW := Lib.hid g5.2.2
                 have GB := Lib.hid (g5.below (B := w2.heap.size) (fun g hg => (World.ownsRow.lt HOP.out g hg).1) (by simp; omega))
                 clear g5))
            all_goals
              have GG1 := Lib.hid ((GB.out.block (w.heap.size + 1) (by omega)).trans (alloc_blk (keep_blk HB4.out (alloc_blk LG1.out _)) _))
              have HB5 := Lib.hid (((below_alloc_call HB3.out HB3.out.size HB4.out).alloc (by have := HB3.out.size; omega) (.cells #[.int .i64 a, .string t] 84)).trans (GB.out.mono HB2.out.size))
              obtain ⟨z0, z1, z2, z3⟩ := box4 GG1.out
              obtain ⟨f0, f1, f2, f3⟩ := box_frozen GG1.out
              clear y0 y1
              go_wp2
              refine bodyPost_ret (v := .agg #[.slice B1 d.S.length e1', .slice A' (d.P.length + 1) c', .string ⟨#[]⟩, .int .i64 0]) (by simp [results, Tryz.results42, go_sem, z0, z1, z2, z3]) rfl ⟨_, rfl, ?_, ?_⟩
              · rw [HE.out]
                refine ⟨_, _, rfl, _, _, rfl, ?_, ?_⟩
                · have h := show Ow w5 w2.heap.size 9 1 encS (.slice B1 d.S.length e1') d.S from GS.out
                  refine Ow.base (base := w2.heap.size) ?_ (by omega)
                  repeat (refine Ow.far ?_ (by simp only; omega) _)
                  exact h.aside (fun g hg => by have := (World.ownsRow.lt HOS.out g hg).2; simp only; omega) _
                · have h := show Ow w5 w2.heap.size 84 2 encP (.slice A' (d.P.length + 1) c') (d.P ++ [(a, t)]) from (by unfold Ow; rw [List.length_append, List.flatMap_append]; exact GO.out)
                  refine Ow.base (base := w2.heap.size) ?_ (by omega)
                  repeat (refine Ow.far ?_ (by simp only; omega) _)
                  exact h.aside (fun g hg => by
                    rcases GW.out with e | e
                    · have := (World.ownsRow.lt HOP.out g (e ▸ hg)).2; simp only; omega
                    · have h2 := e.symm.trans hg; simp at h2; simp only; omega) _
              · repeat (refine Below.setCell ?_ (by simp only; omega) _)
                exact HB5.out
        · have HE := Lib.hid (write_range hR h64 hA)
          go_enter Tryz.func42, Tryz.ntmps42
          go_wp2_with fail
          refine (H1.out _ (((Below.refl _ _).alloc (Nat.le_refl _) _).alloc (by simp) _)).mono ?_
          rintro e w1 ⟨rfl, hb1⟩
          have HB1 := Lib.hid (below_call (((Below.refl w.heap.size w).alloc (Nat.le_refl _) _).alloc (by simp) _) (by simp only [World.size_alloc]; omega) hb1)
          have HG0 := Lib.hid (keep_blk hb1 (alloc_blk (heap_alloc_new _ _) _))
          have HG1 := Lib.hid (keep_blk hb1 (heap_two _ _ _))
          obtain ⟨x0, x1⟩ := box2 HG0.out
          clear hb1
          go_wp2_with fail
          refine (impl_fits_yes _ _ h64).mono ?_
          rintro e w' ⟨rfl, rfl⟩
          go_wp2_with fail
          refine (impl_has_no _ _ _ _ a _ hA).mono ?_
          rintro e w2 ⟨rfl, hb2⟩
          have HB2 := Lib.hid (below_call HB1.out HB1.out.size hb2)
          have KG0 := Lib.hid (keep_blk hb2 HG0.out)
          have KG1 := Lib.hid (keep_blk hb2 HG1.out)
          clear hb2 x0 x1
          obtain ⟨x0, x1⟩ := box2 KG0.out
          obtain ⟨z0, z1, z2, z3⟩ := box4 KG1.out
          obtain ⟨f0, f1, f2, f3⟩ := box_frozen KG1.out
          go_wp2
          refine bodyPost_ret (v := .agg #[.slice none 0 0, .slice none 0 0, .string ⟨#[]⟩, .int .i64 8]) (by simp [results, Tryz.results42, go_sem, z0, z1, z2, z3]) rfl ⟨_, rfl, ?_, ?_⟩
          · rw [HE.out]; exact do_ill _ _ _
          · repeat (refine Below.setCell ?_ (by simp only; omega) _)
            exact HB2.out
      · have HE := Lib.hid (write_form (d := d) (a := a) h8 (fun h => h64 h.2))
        go_enter Tryz.func42, Tryz.ntmps42
        go_wp2_with fail
        refine (H1.out _ (((Below.refl _ _).alloc (Nat.le_refl _) _).alloc (by simp) _)).mono ?_
        rintro e w1 ⟨rfl, hb1⟩
        have HB1 := Lib.hid (below_call (((Below.refl w.heap.size w).alloc (Nat.le_refl _) _).alloc (by simp) _) (by simp only [World.size_alloc]; omega) hb1)
        have HG0 := Lib.hid (keep_blk hb1 (alloc_blk (heap_alloc_new _ _) _))
        have HG1 := Lib.hid (keep_blk hb1 (heap_two _ _ _))
        obtain ⟨x0, x1⟩ := box2 HG0.out
        clear hb1
        go_wp2_with fail
        refine (impl_fits_no _ _ h64).mono ?_
        rintro e w' ⟨rfl, rfl⟩
        obtain ⟨z0, z1, z2, z3⟩ := box4 HG1.out
        obtain ⟨f0, f1, f2, f3⟩ := box_frozen HG1.out
        go_wp2
        refine bodyPost_ret (v := .agg #[.slice none 0 0, .slice none 0 0, .string ⟨#[]⟩, .int .i64 1]) (by simp [results, Tryz.results42, go_sem, z0, z1, z2, z3]) rfl ⟨_, rfl, ?_, ?_⟩
        · rw [HE.out]; exact do_ill _ _ _
        · repeat (refine Below.setCell ?_ (by simp only; omega) _)
          exact HB1.out
    · have HE := Lib.hid (write_form (d := d) (a := a) h8 (fun h => hR h.1))
      have H1 := Lib.hid (fun W (hb : Below w.heap.size w W) => impl_right_no _ d W ((HV.out.below hb).more hb.size) d1 d3 hR)
      go_enter Tryz.func42, Tryz.ntmps42
      go_wp2_with fail
      refine (H1.out _ (((Below.refl _ _).alloc (Nat.le_refl _) _).alloc (by simp) _)).mono ?_
      rintro e w1 ⟨rfl, hb1⟩
      have HB1 := Lib.hid (below_call (((Below.refl w.heap.size w).alloc (Nat.le_refl _) _).alloc (by simp) _) (by simp only [World.size_alloc]; omega) hb1)
      have HG0 := Lib.hid (keep_blk hb1 (alloc_blk (heap_alloc_new _ _) _))
      have HG1 := Lib.hid (keep_blk hb1 (heap_two _ _ _))
      obtain ⟨x0, x1⟩ := box2 HG0.out
      clear hb1
      obtain ⟨z0, z1, z2, z3⟩ := box4 HG1.out
      obtain ⟨f0, f1, f2, f3⟩ := box_frozen HG1.out
      go_wp2
      refine bodyPost_ret (v := .agg #[.slice none 0 0, .slice none 0 0, .string ⟨#[]⟩, .int .i64 1]) (by simp [results, Tryz.results42, go_sem, z0, z1, z2, z3]) rfl ⟨_, rfl, ?_, ?_⟩
      · rw [HE.out]; exact do_ill _ _ _
      · repeat (refine Below.setCell ?_ (by simp only; omega) _)
        exact HB1.out

end Go.Proofs.YthchlfllcnlmjaaGreatDoor
