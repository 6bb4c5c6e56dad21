/-
  Contracts of both DiskFlush.
-/
import Derived.Test.YthchlfllcnlmjaaGreatDoorMed
import Derived.Test.YthchlfllcnlmjaaGreatDoorCopy
import Derived.Test.YthchlfllcnlmjaaGreatDoorRite
import Derived.RegionTactic
import Derived.BigRegion
namespace Go.Proofs.YthchlfllcnlmjaaGreatDoor
open Go.ChangeShapes Go.WideShapes Go.ChangeAt Go.RowKit

set_option maxRecDepth 100000 in
set_option maxHeartbeats 4000000 in
theorem impl_flush (v : Value) (d : Dk) (w : World) (hv : DkAt w w.heap.size v d) (hd : Small d) :
    Calls Tryz.prog 44 #[v] w (OwnsDo w (flushDo d)) := by
  obtain ⟨vs, vp, rfl, hs, hp⟩ := hv
  obtain ⟨A1, c1, rfl⟩ := hs.form
  obtain ⟨A2, c2, rfl⟩ := hp.form
  have HSM := Lib.hid hd
  obtain ⟨d1, _, d3, _, _⟩ := hd
  have HV := Lib.hid (show DkAt w w.heap.size (.agg #[.slice A1 d.S.length c1, .slice A2 d.P.length c2]) d from ⟨_, _, rfl, hs, hp⟩)
  clear hs hp
  by_cases hR : Right d
  · have H1 := Lib.hid (fun W (hb : Below w.heap.size w W) => impl_right_yes _ d W ((HV.out.below hb).more hb.size) d1 d3 hR)
    have HM := Lib.hid (fun W (hb : Below w.heap.size w W) => impl_medium _ d W ((HV.out.below hb).more hb.size) HSM.out)
    have HE := Lib.hid (flush_ok hR)
    have HPR := Lib.hid (fun p (hp : p ∈ d.P) => (⟨(hR.2.2.2.2 p hp).1, (hR.2.2.2.2 p hp).2.1⟩ : 0 ≤ p.1 ∧ p.1 < d.S.length))
    go_enter Tryz.func44, Tryz.ntmps44
    go_wp2_with fail
    refine (H1.out _ (((Below.refl _ _).alloc (Nat.le_refl _) _).alloc (by simp) _)).mono ?_
    rintro e w1 ⟨rfl, hb1⟩
    have HB1 := Lib.hid (below_call (((Below.refl w.heap.size w).alloc (Nat.le_refl _) _).alloc (by simp) _) (by simp only [World.size_alloc]; omega) hb1)
    have HG0 := Lib.hid (keep_blk hb1 (alloc_blk (heap_alloc_new _ _) _))
    have HG1 := Lib.hid (keep_blk hb1 (heap_two _ _ _))
    have hz1 := block_lt HG1.out
    have hz0 := block_lt HG0.out
    obtain ⟨x0, x1⟩ := box2 HG0.out
    clear hb1
    go_wp2_with fail
    refine (HM.out _ HB1.out).mono ?_
    rintro e w2 ⟨v2, rfl, hm2, hb2⟩
    have HB2 := Lib.hid (below_call HB1.out HB1.out.size hb2)
    have KG1 := Lib.hid (keep_blk hb2 HG1.out)
    have hz2 := hb2.size
    have HM2 := Lib.hid hm2
    obtain ⟨Ax, cx, bx, nx, Dx, rfl, _⟩ := hm2
    clear hb2 x0 x1
    go_wp2_with fail
    refine (impl_flushed _ d _ w1.heap.size w1.heap.size HM2.out HPR.out d1 (Nat.le_refl _) hz2).mono ?_
    rintro e w3 ⟨A, c, rfl, ho3, hb3⟩
    have HO3 := Lib.hid ho3
    have HB3 := Lib.hid (HB2.out.trans (hb3.mono HB1.out.size))
    have LG1 := Lib.hid ((hb3.block (w.heap.size + 1) hz1).trans KG1.out)
    clear ho3 hb3
    obtain ⟨z0, z1, z2, z3⟩ := box4 LG1.out
    obtain ⟨f0, f1, f2, f3⟩ := box_frozen LG1.out
    go_wp2
    refine bodyPost_ret (v := .agg #[.slice A d.S.length c, .slice none 0 0, .string ⟨#[]⟩, .int .i64 0]) (by simp [results, Tryz.results44, go_sem, z0, z1, z2, z3]) rfl ⟨_, rfl, ?_, ?_⟩
    · rw [HE.out]
      refine ⟨_, _, rfl, _, _, rfl, ?_, World.ownsRow_nil _ _ _ _⟩
      refine Ow.base (base := w1.heap.size) ?_ (by omega)
      repeat (refine Ow.far ?_ (by simp only; omega) _)
      exact HO3.out
    · repeat (refine Below.setCell ?_ (by simp only; omega) _)
      exact HB3.out
  · have H1 := Lib.hid (fun W (hb : Below w.heap.size w W) => impl_right_no _ d W ((HV.out.below hb).more hb.size) d1 d3 hR)
    have HE := Lib.hid (flush_form hR)
    go_enter Tryz.func44, Tryz.ntmps44
    go_wp2_with fail
    refine (H1.out _ (((Below.refl _ _).alloc (Nat.le_refl _) _).alloc (by simp) _)).mono ?_
    rintro e w1 ⟨rfl, hb1⟩
    have HB1 := Lib.hid (below_call (((Below.refl w.heap.size w).alloc (Nat.le_refl _) _).alloc (by simp) _) (by simp only [World.size_alloc]; omega) hb1)
    have HG0 := Lib.hid (keep_blk hb1 (alloc_blk (heap_alloc_new _ _) _))
    have HG1 := Lib.hid (keep_blk hb1 (heap_two _ _ _))
    have hz1 := block_lt HG1.out
    have hz0 := block_lt HG0.out
    obtain ⟨x0, x1⟩ := box2 HG0.out
    clear hb1
    obtain ⟨z0, z1, z2, z3⟩ := box4 HG1.out
    obtain ⟨f0, f1, f2, f3⟩ := box_frozen HG1.out
    go_wp2
    refine bodyPost_ret (v := .agg #[.slice none 0 0, .slice none 0 0, .string ⟨#[]⟩, .int .i64 1]) (by simp [results, Tryz.results44, go_sem, z0, z1, z2, z3]) rfl ⟨_, rfl, ?_, ?_⟩
    · rw [HE.out]; exact do_ill _ _ _
    · repeat (refine Below.setCell ?_ (by simp only; omega) _)
      exact HB1.out

set_option maxRecDepth 100000 in
set_option maxHeartbeats 4000000 in
theorem spec_flush (v : Value) (d : Dk) (w : World) (hv : DkAt w w.heap.size v d) (hd : Small d) :
    Calls Tryz.prog 55 #[v] w (OwnsDo w (flushDo d)) := by
  obtain ⟨vs, vp, rfl, hs, hp⟩ := hv
  obtain ⟨A1, c1, rfl⟩ := hs.form
  obtain ⟨A2, c2, rfl⟩ := hp.form
  obtain ⟨d1, _, d3, _, _⟩ := hd
  have HV := Lib.hid (show DkAt w w.heap.size (.agg #[.slice A1 d.S.length c1, .slice A2 d.P.length c2]) d from ⟨_, _, rfl, hs, hp⟩)
  have HS := Lib.hid hs; have HP := Lib.hid hp
  clear hs hp
  by_cases hR : Right d
  · have H1 := Lib.hid (fun W (hb : Below w.heap.size w W) => spec_right_yes _ d W ((HV.out.below hb).more hb.size) d1 d3 hR)
    have HE := Lib.hid (flush_ok hR)
    have HPR := Lib.hid (fun p (hp : p ∈ d.P) => (⟨(hR.2.2.2.2 p hp).1, (hR.2.2.2.2 p hp).2.1⟩ : 0 ≤ p.1 ∧ p.1 < d.S.length))
    go_enter Tryz.func55, Tryz.ntmps55
    go_wp2_with fail
    refine (H1.out _ (((Below.refl _ _).alloc (Nat.le_refl _) _).alloc (by simp) _)).mono ?_
    rintro e w1 ⟨rfl, hb1⟩
    have HB1 := Lib.hid (below_call (((Below.refl w.heap.size w).alloc (Nat.le_refl _) _).alloc (by simp) _) (by simp only [World.size_alloc]; omega) hb1)
    have HG0 := Lib.hid (keep_blk hb1 (alloc_blk (heap_alloc_new _ _) _))
    have HG1 := Lib.hid (keep_blk hb1 (heap_two _ _ _))
    have hz1 := block_lt HG1.out
    have hz0 := block_lt HG0.out
    obtain ⟨x0, x1⟩ := box2 HG0.out
    clear hb1
    go_wp2_with (at_builtin; refine list_append_sl strType _ rfl (.tmp 9) (.tmp 11) rfl w1.heap.size _ 0 [] rfl (own_empty (heap_at rfl) _ _ (Nat.le_refl _)) w.heap.size encS _ d.S rfl (HS.out.below (HB1.out.alloc HB1.out.size _)) encS_len encS_one (by unfold maxLen; omega) (by omega) (by simp) ?_; intro v2 w2 g2; simp only [Nat.zero_add, List.nil_append] at g2; obtain ⟨A, c, rfl⟩ := g2.form; have GO := Lib.hid g2.1; have GB := Lib.hid (g2.below (B := w1.heap.size) (fun g hg => by simp [Value.ownBlock, go_sem] at hg; omega) (by simp)); have hz2 := g2.2.1.size; simp only [World.size_alloc] at hz2; clear g2 x0 x1)
    go_loopw [4] (fun i wr => ∃ k : Nat, k ≤ d.P.length ∧ i = .int .i64 (k : Int) ∧ wr.heap[w.heap.size]? = some (.cells #[.slice A1 d.S.length c1, .slice A2 d.P.length c2] 26 (0, 0)) ∧ wr.heap[w.heap.size + 1]? = some (.cells #[.slice none 0 0, .slice none 0 0, .string ⟨#[]⟩, .int .i64 0] 68 (0, 0)) ∧ wr.heap[w2.heap.size]? = some (.cells #[.slice A d.S.length c, .slice none 0 0] 26 (0, 0)) ∧ wr.ownsRow w1.heap.size 9 1 (.slice A d.S.length c) d.S.length ((flushS d.S (d.P.take k)).flatMap encS) ∧ Below w.heap.size w wr ∧ w2.heap.size < wr.heap.size) (fun i _ => d.P.length - (intOf i).toNat)
    case atStart => exact ⟨0, by omega, rfl, alloc_blk ((GB.out.block _ (by omega)).trans (alloc_blk HG0.out _)) _, alloc_blk ((GB.out.block _ (by omega)).trans (alloc_blk HG1.out _)) _, heap_alloc_new _ _, by rw [List.take_zero, flushS_nil]; exact World.ownsRow.alloc GO.out _, ((HB1.out.alloc HB1.out.size _).trans (GB.out.mono HB1.out.size)).alloc (by have := HB1.out.size; omega) _, by simp⟩
    case round =>
      have HLO := Lib.hid (World.ownsRow.lt GO.out)
      clear HG0 HG1 GO
      obtain ⟨k, hk, rfl, hg0, hg1, hg2, ho, hb, hzr⟩ := hrel
      have HG0 := Lib.hid hg0; have HG1 := Lib.hid hg1; have HG2 := Lib.hid hg2; have HO := Lib.hid ho; have HB := Lib.hid hb
      clear hg0 hg1 hg2 hb
      obtain ⟨x0, x1⟩ := box2 HG0.out
      by_cases hlt : k < d.P.length
      · obtain ⟨ad, c', e', had, hc, hcd⟩ := (HP.out.below HB.out).two k hlt
        simp only [Value.slice.injEq, true_and] at e'
        obtain ⟨rfl, rfl⟩ := e'
        obtain ⟨hx0, hx1⟩ := HPR.out _ (getElem_mem' d.P k hlt)
        obtain ⟨t, ht⟩ : ∃ t, t = d.P[k] := ⟨_, rfl⟩
        rw [← ht] at hc hcd hx0 hx1
        have HT := Lib.hid ht; clear ht
        obtain ⟨q, hq⟩ := Int.eq_ofNat_of_zero_le hx0
        rw [hq] at hc hx1
        have HQ := Lib.hid hq; clear hq hx0
        have hqS : q < d.S.length := by omega
        obtain ⟨g, rfl, hgb, hgl⟩ := own_form ho (by omega)
        have hgw := (HLO.out g rfl).2
        obtain ⟨u, hu, hf⟩ := own_cell ho q (by omega)
        clear ho
        obtain ⟨y0, y1⟩ := box2 HG2.out
        go_wp2
        go_region
        go_wp2
        go_roundw
        case rel =>
          have h := (HO.out.stored q (.string t.2)).1
          refine ⟨k + 1, by omega, by go_num, (Below.heap_setCell _ _ _ _ (by simp only; omega)).trans HG0.out, (Below.heap_setCell _ _ _ _ (by simp only; omega)).trans HG1.out, (Below.heap_setCell _ _ _ _ (by simp only; omega)).trans HG2.out, ?_, (HB.out.setCell (p := ⟨g, q, none⟩) (by have := HB1.out.size; simp only; omega) _).drew, by simpa using hzr⟩
          have e : d.P.take (k + 1) = d.P.take k ++ [((q : Int), t.2)] := by rw [List.take_succ_eq_append_getElem hlt, ← HT.out, ← HQ.out]
          have e2 : ((flushS d.S (d.P.take k)).flatMap encS).set q (.string t.2) = ((flushS d.S (d.P.take k)).set q t.2).flatMap encS := by
            rw [show (flushS d.S (d.P.take k)).flatMap encS = (flushS d.S (d.P.take k)).map Value.string from flat_one Value.string _, show ((flushS d.S (d.P.take k)).set q t.2).flatMap encS = ((flushS d.S (d.P.take k)).set q t.2).map Value.string from flat_one Value.string _, List.map_set]
          rw [e, flushS_snoc _ _ _ _ hqS, ← e2]
          exact h
        case measure => simp [intOf]; omega
      · have hks : k = d.P.length := by omega
        subst hks
        have e : d.P.take d.P.length = d.P := List.take_of_length_le (Nat.le_refl _)
        rw [e] at HO
        clear e ho
        obtain ⟨y0, y1⟩ := box2 HG2.out
        obtain ⟨z0, z1, z2, z3⟩ := box4 HG1.out
        obtain ⟨f0, f1, f2, f3⟩ := box_frozen HG1.out
        go_wp2
        refine bodyPost_ret (v := .agg #[.slice A d.S.length c, .slice none 0 0, .string ⟨#[]⟩, .int .i64 0]) (by simp [results, Tryz.results55, go_sem, z0, z1, z2, z3]) rfl ⟨_, rfl, ?_, ?_⟩
        · rw [HE.out]
          refine ⟨_, _, rfl, _, _, rfl, ?_, World.ownsRow_nil _ _ _ _⟩
          refine Ow.base (base := w1.heap.size) ?_ (by omega)
          repeat (refine Ow.far ?_ (by simp only; omega) _)
          unfold Ow
          rw [flushS_len]
          exact HO.out
        · repeat (refine Below.setCell ?_ (by simp only; omega) _)
          exact HB.out
  · have H1 := Lib.hid (fun W (hb : Below w.heap.size w W) => spec_right_no _ d W ((HV.out.below hb).more hb.size) d1 d3 hR)
    have HE := Lib.hid (flush_form hR)
    go_enter Tryz.func55, Tryz.ntmps55
    go_wp2_with fail
    refine (H1.out _ (((Below.refl _ _).alloc (Nat.le_refl _) _).alloc (by simp) _)).mono ?_
    rintro e w1 ⟨rfl, hb1⟩
    have HB1 := Lib.hid (below_call (((Below.refl w.heap.size w).alloc (Nat.le_refl _) _).alloc (by simp) _) (by simp only [World.size_alloc]; omega) hb1)
    have HG0 := Lib.hid (keep_blk hb1 (alloc_blk (heap_alloc_new _ _) _))
    have HG1 := Lib.hid (keep_blk hb1 (heap_two _ _ _))
    have hz1 := block_lt HG1.out
    have hz0 := block_lt HG0.out
    obtain ⟨x0, x1⟩ := box2 HG0.out
    clear hb1
    go_wp2_with fail
    refine (spec_ill 1 _).mono ?_
    rintro e w2 ⟨rfl, hb2⟩
    have K2 := Lib.hid (keep_blk hb2 HG1.out)
    obtain ⟨z0, z1, z2, z3⟩ := box4 K2.out
    obtain ⟨f0, f1, f2, f3⟩ := box_frozen K2.out
    have HB2 := Lib.hid (below_call HB1.out HB1.out.size hb2)
    clear hb2
    go_wp2
    refine bodyPost_ret (v := .agg #[.slice none 0 0, .slice none 0 0, .string ⟨#[]⟩, .int .i64 1]) (by simp [results, Tryz.results55, go_sem, z0, z1, z2, z3]) rfl ⟨_, rfl, ?_, ?_⟩
    · rw [HE.out]; exact do_ill _ _ _
    · repeat (refine Below.setCell ?_ (by simp only; omega) _)
      exact HB2.out

theorem flush_small (d : Dk) (h : Small d) : (flushDo d).dk.S.length ≤ 1048576 ∧ (flushDo d).dk.P.length ≤ 1048577 := by
  have h1 := h.1
  have h2 := h.2.2.1
  by_cases hR : Right d
  · rw [flush_ok hR]
    simp only [flushS_len, List.length_nil]
    omega
  · rw [flush_form hR]
    simp [illDo]

end Go.Proofs.YthchlfllcnlmjaaGreatDoor
