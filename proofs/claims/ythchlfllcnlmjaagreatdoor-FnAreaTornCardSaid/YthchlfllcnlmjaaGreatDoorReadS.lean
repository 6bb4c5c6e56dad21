/-
  Contract of the model's DiskRead.
-/
import Derived.Test.YthchlfllcnlmjaaGreatDoorMed
import Derived.Test.YthchlfllcnlmjaaGreatDoorCopy
import Derived.Test.YthchlfllcnlmjaaGreatDoorRite
import Derived.RegionTactic
import Derived.BigRegion
namespace Go.Proofs.YthchlfllcnlmjaaGreatDoor
open Go.ChangeShapes Go.WideShapes Go.ChangeAt Go.RowKit

theorem read_small (d : Dk) (a : Int) (h : Small d) : (readDo d a).dk.S.length ≤ 1048576 ∧ (readDo d a).dk.P.length ≤ 1048577 := by
  have h1 := h.1
  have h2 := h.2.2.1
  by_cases hR : Right d
  · by_cases hA : 0 ≤ a ∧ a < d.S.length
    · rw [read_ok hR hA]
      simp only
      omega
    · rw [read_range hR hA]
      simp [illDo]
  · rw [read_form hR]
    simp [illDo]

set_option maxRecDepth 100000 in
set_option maxHeartbeats 4000000 in
theorem spec_read (v : Value) (d : Dk) (a : Int) (w : World) (hv : DkAt w w.heap.size v d) (hd : Small d) :
    Calls Tryz.prog 48 #[v, .int .i64 a] w (OwnsDo w (readDo d a)) := by
  obtain ⟨vs, vp, rfl, hs, hp⟩ := hv
  obtain ⟨A1, c1, rfl⟩ := hs.form
  obtain ⟨A2, c2, rfl⟩ := hp.form
  have HSM := Lib.hid hd
  obtain ⟨d1, _, d3, _, _⟩ := hd
  have HV := Lib.hid (show DkAt w w.heap.size (.agg #[.slice A1 d.S.length c1, .slice A2 d.P.length c2]) d from ⟨_, _, rfl, hs, hp⟩)
  have HS := Lib.hid hs; have HP := Lib.hid hp
  clear hs hp
  by_cases hR : Right d
  · have H1 := Lib.hid (fun W (hb : Below w.heap.size w W) => spec_right_yes _ d W ((HV.out.below hb).more hb.size) d1 d3 hR)
    have e1 : IntKind.i64.wrap ((d.S.length : Int) - 1) = (d.S.length : Int) - 1 := IntWalk.i64_in _ (by omega)
    by_cases hA : 0 ≤ a ∧ a < d.S.length
    · have HE := Lib.hid (read_ok hR hA)
      have HC := Lib.hid (fun W (hb : Below w.heap.size w W) => spec_copy _ d W ((HV.out.below hb).more hb.size) d1 d3)
      obtain ⟨hA1, hA2⟩ := hA
      obtain ⟨k, rfl⟩ := Int.eq_ofNat_of_zero_le hA1
      have hk : k < d.S.length := by omega
      go_enter Tryz.func48, Tryz.ntmps48
      go_wp2_with fail
      refine (H1.out _ (((Below.refl _ _).alloc (Nat.le_refl _) _).alloc (by simp) _)).mono ?_
      rintro e w1 ⟨rfl, hb1⟩
      have HB1 := Lib.hid (below_call (((Below.refl w.heap.size w).alloc (Nat.le_refl _) _).alloc (by simp) _) (by simp only [World.size_alloc]; omega) hb1)
      have HG0 := Lib.hid (keep_blk hb1 (alloc_blk (heap_alloc_new _ _) _))
      have HG1 := Lib.hid (keep_blk hb1 (heap_two _ _ _))
      have hz1 := block_lt HG1.out
      have hz0 := block_lt HG0.out
      obtain ⟨x0, x1⟩ := box2 HG0.out
      clear hb1
      go_wp2_with fail
      refine (spec_is_yes _ _ _ _ (by omega) (by omega)).mono ?_
      rintro e w' ⟨rfl, rfl⟩
      obtain ⟨ad, c', e', had, hc⟩ := (HS.out.below HB1.out).one k hk
      simp only [Value.slice.injEq, true_and] at e'
      obtain ⟨rfl, rfl⟩ := e'
      obtain ⟨t0, ht0⟩ : ∃ t, t = d.S[k] := ⟨_, rfl⟩
      rw [← ht0] at hc
      have HT0 := Lib.hid ht0; clear ht0 e1
      go_wp2
      go_loopw [5, 6] (fun x i wr => ∃ (j : Nat) (t : ByteArray), j ≤ d.P.length ∧ i = .int .i64 (j : Int) ∧ x = .string t ∧ t = (lastOf (d.P.take j) (k : Int)).getD t0 ∧ wr.heap[w.heap.size]? = some (.cells #[.slice (some ad) d.S.length c1, .slice A2 d.P.length c2] 26 (0, 0)) ∧ wr.heap[w.heap.size + 1]? = some (.cells #[.slice none 0 0, .slice none 0 0, .string ⟨#[]⟩, .int .i64 0] 68 (0, 0)) ∧ Below w.heap.size w wr) (fun _ i _ => d.P.length - (intOf i).toNat)
      case atStart => exact ⟨0, t0, by omega, rfl, rfl, by simp [lastOf_nil], HG0.out, HG1.out, HB1.out⟩
      case round =>
        clear x0 x1 HG0 HG1 HB1 hc
        obtain ⟨j, t, hj, rfl, rfl, ht, hg0, hg1, hb⟩ := hrel
        have HT := Lib.hid ht; have HG0 := Lib.hid hg0; have HG1 := Lib.hid hg1; have HB1 := Lib.hid hb
        clear ht hg0 hg1 hb
        obtain ⟨x0, x1⟩ := box2 HG0.out
        by_cases hlt : j < d.P.length
        · obtain ⟨ap, c'', e'', hap, hcp, hcd⟩ := (HP.out.below HB1.out).two j hlt
          simp only [Value.slice.injEq, true_and] at e''
          obtain ⟨rfl, rfl⟩ := e''
          obtain ⟨p, hp⟩ : ∃ p, p = d.P[j] := ⟨_, rfl⟩
          rw [← hp] at hcp hcd
          have e : d.P.take (j + 1) = d.P.take j ++ [p] := by rw [List.take_succ_eq_append_getElem hlt, hp]
          have HPE := Lib.hid e; clear e hp
          by_cases hq : p.1 = (k : Int)
          · have hq' : (p.1 == (k : Int)) = true := by simp [hq]
            have HQ := Lib.hid hq; clear hq
            go_wp2
            go_roundw
            case rel => exact ⟨j + 1, p.2, by omega, by go_num, rfl, by rw [HPE.out, lastOf_snoc, if_pos HQ.out]; rfl, HG0.out, HG1.out, HB1.out⟩
            case measure => simp [intOf]; omega
          · have hq' : (p.1 == (k : Int)) = false := by simp [hq]
            have HQ := Lib.hid hq; clear hq
            go_wp2
            go_roundw
            case rel => exact ⟨j + 1, t, by omega, by go_num, rfl, by rw [HPE.out, lastOf_snoc, if_neg HQ.out]; exact HT.out, HG0.out, HG1.out, HB1.out⟩
            case measure => simp [intOf]; omega
        · have hks : j = d.P.length := by omega
          subst hks
          have e : d.P.take d.P.length = d.P := List.take_of_length_le (Nat.le_refl _)
          rw [e] at HT
          clear e
          have hz13 : w.heap.size + 1 < wr.heap.size := block_lt HG1.out
          go_wp2_with fail
          refine (HC.out _ HB1.out).mono ?_
          intro e w4 h4
          obtain ⟨B1, e1, B2, e2, rfl, ho4, hb4⟩ := h4.parts
          have HB4 := Lib.hid (below_call HB1.out HB1.out.size hb4)
          have MG1 := Lib.hid (keep_blk hb4 HG1.out)
          have HO4 := Lib.hid ho4
          clear h4 hb4 ho4 x0 x1
          obtain ⟨z0, z1, z2, z3⟩ := box4 MG1.out
          obtain ⟨f0, f1, f2, f3⟩ := box_frozen MG1.out
          go_wp2
          refine bodyPost_ret (v := .agg #[.slice B1 d.S.length e1, .slice B2 d.P.length e2, .string t, .int .i64 0]) (by simp [results, Tryz.results48, go_sem, z0, z1, z2, z3]) rfl ⟨_, rfl, ?_, ?_⟩
          · have e : readT d k = t := by
              rw [HT.out, HT0.out]
              unfold readT
              simp [hk]
            rw [HE.out, Int.toNat_natCast, e]
            refine ⟨_, _, rfl, ?_⟩
            refine DkOw.base (base := wr.heap.size) ?_ (by omega)
            repeat (refine DkOw.far ?_ (by simp only; omega) _)
            exact HO4.out
          · repeat (refine Below.setCell ?_ (by simp only; omega) _)
            exact HB4.out
    · have HE := Lib.hid (read_range hR hA)
      go_enter Tryz.func48, Tryz.ntmps48
      go_wp2_with fail
      refine (H1.out _ (((Below.refl _ _).alloc (Nat.le_refl _) _).alloc (by simp) _)).mono ?_
      rintro e w1 ⟨rfl, hb1⟩
      have HB1 := Lib.hid (below_call (((Below.refl w.heap.size w).alloc (Nat.le_refl _) _).alloc (by simp) _) (by simp only [World.size_alloc]; omega) hb1)
      have HG0 := Lib.hid (keep_blk hb1 (alloc_blk (heap_alloc_new _ _) _))
      have HG1 := Lib.hid (keep_blk hb1 (heap_two _ _ _))
      have hz1 := block_lt HG1.out
      have hz0 := block_lt HG0.out
      obtain ⟨x0, x1⟩ := box2 HG0.out
      clear hb1
      go_wp2_with fail
      refine (spec_is_no _ _ _ _ (by omega)).mono ?_
      rintro e w' ⟨rfl, rfl⟩
      go_wp2_with fail
      refine (spec_ill 8 _).mono ?_
      rintro e w2 ⟨rfl, hb2⟩
      have K2 := Lib.hid (keep_blk hb2 HG1.out)
      have HB2 := Lib.hid (below_call HB1.out HB1.out.size hb2)
      clear hb2
      obtain ⟨z0, z1, z2, z3⟩ := box4 K2.out
      obtain ⟨f0, f1, f2, f3⟩ := box_frozen K2.out
      go_wp2
      refine bodyPost_ret (v := .agg #[.slice none 0 0, .slice none 0 0, .string ⟨#[]⟩, .int .i64 8]) (by simp [results, Tryz.results48, go_sem, z0, z1, z2, z3]) rfl ⟨_, rfl, ?_, ?_⟩
      · rw [HE.out]; exact do_ill _ _ _
      · repeat (refine Below.setCell ?_ (by simp only; omega) _)
        exact HB2.out
  · have H1 := Lib.hid (fun W (hb : Below w.heap.size w W) => spec_right_no _ d W ((HV.out.below hb).more hb.size) d1 d3 hR)
    have HE := Lib.hid (read_form (a := a) hR)
    go_enter Tryz.func48, Tryz.ntmps48
    go_wp2_with fail
    refine (H1.out _ (((Below.refl _ _).alloc (Nat.le_refl _) _).alloc (by simp) _)).mono ?_
    rintro e w1 ⟨rfl, hb1⟩
    have HB1 := Lib.hid (below_call (((Below.refl w.heap.size w).alloc (Nat.le_refl _) _).alloc (by simp) _) (by simp only [World.size_alloc]; omega) hb1)
    have HG0 := Lib.hid (keep_blk hb1 (alloc_blk (heap_alloc_new _ _) _))
    have HG1 := Lib.hid (keep_blk hb1 (heap_two _ _ _))
    have hz1 := block_lt HG1.out
    have hz0 := block_lt HG0.out
    obtain ⟨x0, x1⟩ := box2 HG0.out
    clear hb1
    go_wp2_with fail
    refine (spec_ill 1 _).mono ?_
    rintro e w2 ⟨rfl, hb2⟩
    have K2 := Lib.hid (keep_blk hb2 HG1.out)
    have HB2 := Lib.hid (below_call HB1.out HB1.out.size hb2)
    clear hb2
    obtain ⟨z0, z1, z2, z3⟩ := box4 K2.out
    obtain ⟨f0, f1, f2, f3⟩ := box_frozen K2.out
    go_wp2
    refine bodyPost_ret (v := .agg #[.slice none 0 0, .slice none 0 0, .string ⟨#[]⟩, .int .i64 1]) (by simp [results, Tryz.results48, go_sem, z0, z1, z2, z3]) rfl ⟨_, rfl, ?_, ?_⟩
    · rw [HE.out]; exact do_ill _ _ _
    · repeat (refine Below.setCell ?_ (by simp only; omega) _)
      exact HB2.out

end Go.Proofs.YthchlfllcnlmjaaGreatDoor
