/-
  The contract of the program's diskAnew: the same disk in memory of its own.
-/
import Derived.Test.YthchlfllcnlmjaaGreatDoorBase2
import Derived.Test.YthchlfllcnlmjaaGreatDoorBase1
import Derived.Test.YthchlfllcnlmjaaGreatDoorBytes
import Derived.BigQuiet
import Derived.Deep.RegionLaw
import Derived.Deep.DeepCutAuto
namespace Go.Proofs.YthchlfllcnlmjaaGreatDoor
open Go.ChangeShapes Go.WideShapes Go.ChangeAt Go.RowKit

theorem strType' : SlType Tryz.prog 23 9 1 16 := sl_type Tryz.underlying23 infoStr rfl (by omega)
theorem pendType' : SlType Tryz.prog 24 84 2 24 := sl_type Tryz.underlying24 infoPend rfl (by omega)
theorem encS_one' : ∀ x, ∀ u ∈ encS x, u.oneCell' = true := fun x u hu => by simp [encS] at hu; subst hu; rfl
theorem encP_one' : ∀ x, ∀ u ∈ encP x, u.oneCell' = true := fun x u hu => by
  simp [encP] at hu
  rcases hu with rfl | rfl <;> rfl

set_option maxRecDepth 100000 in
set_option maxHeartbeats 4000000 in
theorem impl_anew (v : Value) (d : Dk) (w : World) (hv : DkAt w w.heap.size v d) (hd : Small d) :
    Calls Tryz.prog 37 #[v] w (OwnsDk w d) := by
  obtain ⟨vs, vp, rfl, hs, hp⟩ := hv
  obtain ⟨A1, c1, rfl⟩ := hs.form
  obtain ⟨A2, c2, rfl⟩ := hp.form
  obtain ⟨d1, d2, d3, d4, d5⟩ := hd
  have HS := Lib.hid hs; have HP := Lib.hid hp
  have HD2 := Lib.hid d2; have HD4 := Lib.hid d4
  clear hs hp d2 d4 d5
  go_enter Tryz.func37, Tryz.ntmps37
  go_wp2
  go_loopw [11] (fun i wr => ∃ (k : Nat) (A : Option Addr) (c : Nat), k ≤ d.S.length ∧ i = .int .i64 (k : Int) ∧ wr.heap[w.heap.size]? = some (.cells #[.slice A1 d.S.length c1, .slice A2 d.P.length c2] 26 (0, 0)) ∧ wr.heap[w.heap.size + 1]? = some (.cells #[.slice none 0 0, .slice none 0 0] 26 (0, 0)) ∧ wr.heap[w.heap.size + 1 + 1]? = some (.cells #[.slice A k c, .slice none 0 0] 26 (0, 0)) ∧ wr.ownsRow (w.heap.size + 1 + 1 + 1) 9 1 (.slice A k c) k ((d.S.take k).flatMap encS) ∧ Below w.heap.size w wr) (fun i _ => d.S.length - (intOf i).toNat)
  case atStart => exact ⟨0, none, 0, by omega, rfl, alloc_blk (alloc_blk (heap_alloc_new _ _) _) _, alloc_blk (heap_at (by simp)) _, heap_at (by simp), World.ownsRow_nil _ _ _ _, by repeat' (first | exact Below.refl _ _ | refine Below.alloc ?_ (by first | exact Nat.le_refl _ | (simp only [World.size_alloc]; omega)) _)⟩
  case round =>
    obtain ⟨k, A, c, hk, rfl, hg0, hg1, hg2, ho, hb⟩ := hrel
    have HG0 := Lib.hid hg0; have HG1 := Lib.hid hg1; have HG2 := Lib.hid hg2; have HO := Lib.hid ho; have HB := Lib.hid hb
    have hz := block_lt hg2
    clear hg0 hg1 hg2 ho
    by_cases hlt : k < d.S.length
    · obtain ⟨ad, c', e', _, hc⟩ := (HS.out.below hb).one k hlt
      clear hb
      simp only [Value.slice.injEq, true_and] at e'
      obtain ⟨rfl, rfl⟩ := e'
      have HM := Lib.hid (HD2.out _ (getElem_mem' d.S k hlt))
      obtain ⟨t, ht⟩ : ∃ t, t = d.S[k] := ⟨_, rfl⟩
      rw [← ht] at hc HM
      have HT := Lib.hid ht; clear ht
      obtain ⟨x0, x1⟩ := box2 HG2.out
      go_wp2
      go_region_law (first
        | (go_simp
           go_at_call 80
           refine (strings_clone t _ (by have := HM.out; omega)).mono ?_
           rintro e w1 ⟨rfl, hb1⟩
           have HB1 := Lib.hid (undrew hb1)
           obtain ⟨y0, y1⟩ := box2 (keep_blk HB1.out HG2.out)
           have hz1 : w.heap.size + 1 + 1 < w1.heap.size := by have := HB1.out.size; omega
           clear hb1)
        | (refine step_append_sl strType' _ rfl (.tmp 16) (.tmp 19) rfl (w.heap.size + 1 + 1 + 1) (.slice A k c) k _ rfl (World.ownsRow.alloc (own_lift HO.out HB1.out) _) _ encS _ [t] rfl (sl_single (heap_at rfl) 1 encS t rfl) encS_len encS_one' (by simp; unfold maxLen; omega) (by simp; omega) (by have := HB1.out.size; simp; omega) ?_
           intro v2 w2 g2
           obtain ⟨A', c', rfl⟩ := g2.form
           have kb := Lib.hid (g2.below (B := w.heap.size + 1 + 1 + 1) (fun g hg => (World.ownsRow.lt HO.out g hg).1) (by have := HB1.out.size; simp; omega))
           have KG2 := Lib.hid (((kb.out.block (w.heap.size + 1 + 1) (by omega)).trans (alloc_blk (keep_blk HB1.out HG2.out) _)))
           obtain ⟨q0, q1⟩ := box2 KG2.out
           have qf := block_free KG2.out 0
           have GO := Lib.hid g2.1
           clear g2))
      all_goals
        have KG0 := Lib.hid (((kb.out.block w.heap.size (by omega)).trans (alloc_blk (keep_blk HB1.out HG0.out) _)))
        have KG1 := Lib.hid (((kb.out.block (w.heap.size + 1) (by omega)).trans (alloc_blk (keep_blk HB1.out HG1.out) _)))
        have KB := Lib.hid (((HB.out.trans (HB1.out.mono HB.out.size)).alloc (by have := HB.out.size; have := HB1.out.size; omega) (.cells #[.string t] 9)).trans (kb.out.mono (by omega)))
        clear x0 x1 q0 q1 qf
        go_wp2
        go_roundw
        case rel =>
          refine ⟨k + 1, A', c', by omega, by go_num, ?_, ?_, ?_, ?_, ?_⟩
          · exact (Below.heap_setCell _ _ _ _ (by simp only; omega)).trans KG0.out
          · exact (Below.heap_setCell _ _ _ _ (by simp only; omega)).trans KG1.out
          · simpa using block_set KG2.out 0 (.slice A' (k + 1) c')
          · have ho := GO.out
            have e : d.S.take (k + 1) = d.S.take k ++ [t] := by rw [List.take_succ_eq_append_getElem hlt, HT.out]
            rw [e, List.flatMap_append]
            exact ownsRow_setCell_below ho (by simp only; omega) _
          · exact KB.out.setCell (by simp only; omega) _
        case measure => simp [intOf]; omega
    · have hks : k = d.S.length := by omega
      subst hks
      have e : d.S.take d.S.length = d.S := List.take_of_length_le (Nat.le_refl _)
      rw [e] at HO
      clear e hb
      obtain ⟨x0, x1⟩ := box2 HG0.out
      go_wp2
      clear x0 x1
      go_loopw [26] (fun i wr => ∃ (k : Nat) (A3 : Option Addr) (c3 : Nat), k ≤ d.P.length ∧ i = .int .i64 (k : Int) ∧ wr.heap[w.heap.size]? = some (.cells #[.slice A1 d.S.length c1, .slice A2 d.P.length c2] 26 (0, 0)) ∧ wr.heap[w.heap.size + 1]? = some (.cells #[.slice none 0 0, .slice none 0 0] 26 (0, 0)) ∧ wr.heap[w.heap.size + 1 + 1]? = some (.cells #[.slice A d.S.length c, .slice A3 k c3] 26 (0, 0)) ∧ wr.ownsRow (w.heap.size + 1 + 1 + 1) 9 1 (.slice A d.S.length c) d.S.length (d.S.flatMap encS) ∧ wr.ownsRow (w.heap.size + 1 + 1 + 1) 84 2 (.slice A3 k c3) k ((d.P.take k).flatMap encP) ∧ Below w.heap.size w wr) (fun i _ => d.P.length - (intOf i).toNat)
      case atStart => exact ⟨0, none, 0, by omega, rfl, HG0.out, HG1.out, HG2.out, HO.out, World.ownsRow_nil _ _ _ _, HB.out⟩
      case round =>
        clear HG0 HG1 HG2 HO HB hz
        obtain ⟨k, A3, c3, hk, rfl, hg0, hg1, hg2, hs, ho, hb⟩ := hrel
        have HG0 := Lib.hid hg0; have HG1 := Lib.hid hg1; have HG2 := Lib.hid hg2; have HO := Lib.hid ho; have HSO := Lib.hid hs; have HB := Lib.hid hb
        have hz := block_lt hg2
        clear hg0 hg1 hg2 ho hs
        by_cases hlt : k < d.P.length
        · obtain ⟨ad, c', e', had, hc, hd⟩ := (HP.out.below hb).two k hlt
          clear hb
          have hads : ad.block < wr.heap.size := by omega
          simp only [Value.slice.injEq, true_and] at e'
          obtain ⟨rfl, rfl⟩ := e'
          have HM := Lib.hid (HD4.out _ (getElem_mem' d.P k hlt))
          obtain ⟨t, ht⟩ : ∃ t, t = d.P[k] := ⟨_, rfl⟩
          rw [← ht] at hc hd HM
          have HT := Lib.hid ht; clear ht
          obtain ⟨x0, x1⟩ := box2 HG2.out
          have hzb : w.heap.size + 1 + 1 < wr.heap.size := hz
          go_wp2
          go_region_law (first
            | (go_simp
               go_at_call 80
               refine (strings_clone t.2 _ (by have := HM.out; omega)).mono ?_
               rintro e w1 ⟨rfl, hb1⟩
               have HB1 := Lib.hid (undrew hb1)
               obtain ⟨y0, y1⟩ := box2 (keep_blk HB1.out (alloc_blk HG2.out _))
               obtain ⟨z0, z1⟩ := box2 (keep_blk HB1.out (heap_alloc_new _ _))
               have hz1 : w.heap.size + 1 + 1 < w1.heap.size := by have := HB1.out.size; simp only [World.size_alloc] at this; omega
               have hz2 : wr.heap.size < w1.heap.size := by have := HB1.out.size; simp only [World.size_alloc] at this; omega
               clear hb1)
            | (refine step_append_sl pendType' _ rfl (.tmp 31) (.tmp 38) rfl (w.heap.size + 1 + 1 + 1) (.slice A3 k c3) k _ rfl (World.ownsRow.alloc (own_lift (World.ownsRow.alloc HO.out _) HB1.out) _) _ encP _ [t] rfl (sl_single (heap_at rfl) 2 encP t rfl) encP_len encP_one' (by simp; unfold maxLen; omega) (by simp; omega) (by simp; omega) ?_
               intro v2 w2 g2
               obtain ⟨A', c', rfl⟩ := g2.form
               have kb := Lib.hid (g2.below (B := w.heap.size + 1 + 1 + 1) (fun g hg => (World.ownsRow.lt HO.out g hg).1) (by simp; omega))
               have KG2 := Lib.hid (((kb.out.block (w.heap.size + 1 + 1) (by omega)).trans (alloc_blk (keep_blk HB1.out (alloc_blk HG2.out _)) _)))
               obtain ⟨q0, q1⟩ := box2 KG2.out
               have qf := block_free KG2.out 1
               have GO := Lib.hid g2.1
               have GS := Lib.hid (g2.other (World.ownsRow.alloc (own_lift (World.ownsRow.alloc HSO.out _) HB1.out) _) (World.ownsRow.alloc (own_lift (World.ownsRow.alloc HO.out _) HB1.out) _) (by decide))
               clear g2))
          all_goals
            have KG0 := Lib.hid (((kb.out.block w.heap.size (by omega)).trans (alloc_blk (keep_blk HB1.out (alloc_blk HG0.out _)) _)))
            have KG1 := Lib.hid (((kb.out.block (w.heap.size + 1) (by omega)).trans (alloc_blk (keep_blk HB1.out (alloc_blk HG1.out _)) _)))
            have KB := Lib.hid ((((HB.out.alloc HB.out.size _).trans (HB1.out.mono (by have := HB.out.size; simp only [World.size_alloc]; omega))).alloc (by have := HB.out.size; omega) (.cells #[.int .i64 t.1, .string t.2] 84)).trans (kb.out.mono (by omega)))
            clear x0 x1 q0 q1 qf
            go_wp2
            go_roundw
            case rel =>
              refine ⟨k + 1, A', c', by omega, by go_num, ?_, ?_, ?_, ?_, ?_, ?_⟩
              · exact (Below.heap_setCell _ _ _ _ (by simp only; omega)).trans KG0.out
              · exact (Below.heap_setCell _ _ _ _ (by simp only; omega)).trans KG1.out
              · simpa using block_set KG2.out 1 (.slice A' (k + 1) c')
              · exact ownsRow_setCell_below GS.out (by simp only; omega) _
              · have ho := GO.out
                have e : d.P.take (k + 1) = d.P.take k ++ [t] := by rw [List.take_succ_eq_append_getElem hlt, HT.out]
                rw [e, List.flatMap_append]
                exact ownsRow_setCell_below ho (by simp only; omega) _
              · exact KB.out.setCell (by simp only; omega) _
            case measure => simp [intOf]; omega
        · have hks : k = d.P.length := by omega
          subst hks
          have e : d.P.take d.P.length = d.P := List.take_of_length_le (Nat.le_refl _)
          rw [e] at HO
          clear e hb
          obtain ⟨x0, x1⟩ := box2 HG2.out
          obtain ⟨y0, y1⟩ := box2 HG1.out
          have f0 := block_free HG1.out 0
          have f1 := block_free HG1.out 1
          go_wp2
          refine bodyPost_ret (v := .agg #[.slice A d.S.length c, .slice A3 d.P.length c3]) (by simp [results, Tryz.results37, go_sem, y0, y1]) rfl ⟨_, rfl, ⟨_, _, rfl, ?_, ?_⟩, ?_⟩
          · exact (((show Ow wr _ 9 1 encS (.slice A d.S.length c) d.S from HSO.out).far (by simp only; omega) _).far (by simp only; omega) _).base (by omega)
          · exact (((show Ow wr _ 84 2 encP (.slice A3 d.P.length c3) d.P from HO.out).far (by simp only; omega) _).far (by simp only; omega) _).base (by omega)
          · exact (HB.out.setCell (by simp only; omega) _).setCell (by simp only; omega) _

end Go.Proofs.YthchlfllcnlmjaaGreatDoor
