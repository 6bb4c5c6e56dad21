/-
  One more put among a row in order: contracts of the model, for names and items.
-/
import Derived.Test.YtaggmcdfggmlhaaWith
namespace Go.Proofs.Ytaggmcdfggmlhaa
set_option linter.unusedSimpArgs false
set_option linter.unusedVariables false
open Go.ChangeShapes Go.WideShapes Go.ChangeAt Go.RowKit

set_option maxRecDepth 100000 in
set_option maxHeartbeats 16000000 in
theorem spec_insM (v : Value) (l : List Im) (x : Im) (base : Nat) (w : World) (hw : Ow w base 91 8 encM v l) (hl : l.length ≤ 1048576) :
    Calls Try.prog 160 #[v, vM x] w (WithR 91 8 encM Im.i v l x w) := by
  have hv := hw.sl encM_len
  have HW := Lib.hid hw; clear hw
  obtain ⟨A, c, rfl⟩ := hv.form
  have HV := Lib.hid hv; clear hv
  have HL0 := Lib.hid ((Lg.start w).alloc (.cells #[.int .i64 x.i.c, .int .i64 x.i.k, .int .i64 x.l.c, .int .i64 x.l.k, .int .i64 x.r.c, .int .i64 x.r.k, .string x.t, .bool x.g] 91))
  go_enter Try.func160, Try.ntmps160
  go_wp2
  go_loopw [5] (fun i wr => ∃ a : Nat, a ≤ l.length ∧ i = .int .i64 a ∧ LowTo Im.i l x.i a ∧ Lg w wr [(w.heap.size, .cells #[.int .i64 x.i.c, .int .i64 x.i.k, .int .i64 x.l.c, .int .i64 x.l.k, .int .i64 x.r.c, .int .i64 x.r.k, .string x.t, .bool x.g] 91)] []) (fun i _ => l.length - (intOf i).toNat)
  case atStart => exact ⟨0, Nat.zero_le _, rfl, lowTo_zero _ _ _, HL0.out⟩
  case round =>
    obtain ⟨a, ha, rfl, hlo, hL⟩ := hrel
    have HLO := Lib.hid hlo; have HL := Lib.hid hL; clear hlo hL
    by_cases hlt : a < l.length
    case pos =>
      have dl : decide ((a : Int) < (l.length : Int)) = true := by simp; omega
      have dl' : decide (a < l.length) = true := by simp; omega
      obtain ⟨y, hy⟩ : ∃ y, y = l[a] := ⟨_, rfl⟩
      have HV1 := Lib.hid (fun W (hb : Below w.heap.size w W) => (HV.out.below hb).item a hlt)
      rw [← hy] at HV1
      have HYY := Lib.hid hy; clear hy
      obtain ⟨a1, c1, e1, -, -, -, -, -, -, -, -, -⟩ := HV1.out _ HL.out.bel
      simp only [Value.slice.injEq, true_and] at e1
      obtain ⟨rfl, rfl⟩ := e1
      have HLE := Lib.hid (fun W => spec_less y.i x.i W)
      cases h3 : lessB y.i x.i with
      | true =>
        replace HLE := Lib.hid (fun W => (HLE.out W).mono fun _ _ h => Tell.to h h3)
        have HLT := Lib.hid ((lessB_iff _ _).1 h3)
        go_upto_region 2 with fail
        refine wp_region_calm_lg (told [(12, fun u => u = .bool true)]) (by kernel_rfl) (by kernel_rfl) (told_mono _) HL.out ?_
        repeat (first
          | (refine calm_skip (by rfl) ?_; try simp only [Act.put, List.setIfInBounds_toArray, List.set_cons_zero, List.set_cons_succ])
          | (refine calm_plain (by rfl) (by rfl) ?_; apply Exists.intro; refine ⟨fun wc hC hD => ?_, ?_⟩; (focus (clear hD; obtain ⟨b0, b1, b2, b3, b4, b5, b6, b7⟩ := box8 (hC.blk _ List.mem_cons_self); obtain ⟨p1, q1, e1, -, c0, c1, c2, c3, c4, c5, c6, c7⟩ := HV1.out _ hC.bel; simp only [Value.slice.injEq, true_and] at e1; obtain ⟨e1, e3⟩ := e1; cases e1; clear e3; clear hC; go_simp; first | done | with_reducible rfl)); try simp only [Act.put, List.setIfInBounds_toArray, List.set_cons_zero, List.set_cons_succ]))
        refine calm_call _ _ (by rfl) (by rfl) ?_ ?_
        focus
          apply Exists.intro
          apply Exists.intro
          refine ⟨fun wc hC hD => ?_, fun wc hC hD => ?_⟩
          focus (clear hD; obtain ⟨b0, b1, b2, b3, b4, b5, b6, b7⟩ := box8 (hC.blk _ List.mem_cons_self); obtain ⟨p1, q1, e1, -, c0, c1, c2, c3, c4, c5, c6, c7⟩ := HV1.out _ hC.bel; simp only [Value.slice.injEq, true_and] at e1; obtain ⟨e1, e3⟩ := e1; cases e1; clear e3; clear hC; go_simp; first | done | with_reducible exact ⟨rfl, rfl⟩ | with_reducible rfl)
          clear hD
          with_reducible refine (HLE.out _).mono ?_
          rintro e wx ⟨rfl, hb⟩
          exact ⟨_, rfl, hb, rfl, trivial⟩
        rintro _ rfl
        try simp only [Act.put, List.setIfInBounds_toArray, List.set_cons_zero, List.set_cons_succ]
        repeat (first
          | (refine calm_skip (by rfl) ?_; try simp only [Act.put, List.setIfInBounds_toArray, List.set_cons_zero, List.set_cons_succ])
          | (refine calm_plain (by rfl) (by rfl) ?_; apply Exists.intro; refine ⟨fun wc hC hD => ?_, ?_⟩; (focus (clear hD; obtain ⟨b0, b1, b2, b3, b4, b5, b6, b7⟩ := box8 (hC.blk _ List.mem_cons_self); obtain ⟨p1, q1, e1, -, c0, c1, c2, c3, c4, c5, c6, c7⟩ := HV1.out _ hC.bel; simp only [Value.slice.injEq, true_and] at e1; obtain ⟨e1, e3⟩ := e1; cases e1; clear e3; clear hC; go_simp; first | done | with_reducible rfl)); try simp only [Act.put, List.setIfInBounds_toArray, List.set_cons_zero, List.set_cons_succ]))
        refine calm_end ?_
        intro w7 hL7 hF7
        clear hF7
        replace HL := Lib.hid hL7
        clear hL7
        go_wp2
        go_roundw
        case rel => exact ⟨a + 1, by omega, by go_num, lowTo_step HLO.out hlt (by rw [← HYY.out]; exact HLT.out), HL.out⟩
        case measure => simp [intOf]; omega
      | false =>
        replace HLE := Lib.hid (fun W => (HLE.out W).mono fun _ _ h => Tell.to h h3)
        have HS := Lib.hid (spot_is ha HLO.out (fun hk => by rw [← HYY.out]; exact fun h => by rw [lessB_t h] at h3; cases h3))
        go_upto_region 2 with fail
        refine wp_region_calm_lg (told [(12, fun u => u = .bool false)]) (by kernel_rfl) (by kernel_rfl) (told_mono _) HL.out ?_
        repeat (first
          | (refine calm_skip (by rfl) ?_; try simp only [Act.put, List.setIfInBounds_toArray, List.set_cons_zero, List.set_cons_succ])
          | (refine calm_plain (by rfl) (by rfl) ?_; apply Exists.intro; refine ⟨fun wc hC hD => ?_, ?_⟩; (focus (clear hD; obtain ⟨b0, b1, b2, b3, b4, b5, b6, b7⟩ := box8 (hC.blk _ List.mem_cons_self); obtain ⟨p1, q1, e1, -, c0, c1, c2, c3, c4, c5, c6, c7⟩ := HV1.out _ hC.bel; simp only [Value.slice.injEq, true_and] at e1; obtain ⟨e1, e3⟩ := e1; cases e1; clear e3; clear hC; go_simp; first | done | with_reducible rfl)); try simp only [Act.put, List.setIfInBounds_toArray, List.set_cons_zero, List.set_cons_succ]))
        refine calm_call _ _ (by rfl) (by rfl) ?_ ?_
        focus
          apply Exists.intro
          apply Exists.intro
          refine ⟨fun wc hC hD => ?_, fun wc hC hD => ?_⟩
          focus (clear hD; obtain ⟨b0, b1, b2, b3, b4, b5, b6, b7⟩ := box8 (hC.blk _ List.mem_cons_self); obtain ⟨p1, q1, e1, -, c0, c1, c2, c3, c4, c5, c6, c7⟩ := HV1.out _ hC.bel; simp only [Value.slice.injEq, true_and] at e1; obtain ⟨e1, e3⟩ := e1; cases e1; clear e3; clear hC; go_simp; first | done | with_reducible exact ⟨rfl, rfl⟩ | with_reducible rfl)
          clear hD
          with_reducible refine (HLE.out _).mono ?_
          rintro e wx ⟨rfl, hb⟩
          exact ⟨_, rfl, hb, rfl, trivial⟩
        rintro _ rfl
        try simp only [Act.put, List.setIfInBounds_toArray, List.set_cons_zero, List.set_cons_succ]
        repeat (first
          | (refine calm_skip (by rfl) ?_; try simp only [Act.put, List.setIfInBounds_toArray, List.set_cons_zero, List.set_cons_succ])
          | (refine calm_plain (by rfl) (by rfl) ?_; apply Exists.intro; refine ⟨fun wc hC hD => ?_, ?_⟩; (focus (clear hD; obtain ⟨b0, b1, b2, b3, b4, b5, b6, b7⟩ := box8 (hC.blk _ List.mem_cons_self); obtain ⟨p1, q1, e1, -, c0, c1, c2, c3, c4, c5, c6, c7⟩ := HV1.out _ hC.bel; simp only [Value.slice.injEq, true_and] at e1; obtain ⟨e1, e3⟩ := e1; cases e1; clear e3; clear hC; go_simp; first | done | with_reducible rfl)); try simp only [Act.put, List.setIfInBounds_toArray, List.set_cons_zero, List.set_cons_succ]))
        refine calm_end ?_
        intro w7 hL7 hF7
        clear hF7
        replace HL := Lib.hid hL7
        clear hL7
        go_wp2
        clear HLE h3
        cases he : eqN y.i x.i with
        | true =>
          have HE := Lib.hid (show ThereP Im.i l x.i from ⟨by rw [HS.out]; exact hlt, by simp only [HS.out]; rw [← HYY.out]; exact eqN_t.1 he⟩)
          go_upto_region 4 with fail
          refine wp_region_calm_lg (told []) (by kernel_rfl) (by kernel_rfl) (told_mono _) HL.out ?_
          repeat (first
            | (refine calm_skip (by rfl) ?_; try simp only [Act.put, List.setIfInBounds_toArray, List.set_cons_zero, List.set_cons_succ])
            | (refine calm_plain (by rfl) (by rfl) ?_; apply Exists.intro; refine ⟨fun wc hC hD => ?_, ?_⟩; (focus (clear hD; obtain ⟨b0, b1, b2, b3, b4, b5, b6, b7⟩ := box8 (hC.blk _ List.mem_cons_self); obtain ⟨p1, q1, e1, -, c0, c1, c2, c3, c4, c5, c6, c7⟩ := HV1.out _ hC.bel; simp only [Value.slice.injEq, true_and] at e1; obtain ⟨e1, e3⟩ := e1; cases e1; clear e3; clear hC; go_simp; first | done | with_reducible rfl)); try simp only [Act.put, List.setIfInBounds_toArray, List.set_cons_zero, List.set_cons_succ]))
          refine calm_end ?_
          intro w7 hL7 hF7
          clear hF7
          replace HL := Lib.hid hL7
          clear hL7
          go_wp2
          go_ret
          exact ⟨_, rfl, HL.out.bel, fun _ => rfl, fun h => absurd HE.out h⟩
        | false =>
          have HE := Lib.hid (show ¬ ThereP Im.i l x.i from fun ⟨h1, h2⟩ => by
            simp only [HS.out] at h2; rw [← HYY.out] at h2; rw [h2] at he; simp [eqN] at he)
          go_upto_region 4 with fail
          refine wp_region_calm_lg (told []) (by kernel_rfl) (by kernel_rfl) (told_mono _) HL.out ?_
          repeat (first
            | (refine calm_skip (by rfl) ?_; try simp only [Act.put, List.setIfInBounds_toArray, List.set_cons_zero, List.set_cons_succ])
            | (refine calm_plain (by rfl) (by rfl) ?_; apply Exists.intro; refine ⟨fun wc hC hD => ?_, ?_⟩; (focus (clear hD; obtain ⟨b0, b1, b2, b3, b4, b5, b6, b7⟩ := box8 (hC.blk _ List.mem_cons_self); obtain ⟨p1, q1, e1, -, c0, c1, c2, c3, c4, c5, c6, c7⟩ := HV1.out _ hC.bel; simp only [Value.slice.injEq, true_and] at e1; obtain ⟨e1, e3⟩ := e1; cases e1; clear e3; clear hC; go_simp; first | done | with_reducible rfl)); try simp only [Act.put, List.setIfInBounds_toArray, List.set_cons_zero, List.set_cons_succ]))
          refine calm_end ?_
          intro w7 hL7 hF7
          clear hF7
          replace HL := Lib.hid hL7
          clear hL7
          clear HV1 HYY he
          rcases HW.out.2 with ⟨hA, h0⟩ | ⟨gg, cap, cur, hA, -, -, hc1, hc2, -⟩
          · omega
          simp only [Value.slice.injEq, true_and, Option.some.injEq] at hA
          obtain ⟨rfl, rfl⟩ := hA
          have hsc : a ≤ c := by omega
          have hlc : l.length ≤ c := hc1
          have hca : ¬ c = a := by omega
          have HOE := Lib.hid (own_empty (heap_alloc_new w7 (.cells #[] 91)) w.heap.size 8 (by have := HL.out.bel.size; omega))
          go_wp2_with (at_builtin; refine list_append_sl itemType _ rfl _ _ rfl w.heap.size (.slice (some ⟨w7.heap.size, 0, none⟩) 0 0) 0 [] rfl HOE.out w.heap.size encM _ (l.take a) rfl (sl_take (HV.out.below (ball HL.out.bel _ (by have := HL.out.bel.size; omega))) a c ha) encM_len encM_one (by first | (unfold maxLen; omega) | (simp; unfold maxLen; omega)) (by first | omega | (simp; done) | (simp; omega)) (by have := HL.out.bel.size; first | omega | (simp; omega)) ?_)
          intro v3 w3 g3
          have hn3' : a ≤ 1048576 := by omega
          obtain ⟨A3, c3, rfl⟩ := g3.form
          have HG3 := Lib.hid g3.1
          have HB7 := Lib.hid (show Below w7.heap.size w7 w3 from Below.trans ((Below.refl w7.heap.size w7).alloc (Nat.le_refl _) _) (g3.below (fun g hgg => by simp only [Value.ownBlock, Option.some.injEq] at hgg; omega) (by simp)))
          clear g3
          replace HL := Lib.hid (HL.out.lift HB7.out)
          clear HB7 HOE
          obtain ⟨b0, b1, b2, b3, b4, b5, b6, b7⟩ := box8 (HL.out.blk _ List.mem_cons_self)
          go_wp2_with (at_builtin; refine list_append_sl itemType _ rfl _ _ rfl w.heap.size (.slice A3 a c3) a _ rfl (World.ownsRow.alloc HG3.out _) _ encM _ [x] rfl (sl_single (heap_at (by simp)) 8 encM x rfl) encM_len encM_one (by first | (unfold maxLen; omega) | (simp; unfold maxLen; omega)) (by first | omega | (simp; done) | (simp; omega)) (by have := HL.out.bel.size; first | omega | (simp; omega)) ?_)
          intro v4 w4 g4
          obtain ⟨A4, c4, rfl⟩ := g4.form
          have HG4 := Lib.hid g4.1
          replace HL := Lib.hid (show Lg w w4 [] [] from ⟨Below.trans HL.out.bel (Below.trans ((Below.refl w.heap.size w3).alloc HL.out.bel.size _) (g4.below (fun g hgg => (World.ownsRow.lt HG3.out g hgg).1) (by have := HL.out.bel.size; simp; omega))), fun p hp => absurd hp (by simp), fun p hp => absurd hp (by simp), fun p hp => absurd hp (by simp)⟩)
          clear g4 b0 b1 b2 b3 b4 b5 b6 b7
          have HSD := Lib.hid (show Sl w4 w.heap.size 8 encM (.slice (some ⟨gg, a * 8, none⟩) (l.length - a) (c - a)) (l.drop a) from by have h := sl_dropif (HV.out.below HL.out.bel) a (c - a) ha hlc; rwa [if_neg hca] at h)
          go_wp2_with (at_builtin; (refine list_append_sl itemType _ rfl _ _ rfl w.heap.size (.slice A4 (a + 1) c4) (a + 1) _ rfl HG4.out w.heap.size encM _ (l.drop a) rfl HSD.out encM_len encM_one (by first | (unfold maxLen; omega) | (simp; unfold maxLen; omega)) (by first | omega | (simp; done) | (simp; omega)) (by have := HL.out.bel.size; omega) ?_))
          intro v5 w5 g5
          obtain ⟨A5, c5, rfl⟩ := g5.form
          have HG5 := Lib.hid g5.1
          have HB5 := Lib.hid (Below.trans HL.out.bel (g5.below (fun g hgg => (World.ownsRow.lt HG4.out g hgg).1) HL.out.bel.size))
          clear g5
          go_wp2
          go_ret
          refine ⟨.slice A5 (a + 1 + (l.length - a)) c5, rfl, HB5.out, fun h => absurd h HE.out, fun _ => ?_⟩
          rw [with_new HE.out, HS.out]
          have e : l.take a ++ x :: l.drop a = ((l.take a) ++ [x]) ++ (l.drop a) := by simp
          have el : (a + 1 + (l.length - a)) = (((l.take a) ++ [x]) ++ (l.drop a)).length := by simp; try omega
          rw [e]
          unfold Ow
          rw [← el]
          have h := HG5.out
          simpa using h
    case neg =>
      have hkl : a = l.length := by omega
      have dl : decide ((a : Int) < (l.length : Int)) = false := by simp; omega
      have dl' : decide (a < l.length) = false := by simp; omega
      have HS := Lib.hid (spot_is ha HLO.out (fun hk => absurd hk (by omega)))
      have HE := Lib.hid (show ¬ ThereP Im.i l x.i from fun ⟨h1, h2⟩ => by rw [HS.out] at h1; omega)
      go_upto_region 2 with fail
      refine wp_region_calm_lg (told []) (by kernel_rfl) (by kernel_rfl) (told_mono _) HL.out ?_
      repeat (first
        | (refine calm_skip (by rfl) ?_; try simp only [Act.put, List.setIfInBounds_toArray, List.set_cons_zero, List.set_cons_succ])
        | (refine calm_plain (by rfl) (by rfl) ?_; apply Exists.intro; refine ⟨fun wc hC hD => ?_, ?_⟩; (focus (clear hD; obtain ⟨b0, b1, b2, b3, b4, b5, b6, b7⟩ := box8 (hC.blk _ List.mem_cons_self); clear hC; go_simp; first | done | with_reducible rfl)); try simp only [Act.put, List.setIfInBounds_toArray, List.set_cons_zero, List.set_cons_succ]))
      refine calm_end ?_
      intro w7 hL7 hF7
      clear hF7
      replace HL := Lib.hid hL7
      clear hL7
      go_wp2
      go_upto_region 4 with fail
      refine wp_region_calm_lg (told []) (by kernel_rfl) (by kernel_rfl) (told_mono _) HL.out ?_
      repeat (first
        | (refine calm_skip (by rfl) ?_; try simp only [Act.put, List.setIfInBounds_toArray, List.set_cons_zero, List.set_cons_succ])
        | (refine calm_plain (by rfl) (by rfl) ?_; apply Exists.intro; refine ⟨fun wc hC hD => ?_, ?_⟩; (focus (clear hD; obtain ⟨b0, b1, b2, b3, b4, b5, b6, b7⟩ := box8 (hC.blk _ List.mem_cons_self); clear hC; go_simp; first | done | with_reducible rfl)); try simp only [Act.put, List.setIfInBounds_toArray, List.set_cons_zero, List.set_cons_succ]))
      refine calm_end ?_
      intro w7 hL7 hF7
      clear hF7
      replace HL := Lib.hid hL7
      clear hL7
      rcases HW.out.2 with ⟨hA, h0⟩ | ⟨gg, cap, cur, hA, -, -, hc1, hc2, -⟩
      · simp only [Value.slice.injEq] at hA
        obtain ⟨rfl, _, rfl⟩ := hA
        obtain rfl : l = [] := List.length_eq_zero_iff.1 h0
        obtain rfl : a = 0 := by simpa using hkl
        clear hlt hkl dl dl'
        have HOE := Lib.hid (own_empty (heap_alloc_new w7 (.cells #[] 91)) w.heap.size 8 (by have := HL.out.bel.size; omega))
        go_wp2_with (at_builtin; refine list_append_sl itemType _ rfl _ _ rfl w.heap.size (.slice (some ⟨w7.heap.size, 0, none⟩) 0 0) 0 [] rfl HOE.out w.heap.size encM _ ([] : List Im) rfl (Sl.nil_ _ w.heap.size 8 encM 0 none) encM_len encM_one (by first | (unfold maxLen; omega) | (simp; unfold maxLen; omega)) (by first | omega | (simp; done) | (simp; omega)) (by have := HL.out.bel.size; first | omega | (simp; omega)) ?_)
        intro v3 w3 g3
        have hn3' : 0 ≤ 1048576 := by omega
        obtain ⟨A3, c3, rfl⟩ := g3.form
        have HG3 := Lib.hid g3.1
        have HB7 := Lib.hid (show Below w7.heap.size w7 w3 from Below.trans ((Below.refl w7.heap.size w7).alloc (Nat.le_refl _) _) (g3.below (fun g hgg => by simp only [Value.ownBlock, Option.some.injEq] at hgg; omega) (by simp)))
        clear g3
        replace HL := Lib.hid (HL.out.lift HB7.out)
        clear HB7 HOE
        obtain ⟨b0, b1, b2, b3, b4, b5, b6, b7⟩ := box8 (HL.out.blk _ List.mem_cons_self)
        go_wp2_with (at_builtin; refine list_append_sl itemType _ rfl _ _ rfl w.heap.size (.slice A3 0 c3) 0 _ rfl (World.ownsRow.alloc HG3.out _) _ encM _ [x] rfl (sl_single (heap_at (by simp)) 8 encM x rfl) encM_len encM_one (by first | (unfold maxLen; omega) | (simp; unfold maxLen; omega)) (by first | omega | (simp; done) | (simp; omega)) (by have := HL.out.bel.size; first | omega | (simp; omega)) ?_)
        intro v4 w4 g4
        obtain ⟨A4, c4, rfl⟩ := g4.form
        have HG4 := Lib.hid g4.1
        replace HL := Lib.hid (show Lg w w4 [] [] from ⟨Below.trans HL.out.bel (Below.trans ((Below.refl w.heap.size w3).alloc HL.out.bel.size _) (g4.below (fun g hgg => (World.ownsRow.lt HG3.out g hgg).1) (by have := HL.out.bel.size; simp; omega))), fun p hp => absurd hp (by simp), fun p hp => absurd hp (by simp), fun p hp => absurd hp (by simp)⟩)
        clear g4 b0 b1 b2 b3 b4 b5 b6 b7
        skip
        go_wp2_with (at_builtin; (refine list_append_sl itemType _ rfl _ _ rfl w.heap.size (.slice A4 1 c4) 1 _ rfl HG4.out w.heap.size encM _ ([] : List Im) rfl (Sl.nil_ _ w.heap.size 8 encM _ _) encM_len encM_one (by first | (unfold maxLen; omega) | (simp; unfold maxLen; omega)) (by first | omega | (simp; done) | (simp; omega)) (by have := HL.out.bel.size; omega) ?_))
        intro v5 w5 g5
        obtain ⟨A5, c5, rfl⟩ := g5.form
        have HG5 := Lib.hid g5.1
        have HB5 := Lib.hid (Below.trans HL.out.bel (g5.below (fun g hgg => (World.ownsRow.lt HG4.out g hgg).1) HL.out.bel.size))
        clear g5
        go_wp2
        go_ret
        refine ⟨.slice A5 1 c5, rfl, HB5.out, fun h => absurd h HE.out, fun _ => ?_⟩
        rw [with_new HE.out, HS.out]
        have e : ([] : List Im).take 0 ++ x :: ([] : List Im).drop 0 = (([] : List Im) ++ [x]) ++ ([] : List Im) := by simp
        have el : 1 = ((([] : List Im) ++ [x]) ++ ([] : List Im)).length := by simp; try omega
        rw [e]
        unfold Ow
        rw [← el]
        have h := HG5.out
        simpa using h
      · simp only [Value.slice.injEq, true_and] at hA
        obtain ⟨rfl, rfl⟩ := hA
        have hsc : a ≤ c := by omega
        have hlc : l.length ≤ c := hc1
        clear dl dl' hlt hkl
        by_cases hca : c = a
        · subst hca
          have HOE := Lib.hid (own_empty (heap_alloc_new w7 (.cells #[] 91)) w.heap.size 8 (by have := HL.out.bel.size; omega))
          go_wp2_with (at_builtin; refine list_append_sl itemType _ rfl _ _ rfl w.heap.size (.slice (some ⟨w7.heap.size, 0, none⟩) 0 0) 0 [] rfl HOE.out w.heap.size encM _ (l.take c) rfl (sl_take (HV.out.below (ball HL.out.bel _ (by have := HL.out.bel.size; omega))) c c ha) encM_len encM_one (by first | (unfold maxLen; omega) | (simp; unfold maxLen; omega)) (by first | omega | (simp; done) | (simp; omega)) (by have := HL.out.bel.size; first | omega | (simp; omega)) ?_)
          intro v3 w3 g3
          have hn3' : c ≤ 1048576 := by omega
          obtain ⟨A3, c3, rfl⟩ := g3.form
          have HG3 := Lib.hid g3.1
          have HB7 := Lib.hid (show Below w7.heap.size w7 w3 from Below.trans ((Below.refl w7.heap.size w7).alloc (Nat.le_refl _) _) (g3.below (fun g hgg => by simp only [Value.ownBlock, Option.some.injEq] at hgg; omega) (by simp)))
          clear g3
          replace HL := Lib.hid (HL.out.lift HB7.out)
          clear HB7 HOE
          obtain ⟨b0, b1, b2, b3, b4, b5, b6, b7⟩ := box8 (HL.out.blk _ List.mem_cons_self)
          go_wp2_with (at_builtin; refine list_append_sl itemType _ rfl _ _ rfl w.heap.size (.slice A3 c c3) c _ rfl (World.ownsRow.alloc HG3.out _) _ encM _ [x] rfl (sl_single (heap_at (by simp)) 8 encM x rfl) encM_len encM_one (by first | (unfold maxLen; omega) | (simp; unfold maxLen; omega)) (by first | omega | (simp; done) | (simp; omega)) (by have := HL.out.bel.size; first | omega | (simp; omega)) ?_)
          intro v4 w4 g4
          obtain ⟨A4, c4, rfl⟩ := g4.form
          have HG4 := Lib.hid g4.1
          replace HL := Lib.hid (show Lg w w4 [] [] from ⟨Below.trans HL.out.bel (Below.trans ((Below.refl w.heap.size w3).alloc HL.out.bel.size _) (g4.below (fun g hgg => (World.ownsRow.lt HG3.out g hgg).1) (by have := HL.out.bel.size; simp; omega))), fun p hp => absurd hp (by simp), fun p hp => absurd hp (by simp), fun p hp => absurd hp (by simp)⟩)
          clear g4 b0 b1 b2 b3 b4 b5 b6 b7
          skip
          go_wp2_with (at_builtin; (refine list_append_sl itemType _ rfl _ _ rfl w.heap.size (.slice A4 (c + 1) c4) (c + 1) _ rfl HG4.out w.heap.size encM _ ([] : List Im) rfl (Sl.nil_ _ w.heap.size 8 encM _ _) encM_len encM_one (by first | (unfold maxLen; omega) | (simp; unfold maxLen; omega)) (by first | omega | (simp; done) | (simp; omega)) (by have := HL.out.bel.size; omega) ?_))
          intro v5 w5 g5
          obtain ⟨A5, c5, rfl⟩ := g5.form
          have HG5 := Lib.hid g5.1
          have HB5 := Lib.hid (Below.trans HL.out.bel (g5.below (fun g hgg => (World.ownsRow.lt HG4.out g hgg).1) HL.out.bel.size))
          clear g5
          go_wp2
          go_ret
          refine ⟨.slice A5 (c + 1) c5, rfl, HB5.out, fun h => absurd h HE.out, fun _ => ?_⟩
          rw [with_new HE.out, HS.out]
          have e : l.take c ++ x :: l.drop c = ((l.take c) ++ [x]) ++ ([] : List Im) := by rw [List.drop_eq_nil_of_le hlc]; simp
          have el : (c + 1) = (((l.take c) ++ [x]) ++ ([] : List Im)).length := by simp; try omega
          rw [e]
          unfold Ow
          rw [← el]
          have h := HG5.out
          simpa using h
        · skip
          have HOE := Lib.hid (own_empty (heap_alloc_new w7 (.cells #[] 91)) w.heap.size 8 (by have := HL.out.bel.size; omega))
          go_wp2_with (at_builtin; refine list_append_sl itemType _ rfl _ _ rfl w.heap.size (.slice (some ⟨w7.heap.size, 0, none⟩) 0 0) 0 [] rfl HOE.out w.heap.size encM _ (l.take a) rfl (sl_take (HV.out.below (ball HL.out.bel _ (by have := HL.out.bel.size; omega))) a c ha) encM_len encM_one (by first | (unfold maxLen; omega) | (simp; unfold maxLen; omega)) (by first | omega | (simp; done) | (simp; omega)) (by have := HL.out.bel.size; first | omega | (simp; omega)) ?_)
          intro v3 w3 g3
          have hn3' : a ≤ 1048576 := by omega
          obtain ⟨A3, c3, rfl⟩ := g3.form
          have HG3 := Lib.hid g3.1
          have HB7 := Lib.hid (show Below w7.heap.size w7 w3 from Below.trans ((Below.refl w7.heap.size w7).alloc (Nat.le_refl _) _) (g3.below (fun g hgg => by simp only [Value.ownBlock, Option.some.injEq] at hgg; omega) (by simp)))
          clear g3
          replace HL := Lib.hid (HL.out.lift HB7.out)
          clear HB7 HOE
          obtain ⟨b0, b1, b2, b3, b4, b5, b6, b7⟩ := box8 (HL.out.blk _ List.mem_cons_self)
          go_wp2_with (at_builtin; refine list_append_sl itemType _ rfl _ _ rfl w.heap.size (.slice A3 a c3) a _ rfl (World.ownsRow.alloc HG3.out _) _ encM _ [x] rfl (sl_single (heap_at (by simp)) 8 encM x rfl) encM_len encM_one (by first | (unfold maxLen; omega) | (simp; unfold maxLen; omega)) (by first | omega | (simp; done) | (simp; omega)) (by have := HL.out.bel.size; first | omega | (simp; omega)) ?_)
          intro v4 w4 g4
          obtain ⟨A4, c4, rfl⟩ := g4.form
          have HG4 := Lib.hid g4.1
          replace HL := Lib.hid (show Lg w w4 [] [] from ⟨Below.trans HL.out.bel (Below.trans ((Below.refl w.heap.size w3).alloc HL.out.bel.size _) (g4.below (fun g hgg => (World.ownsRow.lt HG3.out g hgg).1) (by have := HL.out.bel.size; simp; omega))), fun p hp => absurd hp (by simp), fun p hp => absurd hp (by simp), fun p hp => absurd hp (by simp)⟩)
          clear g4 b0 b1 b2 b3 b4 b5 b6 b7
          have HSD := Lib.hid (show Sl w4 w.heap.size 8 encM (.slice (some ⟨gg, a * 8, none⟩) (l.length - a) (c - a)) (l.drop a) from by have h := sl_dropif (HV.out.below HL.out.bel) a (c - a) ha hlc; rwa [if_neg hca] at h)
          go_wp2_with (at_builtin; (refine list_append_sl itemType _ rfl _ _ rfl w.heap.size (.slice A4 (a + 1) c4) (a + 1) _ rfl HG4.out w.heap.size encM _ (l.drop a) rfl HSD.out encM_len encM_one (by first | (unfold maxLen; omega) | (simp; unfold maxLen; omega)) (by first | omega | (simp; done) | (simp; omega)) (by have := HL.out.bel.size; omega) ?_))
          intro v5 w5 g5
          obtain ⟨A5, c5, rfl⟩ := g5.form
          have HG5 := Lib.hid g5.1
          have HB5 := Lib.hid (Below.trans HL.out.bel (g5.below (fun g hgg => (World.ownsRow.lt HG4.out g hgg).1) HL.out.bel.size))
          clear g5
          go_wp2
          go_ret
          refine ⟨.slice A5 (a + 1 + (l.length - a)) c5, rfl, HB5.out, fun h => absurd h HE.out, fun _ => ?_⟩
          rw [with_new HE.out, HS.out]
          have e : l.take a ++ x :: l.drop a = ((l.take a) ++ [x]) ++ (l.drop a) := by simp
          have el : (a + 1 + (l.length - a)) = (((l.take a) ++ [x]) ++ (l.drop a)).length := by simp; try omega
          rw [e]
          unfold Ow
          rw [← el]
          have h := HG5.out
          simpa using h

set_option maxRecDepth 100000 in
set_option maxHeartbeats 16000000 in
theorem spec_insI (v : Value) (l : List Nm) (x : Nm) (base : Nat) (w : World) (hw : Ow w base 89 2 encN v l) (hl : l.length ≤ 1048576) :
    Calls Try.prog 158 #[v, vN x] w (WithR 89 2 encN nmI v l x w) := by
  have hv := hw.sl encN_len
  have HW := Lib.hid hw; clear hw
  obtain ⟨A, c, rfl⟩ := hv.form
  have HV := Lib.hid hv; clear hv
  have HL0 := Lib.hid ((Lg.start w).alloc (.cells #[.int .i64 x.c, .int .i64 x.k] 89))
  go_enter Try.func158, Try.ntmps158
  go_wp2
  go_loopw [5] (fun i wr => ∃ a : Nat, a ≤ l.length ∧ i = .int .i64 a ∧ LowTo nmI l (nmI x) a ∧ Lg w wr [(w.heap.size, .cells #[.int .i64 x.c, .int .i64 x.k] 89)] []) (fun i _ => l.length - (intOf i).toNat)
  case atStart => exact ⟨0, Nat.zero_le _, rfl, lowTo_zero _ _ _, HL0.out⟩
  case round =>
    obtain ⟨a, ha, rfl, hlo, hL⟩ := hrel
    have HLO := Lib.hid hlo; have HL := Lib.hid hL; clear hlo hL
    by_cases hlt : a < l.length
    case pos =>
      have dl : decide ((a : Int) < (l.length : Int)) = true := by simp; omega
      have dl' : decide (a < l.length) = true := by simp; omega
      obtain ⟨y, hy⟩ : ∃ y, y = l[a] := ⟨_, rfl⟩
      have HV1 := Lib.hid (fun W (hb : Below w.heap.size w W) => (HV.out.below hb).two a hlt)
      rw [← hy] at HV1
      have HYY := Lib.hid hy; clear hy
      obtain ⟨a1, c1, e1, -, -, -⟩ := HV1.out _ HL.out.bel
      simp only [Value.slice.injEq, true_and] at e1
      obtain ⟨rfl, rfl⟩ := e1
      have HLE := Lib.hid (fun W => spec_less (nmI y) (nmI x) W)
      cases h3 : lessB (nmI y) (nmI x) with
      | true =>
        replace HLE := Lib.hid (fun W => (HLE.out W).mono fun _ _ h => Tell.to h h3)
        have HLT := Lib.hid ((lessB_iff _ _).1 h3)
        go_upto_region 2 with fail
        refine wp_region_calm_lg (told [(10, fun u => u = .bool true)]) (by kernel_rfl) (by kernel_rfl) (told_mono _) HL.out ?_
        repeat (first
          | (refine calm_skip (by rfl) ?_; try simp only [Act.put, List.setIfInBounds_toArray, List.set_cons_zero, List.set_cons_succ])
          | (refine calm_plain (by rfl) (by rfl) ?_; apply Exists.intro; refine ⟨fun wc hC hD => ?_, ?_⟩; (focus (clear hD; obtain ⟨b0, b1⟩ := box2 (hC.blk _ List.mem_cons_self); obtain ⟨p1, q1, e1, -, c0, c1⟩ := HV1.out _ hC.bel; simp only [Value.slice.injEq, true_and] at e1; obtain ⟨e1, e3⟩ := e1; cases e1; clear e3; clear hC; go_simp; first | done | with_reducible rfl)); try simp only [Act.put, List.setIfInBounds_toArray, List.set_cons_zero, List.set_cons_succ]))
        refine calm_call _ _ (by rfl) (by rfl) ?_ ?_
        focus
          apply Exists.intro
          apply Exists.intro
          refine ⟨fun wc hC hD => ?_, fun wc hC hD => ?_⟩
          focus (clear hD; obtain ⟨b0, b1⟩ := box2 (hC.blk _ List.mem_cons_self); obtain ⟨p1, q1, e1, -, c0, c1⟩ := HV1.out _ hC.bel; simp only [Value.slice.injEq, true_and] at e1; obtain ⟨e1, e3⟩ := e1; cases e1; clear e3; clear hC; go_simp; first | done | with_reducible exact ⟨rfl, rfl⟩ | with_reducible rfl)
          clear hD
          with_reducible refine (HLE.out _).mono ?_
          rintro e wx ⟨rfl, hb⟩
          exact ⟨_, rfl, hb, rfl, trivial⟩
        rintro _ rfl
        try simp only [Act.put, List.setIfInBounds_toArray, List.set_cons_zero, List.set_cons_succ]
        repeat (first
          | (refine calm_skip (by rfl) ?_; try simp only [Act.put, List.setIfInBounds_toArray, List.set_cons_zero, List.set_cons_succ])
          | (refine calm_plain (by rfl) (by rfl) ?_; apply Exists.intro; refine ⟨fun wc hC hD => ?_, ?_⟩; (focus (clear hD; obtain ⟨b0, b1⟩ := box2 (hC.blk _ List.mem_cons_self); obtain ⟨p1, q1, e1, -, c0, c1⟩ := HV1.out _ hC.bel; simp only [Value.slice.injEq, true_and] at e1; obtain ⟨e1, e3⟩ := e1; cases e1; clear e3; clear hC; go_simp; first | done | with_reducible rfl)); try simp only [Act.put, List.setIfInBounds_toArray, List.set_cons_zero, List.set_cons_succ]))
        refine calm_end ?_
        intro w7 hL7 hF7
        clear hF7
        replace HL := Lib.hid hL7
        clear hL7
        go_wp2
        go_roundw
        case rel => exact ⟨a + 1, by omega, by go_num, lowTo_step HLO.out hlt (by rw [← HYY.out]; exact HLT.out), HL.out⟩
        case measure => simp [intOf]; omega
      | false =>
        replace HLE := Lib.hid (fun W => (HLE.out W).mono fun _ _ h => Tell.to h h3)
        have HS := Lib.hid (spot_is ha HLO.out (fun hk => by rw [← HYY.out]; exact fun h => by rw [lessB_t h] at h3; cases h3))
        go_upto_region 2 with fail
        refine wp_region_calm_lg (told [(10, fun u => u = .bool false)]) (by kernel_rfl) (by kernel_rfl) (told_mono _) HL.out ?_
        repeat (first
          | (refine calm_skip (by rfl) ?_; try simp only [Act.put, List.setIfInBounds_toArray, List.set_cons_zero, List.set_cons_succ])
          | (refine calm_plain (by rfl) (by rfl) ?_; apply Exists.intro; refine ⟨fun wc hC hD => ?_, ?_⟩; (focus (clear hD; obtain ⟨b0, b1⟩ := box2 (hC.blk _ List.mem_cons_self); obtain ⟨p1, q1, e1, -, c0, c1⟩ := HV1.out _ hC.bel; simp only [Value.slice.injEq, true_and] at e1; obtain ⟨e1, e3⟩ := e1; cases e1; clear e3; clear hC; go_simp; first | done | with_reducible rfl)); try simp only [Act.put, List.setIfInBounds_toArray, List.set_cons_zero, List.set_cons_succ]))
        refine calm_call _ _ (by rfl) (by rfl) ?_ ?_
        focus
          apply Exists.intro
          apply Exists.intro
          refine ⟨fun wc hC hD => ?_, fun wc hC hD => ?_⟩
          focus (clear hD; obtain ⟨b0, b1⟩ := box2 (hC.blk _ List.mem_cons_self); obtain ⟨p1, q1, e1, -, c0, c1⟩ := HV1.out _ hC.bel; simp only [Value.slice.injEq, true_and] at e1; obtain ⟨e1, e3⟩ := e1; cases e1; clear e3; clear hC; go_simp; first | done | with_reducible exact ⟨rfl, rfl⟩ | with_reducible rfl)
          clear hD
          with_reducible refine (HLE.out _).mono ?_
          rintro e wx ⟨rfl, hb⟩
          exact ⟨_, rfl, hb, rfl, trivial⟩
        rintro _ rfl
        try simp only [Act.put, List.setIfInBounds_toArray, List.set_cons_zero, List.set_cons_succ]
        repeat (first
          | (refine calm_skip (by rfl) ?_; try simp only [Act.put, List.setIfInBounds_toArray, List.set_cons_zero, List.set_cons_succ])
          | (refine calm_plain (by rfl) (by rfl) ?_; apply Exists.intro; refine ⟨fun wc hC hD => ?_, ?_⟩; (focus (clear hD; obtain ⟨b0, b1⟩ := box2 (hC.blk _ List.mem_cons_self); obtain ⟨p1, q1, e1, -, c0, c1⟩ := HV1.out _ hC.bel; simp only [Value.slice.injEq, true_and] at e1; obtain ⟨e1, e3⟩ := e1; cases e1; clear e3; clear hC; go_simp; first | done | with_reducible rfl)); try simp only [Act.put, List.setIfInBounds_toArray, List.set_cons_zero, List.set_cons_succ]))
        refine calm_end ?_
        intro w7 hL7 hF7
        clear hF7
        replace HL := Lib.hid hL7
        clear hL7
        go_wp2
        clear HLE h3
        cases he : eqN (nmI y) (nmI x) with
        | true =>
          have HE := Lib.hid (show ThereP nmI l (nmI x) from ⟨by rw [HS.out]; exact hlt, by simp only [HS.out]; rw [← HYY.out]; exact eqN_t.1 he⟩)
          go_upto_region 4 with fail
          refine wp_region_calm_lg (told []) (by kernel_rfl) (by kernel_rfl) (told_mono _) HL.out ?_
          repeat (first
            | (refine calm_skip (by rfl) ?_; try simp only [Act.put, List.setIfInBounds_toArray, List.set_cons_zero, List.set_cons_succ])
            | (refine calm_plain (by rfl) (by rfl) ?_; apply Exists.intro; refine ⟨fun wc hC hD => ?_, ?_⟩; (focus (clear hD; obtain ⟨b0, b1⟩ := box2 (hC.blk _ List.mem_cons_self); obtain ⟨p1, q1, e1, -, c0, c1⟩ := HV1.out _ hC.bel; simp only [Value.slice.injEq, true_and] at e1; obtain ⟨e1, e3⟩ := e1; cases e1; clear e3; clear hC; go_simp; first | done | with_reducible rfl)); try simp only [Act.put, List.setIfInBounds_toArray, List.set_cons_zero, List.set_cons_succ]))
          refine calm_end ?_
          intro w7 hL7 hF7
          clear hF7
          replace HL := Lib.hid hL7
          clear hL7
          go_wp2
          go_ret
          exact ⟨_, rfl, HL.out.bel, fun _ => rfl, fun h => absurd HE.out h⟩
        | false =>
          have HE := Lib.hid (show ¬ ThereP nmI l (nmI x) from fun ⟨h1, h2⟩ => by
            simp only [HS.out] at h2; rw [← HYY.out] at h2; rw [h2] at he; simp [eqN] at he)
          go_upto_region 4 with fail
          refine wp_region_calm_lg (told []) (by kernel_rfl) (by kernel_rfl) (told_mono _) HL.out ?_
          repeat (first
            | (refine calm_skip (by rfl) ?_; try simp only [Act.put, List.setIfInBounds_toArray, List.set_cons_zero, List.set_cons_succ])
            | (refine calm_plain (by rfl) (by rfl) ?_; apply Exists.intro; refine ⟨fun wc hC hD => ?_, ?_⟩; (focus (clear hD; obtain ⟨b0, b1⟩ := box2 (hC.blk _ List.mem_cons_self); obtain ⟨p1, q1, e1, -, c0, c1⟩ := HV1.out _ hC.bel; simp only [Value.slice.injEq, true_and] at e1; obtain ⟨e1, e3⟩ := e1; cases e1; clear e3; clear hC; go_simp; first | done | with_reducible rfl)); try simp only [Act.put, List.setIfInBounds_toArray, List.set_cons_zero, List.set_cons_succ]))
          refine calm_end ?_
          intro w7 hL7 hF7
          clear hF7
          replace HL := Lib.hid hL7
          clear hL7
          clear HV1 HYY he
          rcases HW.out.2 with ⟨hA, h0⟩ | ⟨gg, cap, cur, hA, -, -, hc1, hc2, -⟩
          · omega
          simp only [Value.slice.injEq, true_and, Option.some.injEq] at hA
          obtain ⟨rfl, rfl⟩ := hA
          have hsc : a ≤ c := by omega
          have hlc : l.length ≤ c := hc1
          have hca : ¬ c = a := by omega
          have HOE := Lib.hid (own_empty (heap_alloc_new w7 (.cells #[] 89)) w.heap.size 2 (by have := HL.out.bel.size; omega))
          go_wp2_with (at_builtin; refine list_append_sl idType _ rfl _ _ rfl w.heap.size (.slice (some ⟨w7.heap.size, 0, none⟩) 0 0) 0 [] rfl HOE.out w.heap.size encN _ (l.take a) rfl (sl_take (HV.out.below (ball HL.out.bel _ (by have := HL.out.bel.size; omega))) a c ha) encN_len encN_one (by first | (unfold maxLen; omega) | (simp; unfold maxLen; omega)) (by first | omega | (simp; done) | (simp; omega)) (by have := HL.out.bel.size; first | omega | (simp; omega)) ?_)
          intro v3 w3 g3
          have hn3' : a ≤ 1048576 := by omega
          obtain ⟨A3, c3, rfl⟩ := g3.form
          have HG3 := Lib.hid g3.1
          have HB7 := Lib.hid (show Below w7.heap.size w7 w3 from Below.trans ((Below.refl w7.heap.size w7).alloc (Nat.le_refl _) _) (g3.below (fun g hgg => by simp only [Value.ownBlock, Option.some.injEq] at hgg; omega) (by simp)))
          clear g3
          replace HL := Lib.hid (HL.out.lift HB7.out)
          clear HB7 HOE
          obtain ⟨b0, b1⟩ := box2 (HL.out.blk _ List.mem_cons_self)
          go_wp2_with (at_builtin; refine list_append_sl idType _ rfl _ _ rfl w.heap.size (.slice A3 a c3) a _ rfl (World.ownsRow.alloc HG3.out _) _ encN _ [x] rfl (sl_single (heap_at (by simp)) 2 encN x rfl) encN_len encN_one (by first | (unfold maxLen; omega) | (simp; unfold maxLen; omega)) (by first | omega | (simp; done) | (simp; omega)) (by have := HL.out.bel.size; first | omega | (simp; omega)) ?_)
          intro v4 w4 g4
          obtain ⟨A4, c4, rfl⟩ := g4.form
          have HG4 := Lib.hid g4.1
          replace HL := Lib.hid (show Lg w w4 [] [] from ⟨Below.trans HL.out.bel (Below.trans ((Below.refl w.heap.size w3).alloc HL.out.bel.size _) (g4.below (fun g hgg => (World.ownsRow.lt HG3.out g hgg).1) (by have := HL.out.bel.size; simp; omega))), fun p hp => absurd hp (by simp), fun p hp => absurd hp (by simp), fun p hp => absurd hp (by simp)⟩)
          clear g4 b0 b1
          have HSD := Lib.hid (show Sl w4 w.heap.size 2 encN (.slice (some ⟨gg, a * 2, none⟩) (l.length - a) (c - a)) (l.drop a) from by have h := sl_dropif (HV.out.below HL.out.bel) a (c - a) ha hlc; rwa [if_neg hca] at h)
          go_wp2_with (at_builtin; (refine list_append_sl idType _ rfl _ _ rfl w.heap.size (.slice A4 (a + 1) c4) (a + 1) _ rfl HG4.out w.heap.size encN _ (l.drop a) rfl HSD.out encN_len encN_one (by first | (unfold maxLen; omega) | (simp; unfold maxLen; omega)) (by first | omega | (simp; done) | (simp; omega)) (by have := HL.out.bel.size; omega) ?_))
          intro v5 w5 g5
          obtain ⟨A5, c5, rfl⟩ := g5.form
          have HG5 := Lib.hid g5.1
          have HB5 := Lib.hid (Below.trans HL.out.bel (g5.below (fun g hgg => (World.ownsRow.lt HG4.out g hgg).1) HL.out.bel.size))
          clear g5
          go_wp2
          go_ret
          refine ⟨.slice A5 (a + 1 + (l.length - a)) c5, rfl, HB5.out, fun h => absurd h HE.out, fun _ => ?_⟩
          rw [with_new HE.out, HS.out]
          have e : l.take a ++ x :: l.drop a = ((l.take a) ++ [x]) ++ (l.drop a) := by simp
          have el : (a + 1 + (l.length - a)) = (((l.take a) ++ [x]) ++ (l.drop a)).length := by simp; try omega
          rw [e]
          unfold Ow
          rw [← el]
          have h := HG5.out
          simpa using h
    case neg =>
      have hkl : a = l.length := by omega
      have dl : decide ((a : Int) < (l.length : Int)) = false := by simp; omega
      have dl' : decide (a < l.length) = false := by simp; omega
      have HS := Lib.hid (spot_is ha HLO.out (fun hk => absurd hk (by omega)))
      have HE := Lib.hid (show ¬ ThereP nmI l (nmI x) from fun ⟨h1, h2⟩ => by rw [HS.out] at h1; omega)
      go_upto_region 2 with fail
      refine wp_region_calm_lg (told []) (by kernel_rfl) (by kernel_rfl) (told_mono _) HL.out ?_
      repeat (first
        | (refine calm_skip (by rfl) ?_; try simp only [Act.put, List.setIfInBounds_toArray, List.set_cons_zero, List.set_cons_succ])
        | (refine calm_plain (by rfl) (by rfl) ?_; apply Exists.intro; refine ⟨fun wc hC hD => ?_, ?_⟩; (focus (clear hD; obtain ⟨b0, b1⟩ := box2 (hC.blk _ List.mem_cons_self); clear hC; go_simp; first | done | with_reducible rfl)); try simp only [Act.put, List.setIfInBounds_toArray, List.set_cons_zero, List.set_cons_succ]))
      refine calm_end ?_
      intro w7 hL7 hF7
      clear hF7
      replace HL := Lib.hid hL7
      clear hL7
      go_wp2
      go_upto_region 4 with fail
      refine wp_region_calm_lg (told []) (by kernel_rfl) (by kernel_rfl) (told_mono _) HL.out ?_
      repeat (first
        | (refine calm_skip (by rfl) ?_; try simp only [Act.put, List.setIfInBounds_toArray, List.set_cons_zero, List.set_cons_succ])
        | (refine calm_plain (by rfl) (by rfl) ?_; apply Exists.intro; refine ⟨fun wc hC hD => ?_, ?_⟩; (focus (clear hD; obtain ⟨b0, b1⟩ := box2 (hC.blk _ List.mem_cons_self); clear hC; go_simp; first | done | with_reducible rfl)); try simp only [Act.put, List.setIfInBounds_toArray, List.set_cons_zero, List.set_cons_succ]))
      refine calm_end ?_
      intro w7 hL7 hF7
      clear hF7
      replace HL := Lib.hid hL7
      clear hL7
      rcases HW.out.2 with ⟨hA, h0⟩ | ⟨gg, cap, cur, hA, -, -, hc1, hc2, -⟩
      · simp only [Value.slice.injEq] at hA
        obtain ⟨rfl, _, rfl⟩ := hA
        obtain rfl : l = [] := List.length_eq_zero_iff.1 h0
        obtain rfl : a = 0 := by simpa using hkl
        clear hlt hkl dl dl'
        have HOE := Lib.hid (own_empty (heap_alloc_new w7 (.cells #[] 89)) w.heap.size 2 (by have := HL.out.bel.size; omega))
        go_wp2_with (at_builtin; refine list_append_sl idType _ rfl _ _ rfl w.heap.size (.slice (some ⟨w7.heap.size, 0, none⟩) 0 0) 0 [] rfl HOE.out w.heap.size encN _ ([] : List Nm) rfl (Sl.nil_ _ w.heap.size 2 encN 0 none) encN_len encN_one (by first | (unfold maxLen; omega) | (simp; unfold maxLen; omega)) (by first | omega | (simp; done) | (simp; omega)) (by have := HL.out.bel.size; first | omega | (simp; omega)) ?_)
        intro v3 w3 g3
        have hn3' : 0 ≤ 1048576 := by omega
        obtain ⟨A3, c3, rfl⟩ := g3.form
        have HG3 := Lib.hid g3.1
        have HB7 := Lib.hid (show Below w7.heap.size w7 w3 from Below.trans ((Below.refl w7.heap.size w7).alloc (Nat.le_refl _) _) (g3.below (fun g hgg => by simp only [Value.ownBlock, Option.some.injEq] at hgg; omega) (by simp)))
        clear g3
        replace HL := Lib.hid (HL.out.lift HB7.out)
        clear HB7 HOE
        obtain ⟨b0, b1⟩ := box2 (HL.out.blk _ List.mem_cons_self)
        go_wp2_with (at_builtin; refine list_append_sl idType _ rfl _ _ rfl w.heap.size (.slice A3 0 c3) 0 _ rfl (World.ownsRow.alloc HG3.out _) _ encN _ [x] rfl (sl_single (heap_at (by simp)) 2 encN x rfl) encN_len encN_one (by first | (unfold maxLen; omega) | (simp; unfold maxLen; omega)) (by first | omega | (simp; done) | (simp; omega)) (by have := HL.out.bel.size; first | omega | (simp; omega)) ?_)
        intro v4 w4 g4
        obtain ⟨A4, c4, rfl⟩ := g4.form
        have HG4 := Lib.hid g4.1
        replace HL := Lib.hid (show Lg w w4 [] [] from ⟨Below.trans HL.out.bel (Below.trans ((Below.refl w.heap.size w3).alloc HL.out.bel.size _) (g4.below (fun g hgg => (World.ownsRow.lt HG3.out g hgg).1) (by have := HL.out.bel.size; simp; omega))), fun p hp => absurd hp (by simp), fun p hp => absurd hp (by simp), fun p hp => absurd hp (by simp)⟩)
        clear g4 b0 b1
        skip
        go_wp2_with (at_builtin; (refine list_append_sl idType _ rfl _ _ rfl w.heap.size (.slice A4 1 c4) 1 _ rfl HG4.out w.heap.size encN _ ([] : List Nm) rfl (Sl.nil_ _ w.heap.size 2 encN _ _) encN_len encN_one (by first | (unfold maxLen; omega) | (simp; unfold maxLen; omega)) (by first | omega | (simp; done) | (simp; omega)) (by have := HL.out.bel.size; omega) ?_))
        intro v5 w5 g5
        obtain ⟨A5, c5, rfl⟩ := g5.form
        have HG5 := Lib.hid g5.1
        have HB5 := Lib.hid (Below.trans HL.out.bel (g5.below (fun g hgg => (World.ownsRow.lt HG4.out g hgg).1) HL.out.bel.size))
        clear g5
        go_wp2
        go_ret
        refine ⟨.slice A5 1 c5, rfl, HB5.out, fun h => absurd h HE.out, fun _ => ?_⟩
        rw [with_new HE.out, HS.out]
        have e : ([] : List Nm).take 0 ++ x :: ([] : List Nm).drop 0 = (([] : List Nm) ++ [x]) ++ ([] : List Nm) := by simp
        have el : 1 = ((([] : List Nm) ++ [x]) ++ ([] : List Nm)).length := by simp; try omega
        rw [e]
        unfold Ow
        rw [← el]
        have h := HG5.out
        simpa using h
      · simp only [Value.slice.injEq, true_and] at hA
        obtain ⟨rfl, rfl⟩ := hA
        have hsc : a ≤ c := by omega
        have hlc : l.length ≤ c := hc1
        clear dl dl' hlt hkl
        by_cases hca : c = a
        · subst hca
          have HOE := Lib.hid (own_empty (heap_alloc_new w7 (.cells #[] 89)) w.heap.size 2 (by have := HL.out.bel.size; omega))
          go_wp2_with (at_builtin; refine list_append_sl idType _ rfl _ _ rfl w.heap.size (.slice (some ⟨w7.heap.size, 0, none⟩) 0 0) 0 [] rfl HOE.out w.heap.size encN _ (l.take c) rfl (sl_take (HV.out.below (ball HL.out.bel _ (by have := HL.out.bel.size; omega))) c c ha) encN_len encN_one (by first | (unfold maxLen; omega) | (simp; unfold maxLen; omega)) (by first | omega | (simp; done) | (simp; omega)) (by have := HL.out.bel.size; first | omega | (simp; omega)) ?_)
          intro v3 w3 g3
          have hn3' : c ≤ 1048576 := by omega
          obtain ⟨A3, c3, rfl⟩ := g3.form
          have HG3 := Lib.hid g3.1
          have HB7 := Lib.hid (show Below w7.heap.size w7 w3 from Below.trans ((Below.refl w7.heap.size w7).alloc (Nat.le_refl _) _) (g3.below (fun g hgg => by simp only [Value.ownBlock, Option.some.injEq] at hgg; omega) (by simp)))
          clear g3
          replace HL := Lib.hid (HL.out.lift HB7.out)
          clear HB7 HOE
          obtain ⟨b0, b1⟩ := box2 (HL.out.blk _ List.mem_cons_self)
          go_wp2_with (at_builtin; refine list_append_sl idType _ rfl _ _ rfl w.heap.size (.slice A3 c c3) c _ rfl (World.ownsRow.alloc HG3.out _) _ encN _ [x] rfl (sl_single (heap_at (by simp)) 2 encN x rfl) encN_len encN_one (by first | (unfold maxLen; omega) | (simp; unfold maxLen; omega)) (by first | omega | (simp; done) | (simp; omega)) (by have := HL.out.bel.size; first | omega | (simp; omega)) ?_)
          intro v4 w4 g4
          obtain ⟨A4, c4, rfl⟩ := g4.form
          have HG4 := Lib.hid g4.1
          replace HL := Lib.hid (show Lg w w4 [] [] from ⟨Below.trans HL.out.bel (Below.trans ((Below.refl w.heap.size w3).alloc HL.out.bel.size _) (g4.below (fun g hgg => (World.ownsRow.lt HG3.out g hgg).1) (by have := HL.out.bel.size; simp; omega))), fun p hp => absurd hp (by simp), fun p hp => absurd hp (by simp), fun p hp => absurd hp (by simp)⟩)
          clear g4 b0 b1
          skip
          go_wp2_with (at_builtin; (refine list_append_sl idType _ rfl _ _ rfl w.heap.size (.slice A4 (c + 1) c4) (c + 1) _ rfl HG4.out w.heap.size encN _ ([] : List Nm) rfl (Sl.nil_ _ w.heap.size 2 encN _ _) encN_len encN_one (by first | (unfold maxLen; omega) | (simp; unfold maxLen; omega)) (by first | omega | (simp; done) | (simp; omega)) (by have := HL.out.bel.size; omega) ?_))
          intro v5 w5 g5
          obtain ⟨A5, c5, rfl⟩ := g5.form
          have HG5 := Lib.hid g5.1
          have HB5 := Lib.hid (Below.trans HL.out.bel (g5.below (fun g hgg => (World.ownsRow.lt HG4.out g hgg).1) HL.out.bel.size))
          clear g5
          go_wp2
          go_ret
          refine ⟨.slice A5 (c + 1) c5, rfl, HB5.out, fun h => absurd h HE.out, fun _ => ?_⟩
          rw [with_new HE.out, HS.out]
          have e : l.take c ++ x :: l.drop c = ((l.take c) ++ [x]) ++ ([] : List Nm) := by rw [List.drop_eq_nil_of_le hlc]; simp
          have el : (c + 1) = (((l.take c) ++ [x]) ++ ([] : List Nm)).length := by simp; try omega
          rw [e]
          unfold Ow
          rw [← el]
          have h := HG5.out
          simpa using h
        · skip
          have HOE := Lib.hid (own_empty (heap_alloc_new w7 (.cells #[] 89)) w.heap.size 2 (by have := HL.out.bel.size; omega))
          go_wp2_with (at_builtin; refine list_append_sl idType _ rfl _ _ rfl w.heap.size (.slice (some ⟨w7.heap.size, 0, none⟩) 0 0) 0 [] rfl HOE.out w.heap.size encN _ (l.take a) rfl (sl_take (HV.out.below (ball HL.out.bel _ (by have := HL.out.bel.size; omega))) a c ha) encN_len encN_one (by first | (unfold maxLen; omega) | (simp; unfold maxLen; omega)) (by first | omega | (simp; done) | (simp; omega)) (by have := HL.out.bel.size; first | omega | (simp; omega)) ?_)
          intro v3 w3 g3
          have hn3' : a ≤ 1048576 := by omega
          obtain ⟨A3, c3, rfl⟩ := g3.form
          have HG3 := Lib.hid g3.1
          have HB7 := Lib.hid (show Below w7.heap.size w7 w3 from Below.trans ((Below.refl w7.heap.size w7).alloc (Nat.le_refl _) _) (g3.below (fun g hgg => by simp only [Value.ownBlock, Option.some.injEq] at hgg; omega) (by simp)))
          clear g3
          replace HL := Lib.hid (HL.out.lift HB7.out)
          clear HB7 HOE
          obtain ⟨b0, b1⟩ := box2 (HL.out.blk _ List.mem_cons_self)
          go_wp2_with (at_builtin; refine list_append_sl idType _ rfl _ _ rfl w.heap.size (.slice A3 a c3) a _ rfl (World.ownsRow.alloc HG3.out _) _ encN _ [x] rfl (sl_single (heap_at (by simp)) 2 encN x rfl) encN_len encN_one (by first | (unfold maxLen; omega) | (simp; unfold maxLen; omega)) (by first | omega | (simp; done) | (simp; omega)) (by have := HL.out.bel.size; first | omega | (simp; omega)) ?_)
          intro v4 w4 g4
          obtain ⟨A4, c4, rfl⟩ := g4.form
          have HG4 := Lib.hid g4.1
          replace HL := Lib.hid (show Lg w w4 [] [] from ⟨Below.trans HL.out.bel (Below.trans ((Below.refl w.heap.size w3).alloc HL.out.bel.size _) (g4.below (fun g hgg => (World.ownsRow.lt HG3.out g hgg).1) (by have := HL.out.bel.size; simp; omega))), fun p hp => absurd hp (by simp), fun p hp => absurd hp (by simp), fun p hp => absurd hp (by simp)⟩)
          clear g4 b0 b1
          have HSD := Lib.hid (show Sl w4 w.heap.size 2 encN (.slice (some ⟨gg, a * 2, none⟩) (l.length - a) (c - a)) (l.drop a) from by have h := sl_dropif (HV.out.below HL.out.bel) a (c - a) ha hlc; rwa [if_neg hca] at h)
          go_wp2_with (at_builtin; (refine list_append_sl idType _ rfl _ _ rfl w.heap.size (.slice A4 (a + 1) c4) (a + 1) _ rfl HG4.out w.heap.size encN _ (l.drop a) rfl HSD.out encN_len encN_one (by first | (unfold maxLen; omega) | (simp; unfold maxLen; omega)) (by first | omega | (simp; done) | (simp; omega)) (by have := HL.out.bel.size; omega) ?_))
          intro v5 w5 g5
          obtain ⟨A5, c5, rfl⟩ := g5.form
          have HG5 := Lib.hid g5.1
          have HB5 := Lib.hid (Below.trans HL.out.bel (g5.below (fun g hgg => (World.ownsRow.lt HG4.out g hgg).1) HL.out.bel.size))
          clear g5
          go_wp2
          go_ret
          refine ⟨.slice A5 (a + 1 + (l.length - a)) c5, rfl, HB5.out, fun h => absurd h HE.out, fun _ => ?_⟩
          rw [with_new HE.out, HS.out]
          have e : l.take a ++ x :: l.drop a = ((l.take a) ++ [x]) ++ (l.drop a) := by simp
          have el : (a + 1 + (l.length - a)) = (((l.take a) ++ [x]) ++ (l.drop a)).length := by simp; try omega
          rw [e]
          unfold Ow
          rw [← el]
          have h := HG5.out
          simpa using h

end Go.Proofs.Ytaggmcdfggmlhaa
