/-
  Whether a row is in order: contracts of the program, for marks, items, names.
-/
import Derived.Test.YtaggmcdfggmlhaaRowN
namespace Go.Proofs.Ytaggmcdfggmlhaa
set_option linter.unusedSimpArgs false
set_option linter.unusedVariables false
open Go.ChangeShapes Go.WideShapes Go.ChangeAt Go.RowKit

set_option maxRecDepth 100000 in
set_option maxHeartbeats 4000000 in
theorem impl_riseK (v : Value) (l : List Nm) (w : World) (hv : Sl w w.heap.size 2 encN v l) (hl : l.length ≤ 140737488351232) :
    Calls Try.prog 89 #[v] w (Tell (riseB nmK l) w) := by
  obtain ⟨A, c, rfl⟩ := hv.form
  have HV := Lib.hid hv; clear hv
  go_enter Try.func89, Try.ntmps89
  go_wp2
  go_loopw [3] (fun i wr => ∃ k : Nat, 1 ≤ k ∧ k ≤ l.length + 1 ∧ i = .int .i64 k ∧ RiseTo nmK l k ∧ Below w.heap.size w wr) (fun i _ => l.length + 1 - (intOf i).toNat)
  case atStart => exact ⟨1, by omega, by omega, rfl, riseTo_one _ _, Below.refl _ _⟩
  case round =>
    obtain ⟨k, hk1, hk, rfl, hn, hb⟩ := hrel
    have HN := Lib.hid hn; have HL := Lib.hid (Lg.of hb); clear hn hb
    by_cases hlt : k < l.length
    · obtain ⟨j, hj⟩ : ∃ j, k = j + 1 := ⟨k - 1, by omega⟩
      have hjl : j < l.length := by omega
      have ek : (k : Int) - 1 = (j : Int) := by omega
      have ew : IntKind.i64.wrap (j : Int) = (j : Int) := IntWalk.i64_in _ (by omega)
      have HJ := Lib.hid hj; clear hj
      obtain ⟨x, hx⟩ : ∃ x, x = l[k] := ⟨_, rfl⟩
      obtain ⟨y, hy⟩ : ∃ y, y = l[j] := ⟨_, rfl⟩
      have HV1 := Lib.hid (fun W (hb : Below w.heap.size w W) => (HV.out.below hb).two j hjl)
      have HV2 := Lib.hid (fun W (hb : Below w.heap.size w W) => (HV.out.below hb).two k hlt)
      rw [← hy] at HV1
      rw [← hx] at HV2
      have HXX := Lib.hid hx; have HYY := Lib.hid hy; clear hx hy
      have HCM := Lib.hid (fun W => impl_compare (nmK y) (nmK x) W)
      have HCL := Lib.hid (cmpN_less (nmK y) (nmK x))
      obtain ⟨q, hq⟩ : ∃ q, q = cmpN (nmK y) (nmK x) := ⟨_, rfl⟩
      rw [← hq] at HCM HCL
      clear hq
      obtain ⟨a1, c1, e1, -, -, -⟩ := HV1.out _ HL.out.bel
      simp only [Value.slice.injEq, true_and] at e1
      obtain ⟨rfl, rfl⟩ := e1
      by_cases h3 : 0 ≤ q
      · have d3 : decide ((0 : Int) ≤ q) = true := decide_eq_true h3
        have HE := Lib.hid (riseB_no (f := nmK) (l := l) (fun h => by have h' := h k hlt hlt j HJ.out hjl; rw [← HYY.out, ← HXX.out] at h'; exact HCL.out.1 h3 h'))
        go_upto_region 4 with fail
        refine wp_region_calm_lg (told [(6, fun u => u = vN (nmK y)), (12, fun u => u = vN (nmK x)), (13, fun u => u = .int .i64 q)]) (by kernel_rfl) (by kernel_rfl) (told_mono _) HL.out ?_
        repeat (first
          | (refine calm_skip (by rfl) ?_; try simp only [Act.put, List.setIfInBounds_toArray, List.set_cons_zero, List.set_cons_succ])
          | (refine calm_plain (by rfl) (by rfl) ?_; apply Exists.intro; refine ⟨fun wc hC hD => ?_, ?_⟩; (focus (clear hD; obtain ⟨p1, q1, e1, -, c0, c1⟩ := HV1.out _ hC.bel; obtain ⟨p2, q2, e2, -, d0, d1⟩ := HV2.out _ hC.bel; simp only [Value.slice.injEq, true_and] at e1 e2; obtain ⟨e1, e3⟩ := e1; obtain ⟨e2, e4⟩ := e2; cases e1; cases e2; clear e3 e4; clear hC; go_simp; first | done | with_reducible rfl)); try simp only [Act.put, List.setIfInBounds_toArray, List.set_cons_zero, List.set_cons_succ]))
        refine calm_call _ _ (by rfl) (by rfl) ?_ ?_
        focus
          apply Exists.intro
          apply Exists.intro
          refine ⟨fun wc hC hD => ?_, fun wc hC hD => ?_⟩
          focus (clear hD; obtain ⟨p1, q1, e1, -, c0, c1⟩ := HV1.out _ hC.bel; obtain ⟨p2, q2, e2, -, d0, d1⟩ := HV2.out _ hC.bel; simp only [Value.slice.injEq, true_and] at e1 e2; obtain ⟨e1, e3⟩ := e1; obtain ⟨e2, e4⟩ := e2; cases e1; cases e2; clear e3 e4; clear hC; go_simp; first | done | with_reducible exact ⟨rfl, rfl⟩ | with_reducible rfl)
          clear hD
          with_reducible refine (impl_nmK y _).mono ?_
          rintro e wx ⟨rfl, hb⟩
          exact ⟨_, rfl, hb, rfl, trivial⟩
        rintro _ rfl
        try simp only [Act.put, List.setIfInBounds_toArray, List.set_cons_zero, List.set_cons_succ]
        repeat (first
          | (refine calm_skip (by rfl) ?_; try simp only [Act.put, List.setIfInBounds_toArray, List.set_cons_zero, List.set_cons_succ])
          | (refine calm_plain (by rfl) (by rfl) ?_; apply Exists.intro; refine ⟨fun wc hC hD => ?_, ?_⟩; (focus (clear hD; obtain ⟨p1, q1, e1, -, c0, c1⟩ := HV1.out _ hC.bel; obtain ⟨p2, q2, e2, -, d0, d1⟩ := HV2.out _ hC.bel; simp only [Value.slice.injEq, true_and] at e1 e2; obtain ⟨e1, e3⟩ := e1; obtain ⟨e2, e4⟩ := e2; cases e1; cases e2; clear e3 e4; clear hC; go_simp; first | done | with_reducible rfl)); try simp only [Act.put, List.setIfInBounds_toArray, List.set_cons_zero, List.set_cons_succ]))
        refine calm_call _ _ (by rfl) (by rfl) ?_ ?_
        focus
          apply Exists.intro
          apply Exists.intro
          refine ⟨fun wc hC hD => ?_, fun wc hC hD => ?_⟩
          focus (clear hD; obtain ⟨p1, q1, e1, -, c0, c1⟩ := HV1.out _ hC.bel; obtain ⟨p2, q2, e2, -, d0, d1⟩ := HV2.out _ hC.bel; simp only [Value.slice.injEq, true_and] at e1 e2; obtain ⟨e1, e3⟩ := e1; obtain ⟨e2, e4⟩ := e2; cases e1; cases e2; clear e3 e4; clear hC; go_simp; first | done | with_reducible exact ⟨rfl, rfl⟩ | with_reducible rfl)
          clear hD
          with_reducible refine (impl_nmK x _).mono ?_
          rintro e wx ⟨rfl, hb⟩
          exact ⟨_, rfl, hb, rfl, trivial⟩
        rintro _ rfl
        try simp only [Act.put, List.setIfInBounds_toArray, List.set_cons_zero, List.set_cons_succ]
        repeat (first
          | (refine calm_skip (by rfl) ?_; try simp only [Act.put, List.setIfInBounds_toArray, List.set_cons_zero, List.set_cons_succ])
          | (refine calm_plain (by rfl) (by rfl) ?_; apply Exists.intro; refine ⟨fun wc hC hD => ?_, ?_⟩; (focus (clear hD; obtain ⟨p1, q1, e1, -, c0, c1⟩ := HV1.out _ hC.bel; obtain ⟨p2, q2, e2, -, d0, d1⟩ := HV2.out _ hC.bel; simp only [Value.slice.injEq, true_and] at e1 e2; obtain ⟨e1, e3⟩ := e1; obtain ⟨e2, e4⟩ := e2; cases e1; cases e2; clear e3 e4; clear hC; go_simp; first | done | with_reducible rfl)); try simp only [Act.put, List.setIfInBounds_toArray, List.set_cons_zero, List.set_cons_succ]))
        refine calm_call _ _ (by rfl) (by rfl) ?_ ?_
        focus
          apply Exists.intro
          apply Exists.intro
          refine ⟨fun wc hC hD => ?_, fun wc hC hD => ?_⟩
          focus (clear hD; obtain ⟨p1, q1, e1, -, c0, c1⟩ := HV1.out _ hC.bel; obtain ⟨p2, q2, e2, -, d0, d1⟩ := HV2.out _ hC.bel; simp only [Value.slice.injEq, true_and] at e1 e2; obtain ⟨e1, e3⟩ := e1; obtain ⟨e2, e4⟩ := e2; cases e1; cases e2; clear e3 e4; clear hC; go_simp; first | done | with_reducible exact ⟨rfl, rfl⟩ | with_reducible rfl)
          clear hD
          with_reducible refine (HCM.out _).mono ?_
          rintro e wx ⟨rfl, hb⟩
          exact ⟨_, rfl, hb, rfl, trivial⟩
        rintro _ rfl
        try simp only [Act.put, List.setIfInBounds_toArray, List.set_cons_zero, List.set_cons_succ]
        repeat (first
          | (refine calm_skip (by rfl) ?_; try simp only [Act.put, List.setIfInBounds_toArray, List.set_cons_zero, List.set_cons_succ])
          | (refine calm_plain (by rfl) (by rfl) ?_; apply Exists.intro; refine ⟨fun wc hC hD => ?_, ?_⟩; (focus (clear hD; obtain ⟨p1, q1, e1, -, c0, c1⟩ := HV1.out _ hC.bel; obtain ⟨p2, q2, e2, -, d0, d1⟩ := HV2.out _ hC.bel; simp only [Value.slice.injEq, true_and] at e1 e2; obtain ⟨e1, e3⟩ := e1; obtain ⟨e2, e4⟩ := e2; cases e1; cases e2; clear e3 e4; clear hC; go_simp; first | done | with_reducible rfl)); try simp only [Act.put, List.setIfInBounds_toArray, List.set_cons_zero, List.set_cons_succ]))
        refine calm_end ?_
        intro w7 hL7 hF7
        clear hF7
        replace HL := Lib.hid hL7
        clear hL7
        go_wp2
        go_ret
        exact ⟨ret_bool HE.out.symm, HL.out.bel⟩
      · have d3 : decide ((0 : Int) ≤ q) = false := decide_eq_false h3
        have HE := Lib.hid (show LessP (nmK y) (nmK x) from Classical.byContradiction (fun hc => h3 (HCL.out.2 hc)))
        go_upto_region 4 with fail
        refine wp_region_calm_lg (told [(6, fun u => u = vN (nmK y)), (12, fun u => u = vN (nmK x)), (13, fun u => u = .int .i64 q)]) (by kernel_rfl) (by kernel_rfl) (told_mono _) HL.out ?_
        repeat (first
          | (refine calm_skip (by rfl) ?_; try simp only [Act.put, List.setIfInBounds_toArray, List.set_cons_zero, List.set_cons_succ])
          | (refine calm_plain (by rfl) (by rfl) ?_; apply Exists.intro; refine ⟨fun wc hC hD => ?_, ?_⟩; (focus (clear hD; obtain ⟨p1, q1, e1, -, c0, c1⟩ := HV1.out _ hC.bel; obtain ⟨p2, q2, e2, -, d0, d1⟩ := HV2.out _ hC.bel; simp only [Value.slice.injEq, true_and] at e1 e2; obtain ⟨e1, e3⟩ := e1; obtain ⟨e2, e4⟩ := e2; cases e1; cases e2; clear e3 e4; clear hC; go_simp; first | done | with_reducible rfl)); try simp only [Act.put, List.setIfInBounds_toArray, List.set_cons_zero, List.set_cons_succ]))
        refine calm_call _ _ (by rfl) (by rfl) ?_ ?_
        focus
          apply Exists.intro
          apply Exists.intro
          refine ⟨fun wc hC hD => ?_, fun wc hC hD => ?_⟩
          focus (clear hD; obtain ⟨p1, q1, e1, -, c0, c1⟩ := HV1.out _ hC.bel; obtain ⟨p2, q2, e2, -, d0, d1⟩ := HV2.out _ hC.bel; simp only [Value.slice.injEq, true_and] at e1 e2; obtain ⟨e1, e3⟩ := e1; obtain ⟨e2, e4⟩ := e2; cases e1; cases e2; clear e3 e4; clear hC; go_simp; first | done | with_reducible exact ⟨rfl, rfl⟩ | with_reducible rfl)
          clear hD
          with_reducible refine (impl_nmK y _).mono ?_
          rintro e wx ⟨rfl, hb⟩
          exact ⟨_, rfl, hb, rfl, trivial⟩
        rintro _ rfl
        try simp only [Act.put, List.setIfInBounds_toArray, List.set_cons_zero, List.set_cons_succ]
        repeat (first
          | (refine calm_skip (by rfl) ?_; try simp only [Act.put, List.setIfInBounds_toArray, List.set_cons_zero, List.set_cons_succ])
          | (refine calm_plain (by rfl) (by rfl) ?_; apply Exists.intro; refine ⟨fun wc hC hD => ?_, ?_⟩; (focus (clear hD; obtain ⟨p1, q1, e1, -, c0, c1⟩ := HV1.out _ hC.bel; obtain ⟨p2, q2, e2, -, d0, d1⟩ := HV2.out _ hC.bel; simp only [Value.slice.injEq, true_and] at e1 e2; obtain ⟨e1, e3⟩ := e1; obtain ⟨e2, e4⟩ := e2; cases e1; cases e2; clear e3 e4; clear hC; go_simp; first | done | with_reducible rfl)); try simp only [Act.put, List.setIfInBounds_toArray, List.set_cons_zero, List.set_cons_succ]))
        refine calm_call _ _ (by rfl) (by rfl) ?_ ?_
        focus
          apply Exists.intro
          apply Exists.intro
          refine ⟨fun wc hC hD => ?_, fun wc hC hD => ?_⟩
          focus (clear hD; obtain ⟨p1, q1, e1, -, c0, c1⟩ := HV1.out _ hC.bel; obtain ⟨p2, q2, e2, -, d0, d1⟩ := HV2.out _ hC.bel; simp only [Value.slice.injEq, true_and] at e1 e2; obtain ⟨e1, e3⟩ := e1; obtain ⟨e2, e4⟩ := e2; cases e1; cases e2; clear e3 e4; clear hC; go_simp; first | done | with_reducible exact ⟨rfl, rfl⟩ | with_reducible rfl)
          clear hD
          with_reducible refine (impl_nmK x _).mono ?_
          rintro e wx ⟨rfl, hb⟩
          exact ⟨_, rfl, hb, rfl, trivial⟩
        rintro _ rfl
        try simp only [Act.put, List.setIfInBounds_toArray, List.set_cons_zero, List.set_cons_succ]
        repeat (first
          | (refine calm_skip (by rfl) ?_; try simp only [Act.put, List.setIfInBounds_toArray, List.set_cons_zero, List.set_cons_succ])
          | (refine calm_plain (by rfl) (by rfl) ?_; apply Exists.intro; refine ⟨fun wc hC hD => ?_, ?_⟩; (focus (clear hD; obtain ⟨p1, q1, e1, -, c0, c1⟩ := HV1.out _ hC.bel; obtain ⟨p2, q2, e2, -, d0, d1⟩ := HV2.out _ hC.bel; simp only [Value.slice.injEq, true_and] at e1 e2; obtain ⟨e1, e3⟩ := e1; obtain ⟨e2, e4⟩ := e2; cases e1; cases e2; clear e3 e4; clear hC; go_simp; first | done | with_reducible rfl)); try simp only [Act.put, List.setIfInBounds_toArray, List.set_cons_zero, List.set_cons_succ]))
        refine calm_call _ _ (by rfl) (by rfl) ?_ ?_
        focus
          apply Exists.intro
          apply Exists.intro
          refine ⟨fun wc hC hD => ?_, fun wc hC hD => ?_⟩
          focus (clear hD; obtain ⟨p1, q1, e1, -, c0, c1⟩ := HV1.out _ hC.bel; obtain ⟨p2, q2, e2, -, d0, d1⟩ := HV2.out _ hC.bel; simp only [Value.slice.injEq, true_and] at e1 e2; obtain ⟨e1, e3⟩ := e1; obtain ⟨e2, e4⟩ := e2; cases e1; cases e2; clear e3 e4; clear hC; go_simp; first | done | with_reducible exact ⟨rfl, rfl⟩ | with_reducible rfl)
          clear hD
          with_reducible refine (HCM.out _).mono ?_
          rintro e wx ⟨rfl, hb⟩
          exact ⟨_, rfl, hb, rfl, trivial⟩
        rintro _ rfl
        try simp only [Act.put, List.setIfInBounds_toArray, List.set_cons_zero, List.set_cons_succ]
        repeat (first
          | (refine calm_skip (by rfl) ?_; try simp only [Act.put, List.setIfInBounds_toArray, List.set_cons_zero, List.set_cons_succ])
          | (refine calm_plain (by rfl) (by rfl) ?_; apply Exists.intro; refine ⟨fun wc hC hD => ?_, ?_⟩; (focus (clear hD; obtain ⟨p1, q1, e1, -, c0, c1⟩ := HV1.out _ hC.bel; obtain ⟨p2, q2, e2, -, d0, d1⟩ := HV2.out _ hC.bel; simp only [Value.slice.injEq, true_and] at e1 e2; obtain ⟨e1, e3⟩ := e1; obtain ⟨e2, e4⟩ := e2; cases e1; cases e2; clear e3 e4; clear hC; go_simp; first | done | with_reducible rfl)); try simp only [Act.put, List.setIfInBounds_toArray, List.set_cons_zero, List.set_cons_succ]))
        refine calm_end ?_
        intro w7 hL7 hF7
        clear hF7
        replace HL := Lib.hid hL7
        clear hL7
        go_wp2
        go_roundw
        case rel => exact ⟨k + 1, by omega, by omega, by go_num, riseTo_step HN.out (fun _ j' hj' h' => by
          have e : j' = j := by have := HJ.out; omega
          subst e; rw [← HYY.out, ← HXX.out]; exact HE.out), HL.out.bel⟩
        case measure => simp [intOf]; omega
    · have HE := Lib.hid (riseB_yes (f := nmK) (l := l) (fun i hi hlt' => HN.out i hi (by omega)))
      go_wp2
      go_ret
      exact ⟨ret_bool HE.out.symm, HL.out.bel⟩

set_option maxRecDepth 100000 in
set_option maxHeartbeats 4000000 in
theorem impl_riseM (v : Value) (l : List Im) (w : World) (hv : Sl w w.heap.size 8 encM v l) (hl : l.length ≤ 140737488351232) :
    Calls Try.prog 95 #[v] w (Tell (riseB Im.i l) w) := by
  obtain ⟨A, c, rfl⟩ := hv.form
  have HV := Lib.hid hv; clear hv
  go_enter Try.func95, Try.ntmps95
  go_wp2
  go_loopw [3] (fun i wr => ∃ k : Nat, 1 ≤ k ∧ k ≤ l.length + 1 ∧ i = .int .i64 k ∧ RiseTo Im.i l k ∧ Below w.heap.size w wr) (fun i _ => l.length + 1 - (intOf i).toNat)
  case atStart => exact ⟨1, by omega, by omega, rfl, riseTo_one _ _, Below.refl _ _⟩
  case round =>
    obtain ⟨k, hk1, hk, rfl, hn, hb⟩ := hrel
    have HN := Lib.hid hn; have HL := Lib.hid (Lg.of hb); clear hn hb
    by_cases hlt : k < l.length
    · obtain ⟨j, hj⟩ : ∃ j, k = j + 1 := ⟨k - 1, by omega⟩
      have hjl : j < l.length := by omega
      have ek : (k : Int) - 1 = (j : Int) := by omega
      have ew : IntKind.i64.wrap (j : Int) = (j : Int) := IntWalk.i64_in _ (by omega)
      have HJ := Lib.hid hj; clear hj
      obtain ⟨x, hx⟩ : ∃ x, x = l[k] := ⟨_, rfl⟩
      obtain ⟨y, hy⟩ : ∃ y, y = l[j] := ⟨_, rfl⟩
      have HV1 := Lib.hid (fun W (hb : Below w.heap.size w W) => (HV.out.below hb).item j hjl)
      have HV2 := Lib.hid (fun W (hb : Below w.heap.size w W) => (HV.out.below hb).item k hlt)
      rw [← hy] at HV1
      rw [← hx] at HV2
      have HXX := Lib.hid hx; have HYY := Lib.hid hy; clear hx hy
      have HCM := Lib.hid (fun W => impl_compare y.i x.i W)
      have HCL := Lib.hid (cmpN_less y.i x.i)
      obtain ⟨q, hq⟩ : ∃ q, q = cmpN y.i x.i := ⟨_, rfl⟩
      rw [← hq] at HCM HCL
      clear hq
      obtain ⟨a1, c1, e1, -, -, -, -, -, -, -, -, -⟩ := HV1.out _ HL.out.bel
      simp only [Value.slice.injEq, true_and] at e1
      obtain ⟨rfl, rfl⟩ := e1
      by_cases h3 : 0 ≤ q
      · have d3 : decide ((0 : Int) ≤ q) = true := decide_eq_true h3
        have HE := Lib.hid (riseB_no (f := Im.i) (l := l) (fun h => by have h' := h k hlt hlt j HJ.out hjl; rw [← HYY.out, ← HXX.out] at h'; exact HCL.out.1 h3 h'))
        go_upto_region 4 with fail
        refine wp_region_calm_lg (told [(6, fun u => u = vN y.i), (12, fun u => u = vN x.i), (13, fun u => u = .int .i64 q)]) (by kernel_rfl) (by kernel_rfl) (told_mono _) HL.out ?_
        repeat (first
          | (refine calm_skip (by rfl) ?_; try simp only [Act.put, List.setIfInBounds_toArray, List.set_cons_zero, List.set_cons_succ])
          | (refine calm_plain (by rfl) (by rfl) ?_; apply Exists.intro; refine ⟨fun wc hC hD => ?_, ?_⟩; (focus (clear hD; obtain ⟨p1, q1, e1, -, c0, c1, c2, c3, c4, c5, c6, c7⟩ := HV1.out _ hC.bel; obtain ⟨p2, q2, e2, -, d0, d1, d2, d3, d4, d5, d6, d7⟩ := HV2.out _ hC.bel; simp only [Value.slice.injEq, true_and] at e1 e2; obtain ⟨e1, e3⟩ := e1; obtain ⟨e2, e4⟩ := e2; cases e1; cases e2; clear e3 e4; clear hC; go_simp; first | done | with_reducible rfl)); try simp only [Act.put, List.setIfInBounds_toArray, List.set_cons_zero, List.set_cons_succ]))
        refine calm_call _ _ (by rfl) (by rfl) ?_ ?_
        focus
          apply Exists.intro
          apply Exists.intro
          refine ⟨fun wc hC hD => ?_, fun wc hC hD => ?_⟩
          focus (clear hD; obtain ⟨p1, q1, e1, -, c0, c1, c2, c3, c4, c5, c6, c7⟩ := HV1.out _ hC.bel; obtain ⟨p2, q2, e2, -, d0, d1, d2, d3, d4, d5, d6, d7⟩ := HV2.out _ hC.bel; simp only [Value.slice.injEq, true_and] at e1 e2; obtain ⟨e1, e3⟩ := e1; obtain ⟨e2, e4⟩ := e2; cases e1; cases e2; clear e3 e4; clear hC; go_simp; first | done | with_reducible exact ⟨rfl, rfl⟩ | with_reducible rfl)
          clear hD
          with_reducible refine (impl_nmM y _).mono ?_
          rintro e wx ⟨rfl, hb⟩
          exact ⟨_, rfl, hb, rfl, trivial⟩
        rintro _ rfl
        try simp only [Act.put, List.setIfInBounds_toArray, List.set_cons_zero, List.set_cons_succ]
        repeat (first
          | (refine calm_skip (by rfl) ?_; try simp only [Act.put, List.setIfInBounds_toArray, List.set_cons_zero, List.set_cons_succ])
          | (refine calm_plain (by rfl) (by rfl) ?_; apply Exists.intro; refine ⟨fun wc hC hD => ?_, ?_⟩; (focus (clear hD; obtain ⟨p1, q1, e1, -, c0, c1, c2, c3, c4, c5, c6, c7⟩ := HV1.out _ hC.bel; obtain ⟨p2, q2, e2, -, d0, d1, d2, d3, d4, d5, d6, d7⟩ := HV2.out _ hC.bel; simp only [Value.slice.injEq, true_and] at e1 e2; obtain ⟨e1, e3⟩ := e1; obtain ⟨e2, e4⟩ := e2; cases e1; cases e2; clear e3 e4; clear hC; go_simp; first | done | with_reducible rfl)); try simp only [Act.put, List.setIfInBounds_toArray, List.set_cons_zero, List.set_cons_succ]))
        refine calm_call _ _ (by rfl) (by rfl) ?_ ?_
        focus
          apply Exists.intro
          apply Exists.intro
          refine ⟨fun wc hC hD => ?_, fun wc hC hD => ?_⟩
          focus (clear hD; obtain ⟨p1, q1, e1, -, c0, c1, c2, c3, c4, c5, c6, c7⟩ := HV1.out _ hC.bel; obtain ⟨p2, q2, e2, -, d0, d1, d2, d3, d4, d5, d6, d7⟩ := HV2.out _ hC.bel; simp only [Value.slice.injEq, true_and] at e1 e2; obtain ⟨e1, e3⟩ := e1; obtain ⟨e2, e4⟩ := e2; cases e1; cases e2; clear e3 e4; clear hC; go_simp; first | done | with_reducible exact ⟨rfl, rfl⟩ | with_reducible rfl)
          clear hD
          with_reducible refine (impl_nmM x _).mono ?_
          rintro e wx ⟨rfl, hb⟩
          exact ⟨_, rfl, hb, rfl, trivial⟩
        rintro _ rfl
        try simp only [Act.put, List.setIfInBounds_toArray, List.set_cons_zero, List.set_cons_succ]
        repeat (first
          | (refine calm_skip (by rfl) ?_; try simp only [Act.put, List.setIfInBounds_toArray, List.set_cons_zero, List.set_cons_succ])
          | (refine calm_plain (by rfl) (by rfl) ?_; apply Exists.intro; refine ⟨fun wc hC hD => ?_, ?_⟩; (focus (clear hD; obtain ⟨p1, q1, e1, -, c0, c1, c2, c3, c4, c5, c6, c7⟩ := HV1.out _ hC.bel; obtain ⟨p2, q2, e2, -, d0, d1, d2, d3, d4, d5, d6, d7⟩ := HV2.out _ hC.bel; simp only [Value.slice.injEq, true_and] at e1 e2; obtain ⟨e1, e3⟩ := e1; obtain ⟨e2, e4⟩ := e2; cases e1; cases e2; clear e3 e4; clear hC; go_simp; first | done | with_reducible rfl)); try simp only [Act.put, List.setIfInBounds_toArray, List.set_cons_zero, List.set_cons_succ]))
        refine calm_call _ _ (by rfl) (by rfl) ?_ ?_
        focus
          apply Exists.intro
          apply Exists.intro
          refine ⟨fun wc hC hD => ?_, fun wc hC hD => ?_⟩
          focus (clear hD; obtain ⟨p1, q1, e1, -, c0, c1, c2, c3, c4, c5, c6, c7⟩ := HV1.out _ hC.bel; obtain ⟨p2, q2, e2, -, d0, d1, d2, d3, d4, d5, d6, d7⟩ := HV2.out _ hC.bel; simp only [Value.slice.injEq, true_and] at e1 e2; obtain ⟨e1, e3⟩ := e1; obtain ⟨e2, e4⟩ := e2; cases e1; cases e2; clear e3 e4; clear hC; go_simp; first | done | with_reducible exact ⟨rfl, rfl⟩ | with_reducible rfl)
          clear hD
          with_reducible refine (HCM.out _).mono ?_
          rintro e wx ⟨rfl, hb⟩
          exact ⟨_, rfl, hb, rfl, trivial⟩
        rintro _ rfl
        try simp only [Act.put, List.setIfInBounds_toArray, List.set_cons_zero, List.set_cons_succ]
        repeat (first
          | (refine calm_skip (by rfl) ?_; try simp only [Act.put, List.setIfInBounds_toArray, List.set_cons_zero, List.set_cons_succ])
          | (refine calm_plain (by rfl) (by rfl) ?_; apply Exists.intro; refine ⟨fun wc hC hD => ?_, ?_⟩; (focus (clear hD; obtain ⟨p1, q1, e1, -, c0, c1, c2, c3, c4, c5, c6, c7⟩ := HV1.out _ hC.bel; obtain ⟨p2, q2, e2, -, d0, d1, d2, d3, d4, d5, d6, d7⟩ := HV2.out _ hC.bel; simp only [Value.slice.injEq, true_and] at e1 e2; obtain ⟨e1, e3⟩ := e1; obtain ⟨e2, e4⟩ := e2; cases e1; cases e2; clear e3 e4; clear hC; go_simp; first | done | with_reducible rfl)); try simp only [Act.put, List.setIfInBounds_toArray, List.set_cons_zero, List.set_cons_succ]))
        refine calm_end ?_
        intro w7 hL7 hF7
        clear hF7
        replace HL := Lib.hid hL7
        clear hL7
        go_wp2
        go_ret
        exact ⟨ret_bool HE.out.symm, HL.out.bel⟩
      · have d3 : decide ((0 : Int) ≤ q) = false := decide_eq_false h3
        have HE := Lib.hid (show LessP y.i x.i from Classical.byContradiction (fun hc => h3 (HCL.out.2 hc)))
        go_upto_region 4 with fail
        refine wp_region_calm_lg (told [(6, fun u => u = vN y.i), (12, fun u => u = vN x.i), (13, fun u => u = .int .i64 q)]) (by kernel_rfl) (by kernel_rfl) (told_mono _) HL.out ?_
        repeat (first
          | (refine calm_skip (by rfl) ?_; try simp only [Act.put, List.setIfInBounds_toArray, List.set_cons_zero, List.set_cons_succ])
          | (refine calm_plain (by rfl) (by rfl) ?_; apply Exists.intro; refine ⟨fun wc hC hD => ?_, ?_⟩; (focus (clear hD; obtain ⟨p1, q1, e1, -, c0, c1, c2, c3, c4, c5, c6, c7⟩ := HV1.out _ hC.bel; obtain ⟨p2, q2, e2, -, d0, d1, d2, d3, d4, d5, d6, d7⟩ := HV2.out _ hC.bel; simp only [Value.slice.injEq, true_and] at e1 e2; obtain ⟨e1, e3⟩ := e1; obtain ⟨e2, e4⟩ := e2; cases e1; cases e2; clear e3 e4; clear hC; go_simp; first | done | with_reducible rfl)); try simp only [Act.put, List.setIfInBounds_toArray, List.set_cons_zero, List.set_cons_succ]))
        refine calm_call _ _ (by rfl) (by rfl) ?_ ?_
        focus
          apply Exists.intro
          apply Exists.intro
          refine ⟨fun wc hC hD => ?_, fun wc hC hD => ?_⟩
          focus (clear hD; obtain ⟨p1, q1, e1, -, c0, c1, c2, c3, c4, c5, c6, c7⟩ := HV1.out _ hC.bel; obtain ⟨p2, q2, e2, -, d0, d1, d2, d3, d4, d5, d6, d7⟩ := HV2.out _ hC.bel; simp only [Value.slice.injEq, true_and] at e1 e2; obtain ⟨e1, e3⟩ := e1; obtain ⟨e2, e4⟩ := e2; cases e1; cases e2; clear e3 e4; clear hC; go_simp; first | done | with_reducible exact ⟨rfl, rfl⟩ | with_reducible rfl)
          clear hD
          with_reducible refine (impl_nmM y _).mono ?_
          rintro e wx ⟨rfl, hb⟩
          exact ⟨_, rfl, hb, rfl, trivial⟩
        rintro _ rfl
        try simp only [Act.put, List.setIfInBounds_toArray, List.set_cons_zero, List.set_cons_succ]
        repeat (first
          | (refine calm_skip (by rfl) ?_; try simp only [Act.put, List.setIfInBounds_toArray, List.set_cons_zero, List.set_cons_succ])
          | (refine calm_plain (by rfl) (by rfl) ?_; apply Exists.intro; refine ⟨fun wc hC hD => ?_, ?_⟩; (focus (clear hD; obtain ⟨p1, q1, e1, -, c0, c1, c2, c3, c4, c5, c6, c7⟩ := HV1.out _ hC.bel; obtain ⟨p2, q2, e2, -, d0, d1, d2, d3, d4, d5, d6, d7⟩ := HV2.out _ hC.bel; simp only [Value.slice.injEq, true_and] at e1 e2; obtain ⟨e1, e3⟩ := e1; obtain ⟨e2, e4⟩ := e2; cases e1; cases e2; clear e3 e4; clear hC; go_simp; first | done | with_reducible rfl)); try simp only [Act.put, List.setIfInBounds_toArray, List.set_cons_zero, List.set_cons_succ]))
        refine calm_call _ _ (by rfl) (by rfl) ?_ ?_
        focus
          apply Exists.intro
          apply Exists.intro
          refine ⟨fun wc hC hD => ?_, fun wc hC hD => ?_⟩
          focus (clear hD; obtain ⟨p1, q1, e1, -, c0, c1, c2, c3, c4, c5, c6, c7⟩ := HV1.out _ hC.bel; obtain ⟨p2, q2, e2, -, d0, d1, d2, d3, d4, d5, d6, d7⟩ := HV2.out _ hC.bel; simp only [Value.slice.injEq, true_and] at e1 e2; obtain ⟨e1, e3⟩ := e1; obtain ⟨e2, e4⟩ := e2; cases e1; cases e2; clear e3 e4; clear hC; go_simp; first | done | with_reducible exact ⟨rfl, rfl⟩ | with_reducible rfl)
          clear hD
          with_reducible refine (impl_nmM x _).mono ?_
          rintro e wx ⟨rfl, hb⟩
          exact ⟨_, rfl, hb, rfl, trivial⟩
        rintro _ rfl
        try simp only [Act.put, List.setIfInBounds_toArray, List.set_cons_zero, List.set_cons_succ]
        repeat (first
          | (refine calm_skip (by rfl) ?_; try simp only [Act.put, List.setIfInBounds_toArray, List.set_cons_zero, List.set_cons_succ])
          | (refine calm_plain (by rfl) (by rfl) ?_; apply Exists.intro; refine ⟨fun wc hC hD => ?_, ?_⟩; (focus (clear hD; obtain ⟨p1, q1, e1, -, c0, c1, c2, c3, c4, c5, c6, c7⟩ := HV1.out _ hC.bel; obtain ⟨p2, q2, e2, -, d0, d1, d2, d3, d4, d5, d6, d7⟩ := HV2.out _ hC.bel; simp only [Value.slice.injEq, true_and] at e1 e2; obtain ⟨e1, e3⟩ := e1; obtain ⟨e2, e4⟩ := e2; cases e1; cases e2; clear e3 e4; clear hC; go_simp; first | done | with_reducible rfl)); try simp only [Act.put, List.setIfInBounds_toArray, List.set_cons_zero, List.set_cons_succ]))
        refine calm_call _ _ (by rfl) (by rfl) ?_ ?_
        focus
          apply Exists.intro
          apply Exists.intro
          refine ⟨fun wc hC hD => ?_, fun wc hC hD => ?_⟩
          focus (clear hD; obtain ⟨p1, q1, e1, -, c0, c1, c2, c3, c4, c5, c6, c7⟩ := HV1.out _ hC.bel; obtain ⟨p2, q2, e2, -, d0, d1, d2, d3, d4, d5, d6, d7⟩ := HV2.out _ hC.bel; simp only [Value.slice.injEq, true_and] at e1 e2; obtain ⟨e1, e3⟩ := e1; obtain ⟨e2, e4⟩ := e2; cases e1; cases e2; clear e3 e4; clear hC; go_simp; first | done | with_reducible exact ⟨rfl, rfl⟩ | with_reducible rfl)
          clear hD
          with_reducible refine (HCM.out _).mono ?_
          rintro e wx ⟨rfl, hb⟩
          exact ⟨_, rfl, hb, rfl, trivial⟩
        rintro _ rfl
        try simp only [Act.put, List.setIfInBounds_toArray, List.set_cons_zero, List.set_cons_succ]
        repeat (first
          | (refine calm_skip (by rfl) ?_; try simp only [Act.put, List.setIfInBounds_toArray, List.set_cons_zero, List.set_cons_succ])
          | (refine calm_plain (by rfl) (by rfl) ?_; apply Exists.intro; refine ⟨fun wc hC hD => ?_, ?_⟩; (focus (clear hD; obtain ⟨p1, q1, e1, -, c0, c1, c2, c3, c4, c5, c6, c7⟩ := HV1.out _ hC.bel; obtain ⟨p2, q2, e2, -, d0, d1, d2, d3, d4, d5, d6, d7⟩ := HV2.out _ hC.bel; simp only [Value.slice.injEq, true_and] at e1 e2; obtain ⟨e1, e3⟩ := e1; obtain ⟨e2, e4⟩ := e2; cases e1; cases e2; clear e3 e4; clear hC; go_simp; first | done | with_reducible rfl)); try simp only [Act.put, List.setIfInBounds_toArray, List.set_cons_zero, List.set_cons_succ]))
        refine calm_end ?_
        intro w7 hL7 hF7
        clear hF7
        replace HL := Lib.hid hL7
        clear hL7
        go_wp2
        go_roundw
        case rel => exact ⟨k + 1, by omega, by omega, by go_num, riseTo_step HN.out (fun _ j' hj' h' => by
          have e : j' = j := by have := HJ.out; omega
          subst e; rw [← HYY.out, ← HXX.out]; exact HE.out), HL.out.bel⟩
        case measure => simp [intOf]; omega
    · have HE := Lib.hid (riseB_yes (f := Im.i) (l := l) (fun i hi hlt' => HN.out i hi (by omega)))
      go_wp2
      go_ret
      exact ⟨ret_bool HE.out.symm, HL.out.bel⟩

set_option maxRecDepth 100000 in
set_option maxHeartbeats 4000000 in
theorem impl_riseI (v : Value) (l : List Nm) (w : World) (hv : Sl w w.heap.size 2 encN v l) (hl : l.length ≤ 140737488351232) :
    Calls Try.prog 96 #[v] w (Tell (riseB nmI l) w) := by
  obtain ⟨A, c, rfl⟩ := hv.form
  have HV := Lib.hid hv; clear hv
  go_enter Try.func96, Try.ntmps96
  go_wp2
  go_loopw [3] (fun i wr => ∃ k : Nat, 1 ≤ k ∧ k ≤ l.length + 1 ∧ i = .int .i64 k ∧ RiseTo nmI l k ∧ Below w.heap.size w wr) (fun i _ => l.length + 1 - (intOf i).toNat)
  case atStart => exact ⟨1, by omega, by omega, rfl, riseTo_one _ _, Below.refl _ _⟩
  case round =>
    obtain ⟨k, hk1, hk, rfl, hn, hb⟩ := hrel
    have HN := Lib.hid hn; have HL := Lib.hid (Lg.of hb); clear hn hb
    by_cases hlt : k < l.length
    · obtain ⟨j, hj⟩ : ∃ j, k = j + 1 := ⟨k - 1, by omega⟩
      have hjl : j < l.length := by omega
      have ek : (k : Int) - 1 = (j : Int) := by omega
      have ew : IntKind.i64.wrap (j : Int) = (j : Int) := IntWalk.i64_in _ (by omega)
      have HJ := Lib.hid hj; clear hj
      obtain ⟨x, hx⟩ : ∃ x, x = l[k] := ⟨_, rfl⟩
      obtain ⟨y, hy⟩ : ∃ y, y = l[j] := ⟨_, rfl⟩
      have HV1 := Lib.hid (fun W (hb : Below w.heap.size w W) => (HV.out.below hb).two j hjl)
      have HV2 := Lib.hid (fun W (hb : Below w.heap.size w W) => (HV.out.below hb).two k hlt)
      rw [← hy] at HV1
      rw [← hx] at HV2
      have HXX := Lib.hid hx; have HYY := Lib.hid hy; clear hx hy
      have HCM := Lib.hid (fun W => impl_compare (nmI y) (nmI x) W)
      have HCL := Lib.hid (cmpN_less (nmI y) (nmI x))
      obtain ⟨q, hq⟩ : ∃ q, q = cmpN (nmI y) (nmI x) := ⟨_, rfl⟩
      rw [← hq] at HCM HCL
      clear hq
      obtain ⟨a1, c1, e1, -, -, -⟩ := HV1.out _ HL.out.bel
      simp only [Value.slice.injEq, true_and] at e1
      obtain ⟨rfl, rfl⟩ := e1
      by_cases h3 : 0 ≤ q
      · have d3 : decide ((0 : Int) ≤ q) = true := decide_eq_true h3
        have HE := Lib.hid (riseB_no (f := nmI) (l := l) (fun h => by have h' := h k hlt hlt j HJ.out hjl; rw [← HYY.out, ← HXX.out] at h'; exact HCL.out.1 h3 h'))
        go_upto_region 4 with fail
        refine wp_region_calm_lg (told [(6, fun u => u = vN (nmI y)), (12, fun u => u = vN (nmI x)), (13, fun u => u = .int .i64 q)]) (by kernel_rfl) (by kernel_rfl) (told_mono _) HL.out ?_
        repeat (first
          | (refine calm_skip (by rfl) ?_; try simp only [Act.put, List.setIfInBounds_toArray, List.set_cons_zero, List.set_cons_succ])
          | (refine calm_plain (by rfl) (by rfl) ?_; apply Exists.intro; refine ⟨fun wc hC hD => ?_, ?_⟩; (focus (clear hD; obtain ⟨p1, q1, e1, -, c0, c1⟩ := HV1.out _ hC.bel; obtain ⟨p2, q2, e2, -, d0, d1⟩ := HV2.out _ hC.bel; simp only [Value.slice.injEq, true_and] at e1 e2; obtain ⟨e1, e3⟩ := e1; obtain ⟨e2, e4⟩ := e2; cases e1; cases e2; clear e3 e4; clear hC; go_simp; first | done | with_reducible rfl)); try simp only [Act.put, List.setIfInBounds_toArray, List.set_cons_zero, List.set_cons_succ]))
        refine calm_call _ _ (by rfl) (by rfl) ?_ ?_
        focus
          apply Exists.intro
          apply Exists.intro
          refine ⟨fun wc hC hD => ?_, fun wc hC hD => ?_⟩
          focus (clear hD; obtain ⟨p1, q1, e1, -, c0, c1⟩ := HV1.out _ hC.bel; obtain ⟨p2, q2, e2, -, d0, d1⟩ := HV2.out _ hC.bel; simp only [Value.slice.injEq, true_and] at e1 e2; obtain ⟨e1, e3⟩ := e1; obtain ⟨e2, e4⟩ := e2; cases e1; cases e2; clear e3 e4; clear hC; go_simp; first | done | with_reducible exact ⟨rfl, rfl⟩ | with_reducible rfl)
          clear hD
          with_reducible refine (impl_nmI y _).mono ?_
          rintro e wx ⟨rfl, hb⟩
          exact ⟨_, rfl, hb, rfl, trivial⟩
        rintro _ rfl
        try simp only [Act.put, List.setIfInBounds_toArray, List.set_cons_zero, List.set_cons_succ]
        repeat (first
          | (refine calm_skip (by rfl) ?_; try simp only [Act.put, List.setIfInBounds_toArray, List.set_cons_zero, List.set_cons_succ])
          | (refine calm_plain (by rfl) (by rfl) ?_; apply Exists.intro; refine ⟨fun wc hC hD => ?_, ?_⟩; (focus (clear hD; obtain ⟨p1, q1, e1, -, c0, c1⟩ := HV1.out _ hC.bel; obtain ⟨p2, q2, e2, -, d0, d1⟩ := HV2.out _ hC.bel; simp only [Value.slice.injEq, true_and] at e1 e2; obtain ⟨e1, e3⟩ := e1; obtain ⟨e2, e4⟩ := e2; cases e1; cases e2; clear e3 e4; clear hC; go_simp; first | done | with_reducible rfl)); try simp only [Act.put, List.setIfInBounds_toArray, List.set_cons_zero, List.set_cons_succ]))
        refine calm_call _ _ (by rfl) (by rfl) ?_ ?_
        focus
          apply Exists.intro
          apply Exists.intro
          refine ⟨fun wc hC hD => ?_, fun wc hC hD => ?_⟩
          focus (clear hD; obtain ⟨p1, q1, e1, -, c0, c1⟩ := HV1.out _ hC.bel; obtain ⟨p2, q2, e2, -, d0, d1⟩ := HV2.out _ hC.bel; simp only [Value.slice.injEq, true_and] at e1 e2; obtain ⟨e1, e3⟩ := e1; obtain ⟨e2, e4⟩ := e2; cases e1; cases e2; clear e3 e4; clear hC; go_simp; first | done | with_reducible exact ⟨rfl, rfl⟩ | with_reducible rfl)
          clear hD
          with_reducible refine (impl_nmI x _).mono ?_
          rintro e wx ⟨rfl, hb⟩
          exact ⟨_, rfl, hb, rfl, trivial⟩
        rintro _ rfl
        try simp only [Act.put, List.setIfInBounds_toArray, List.set_cons_zero, List.set_cons_succ]
        repeat (first
          | (refine calm_skip (by rfl) ?_; try simp only [Act.put, List.setIfInBounds_toArray, List.set_cons_zero, List.set_cons_succ])
          | (refine calm_plain (by rfl) (by rfl) ?_; apply Exists.intro; refine ⟨fun wc hC hD => ?_, ?_⟩; (focus (clear hD; obtain ⟨p1, q1, e1, -, c0, c1⟩ := HV1.out _ hC.bel; obtain ⟨p2, q2, e2, -, d0, d1⟩ := HV2.out _ hC.bel; simp only [Value.slice.injEq, true_and] at e1 e2; obtain ⟨e1, e3⟩ := e1; obtain ⟨e2, e4⟩ := e2; cases e1; cases e2; clear e3 e4; clear hC; go_simp; first | done | with_reducible rfl)); try simp only [Act.put, List.setIfInBounds_toArray, List.set_cons_zero, List.set_cons_succ]))
        refine calm_call _ _ (by rfl) (by rfl) ?_ ?_
        focus
          apply Exists.intro
          apply Exists.intro
          refine ⟨fun wc hC hD => ?_, fun wc hC hD => ?_⟩
          focus (clear hD; obtain ⟨p1, q1, e1, -, c0, c1⟩ := HV1.out _ hC.bel; obtain ⟨p2, q2, e2, -, d0, d1⟩ := HV2.out _ hC.bel; simp only [Value.slice.injEq, true_and] at e1 e2; obtain ⟨e1, e3⟩ := e1; obtain ⟨e2, e4⟩ := e2; cases e1; cases e2; clear e3 e4; clear hC; go_simp; first | done | with_reducible exact ⟨rfl, rfl⟩ | with_reducible rfl)
          clear hD
          with_reducible refine (HCM.out _).mono ?_
          rintro e wx ⟨rfl, hb⟩
          exact ⟨_, rfl, hb, rfl, trivial⟩
        rintro _ rfl
        try simp only [Act.put, List.setIfInBounds_toArray, List.set_cons_zero, List.set_cons_succ]
        repeat (first
          | (refine calm_skip (by rfl) ?_; try simp only [Act.put, List.setIfInBounds_toArray, List.set_cons_zero, List.set_cons_succ])
          | (refine calm_plain (by rfl) (by rfl) ?_; apply Exists.intro; refine ⟨fun wc hC hD => ?_, ?_⟩; (focus (clear hD; obtain ⟨p1, q1, e1, -, c0, c1⟩ := HV1.out _ hC.bel; obtain ⟨p2, q2, e2, -, d0, d1⟩ := HV2.out _ hC.bel; simp only [Value.slice.injEq, true_and] at e1 e2; obtain ⟨e1, e3⟩ := e1; obtain ⟨e2, e4⟩ := e2; cases e1; cases e2; clear e3 e4; clear hC; go_simp; first | done | with_reducible rfl)); try simp only [Act.put, List.setIfInBounds_toArray, List.set_cons_zero, List.set_cons_succ]))
        refine calm_end ?_
        intro w7 hL7 hF7
        clear hF7
        replace HL := Lib.hid hL7
        clear hL7
        go_wp2
        go_ret
        exact ⟨ret_bool HE.out.symm, HL.out.bel⟩
      · have d3 : decide ((0 : Int) ≤ q) = false := decide_eq_false h3
        have HE := Lib.hid (show LessP (nmI y) (nmI x) from Classical.byContradiction (fun hc => h3 (HCL.out.2 hc)))
        go_upto_region 4 with fail
        refine wp_region_calm_lg (told [(6, fun u => u = vN (nmI y)), (12, fun u => u = vN (nmI x)), (13, fun u => u = .int .i64 q)]) (by kernel_rfl) (by kernel_rfl) (told_mono _) HL.out ?_
        repeat (first
          | (refine calm_skip (by rfl) ?_; try simp only [Act.put, List.setIfInBounds_toArray, List.set_cons_zero, List.set_cons_succ])
          | (refine calm_plain (by rfl) (by rfl) ?_; apply Exists.intro; refine ⟨fun wc hC hD => ?_, ?_⟩; (focus (clear hD; obtain ⟨p1, q1, e1, -, c0, c1⟩ := HV1.out _ hC.bel; obtain ⟨p2, q2, e2, -, d0, d1⟩ := HV2.out _ hC.bel; simp only [Value.slice.injEq, true_and] at e1 e2; obtain ⟨e1, e3⟩ := e1; obtain ⟨e2, e4⟩ := e2; cases e1; cases e2; clear e3 e4; clear hC; go_simp; first | done | with_reducible rfl)); try simp only [Act.put, List.setIfInBounds_toArray, List.set_cons_zero, List.set_cons_succ]))
        refine calm_call _ _ (by rfl) (by rfl) ?_ ?_
        focus
          apply Exists.intro
          apply Exists.intro
          refine ⟨fun wc hC hD => ?_, fun wc hC hD => ?_⟩
          focus (clear hD; obtain ⟨p1, q1, e1, -, c0, c1⟩ := HV1.out _ hC.bel; obtain ⟨p2, q2, e2, -, d0, d1⟩ := HV2.out _ hC.bel; simp only [Value.slice.injEq, true_and] at e1 e2; obtain ⟨e1, e3⟩ := e1; obtain ⟨e2, e4⟩ := e2; cases e1; cases e2; clear e3 e4; clear hC; go_simp; first | done | with_reducible exact ⟨rfl, rfl⟩ | with_reducible rfl)
          clear hD
          with_reducible refine (impl_nmI y _).mono ?_
          rintro e wx ⟨rfl, hb⟩
          exact ⟨_, rfl, hb, rfl, trivial⟩
        rintro _ rfl
        try simp only [Act.put, List.setIfInBounds_toArray, List.set_cons_zero, List.set_cons_succ]
        repeat (first
          | (refine calm_skip (by rfl) ?_; try simp only [Act.put, List.setIfInBounds_toArray, List.set_cons_zero, List.set_cons_succ])
          | (refine calm_plain (by rfl) (by rfl) ?_; apply Exists.intro; refine ⟨fun wc hC hD => ?_, ?_⟩; (focus (clear hD; obtain ⟨p1, q1, e1, -, c0, c1⟩ := HV1.out _ hC.bel; obtain ⟨p2, q2, e2, -, d0, d1⟩ := HV2.out _ hC.bel; simp only [Value.slice.injEq, true_and] at e1 e2; obtain ⟨e1, e3⟩ := e1; obtain ⟨e2, e4⟩ := e2; cases e1; cases e2; clear e3 e4; clear hC; go_simp; first | done | with_reducible rfl)); try simp only [Act.put, List.setIfInBounds_toArray, List.set_cons_zero, List.set_cons_succ]))
        refine calm_call _ _ (by rfl) (by rfl) ?_ ?_
        focus
          apply Exists.intro
          apply Exists.intro
          refine ⟨fun wc hC hD => ?_, fun wc hC hD => ?_⟩
          focus (clear hD; obtain ⟨p1, q1, e1, -, c0, c1⟩ := HV1.out _ hC.bel; obtain ⟨p2, q2, e2, -, d0, d1⟩ := HV2.out _ hC.bel; simp only [Value.slice.injEq, true_and] at e1 e2; obtain ⟨e1, e3⟩ := e1; obtain ⟨e2, e4⟩ := e2; cases e1; cases e2; clear e3 e4; clear hC; go_simp; first | done | with_reducible exact ⟨rfl, rfl⟩ | with_reducible rfl)
          clear hD
          with_reducible refine (impl_nmI x _).mono ?_
          rintro e wx ⟨rfl, hb⟩
          exact ⟨_, rfl, hb, rfl, trivial⟩
        rintro _ rfl
        try simp only [Act.put, List.setIfInBounds_toArray, List.set_cons_zero, List.set_cons_succ]
        repeat (first
          | (refine calm_skip (by rfl) ?_; try simp only [Act.put, List.setIfInBounds_toArray, List.set_cons_zero, List.set_cons_succ])
          | (refine calm_plain (by rfl) (by rfl) ?_; apply Exists.intro; refine ⟨fun wc hC hD => ?_, ?_⟩; (focus (clear hD; obtain ⟨p1, q1, e1, -, c0, c1⟩ := HV1.out _ hC.bel; obtain ⟨p2, q2, e2, -, d0, d1⟩ := HV2.out _ hC.bel; simp only [Value.slice.injEq, true_and] at e1 e2; obtain ⟨e1, e3⟩ := e1; obtain ⟨e2, e4⟩ := e2; cases e1; cases e2; clear e3 e4; clear hC; go_simp; first | done | with_reducible rfl)); try simp only [Act.put, List.setIfInBounds_toArray, List.set_cons_zero, List.set_cons_succ]))
        refine calm_call _ _ (by rfl) (by rfl) ?_ ?_
        focus
          apply Exists.intro
          apply Exists.intro
          refine ⟨fun wc hC hD => ?_, fun wc hC hD => ?_⟩
          focus (clear hD; obtain ⟨p1, q1, e1, -, c0, c1⟩ := HV1.out _ hC.bel; obtain ⟨p2, q2, e2, -, d0, d1⟩ := HV2.out _ hC.bel; simp only [Value.slice.injEq, true_and] at e1 e2; obtain ⟨e1, e3⟩ := e1; obtain ⟨e2, e4⟩ := e2; cases e1; cases e2; clear e3 e4; clear hC; go_simp; first | done | with_reducible exact ⟨rfl, rfl⟩ | with_reducible rfl)
          clear hD
          with_reducible refine (HCM.out _).mono ?_
          rintro e wx ⟨rfl, hb⟩
          exact ⟨_, rfl, hb, rfl, trivial⟩
        rintro _ rfl
        try simp only [Act.put, List.setIfInBounds_toArray, List.set_cons_zero, List.set_cons_succ]
        repeat (first
          | (refine calm_skip (by rfl) ?_; try simp only [Act.put, List.setIfInBounds_toArray, List.set_cons_zero, List.set_cons_succ])
          | (refine calm_plain (by rfl) (by rfl) ?_; apply Exists.intro; refine ⟨fun wc hC hD => ?_, ?_⟩; (focus (clear hD; obtain ⟨p1, q1, e1, -, c0, c1⟩ := HV1.out _ hC.bel; obtain ⟨p2, q2, e2, -, d0, d1⟩ := HV2.out _ hC.bel; simp only [Value.slice.injEq, true_and] at e1 e2; obtain ⟨e1, e3⟩ := e1; obtain ⟨e2, e4⟩ := e2; cases e1; cases e2; clear e3 e4; clear hC; go_simp; first | done | with_reducible rfl)); try simp only [Act.put, List.setIfInBounds_toArray, List.set_cons_zero, List.set_cons_succ]))
        refine calm_end ?_
        intro w7 hL7 hF7
        clear hF7
        replace HL := Lib.hid hL7
        clear hL7
        go_wp2
        go_roundw
        case rel => exact ⟨k + 1, by omega, by omega, by go_num, riseTo_step HN.out (fun _ j' hj' h' => by
          have e : j' = j := by have := HJ.out; omega
          subst e; rw [← HYY.out, ← HXX.out]; exact HE.out), HL.out.bel⟩
        case measure => simp [intOf]; omega
    · have HE := Lib.hid (riseB_yes (f := nmI) (l := l) (fun i hi hlt' => HN.out i hi (by omega)))
      go_wp2
      go_ret
      exact ⟨ret_bool HE.out.symm, HL.out.bel⟩

end Go.Proofs.Ytaggmcdfggmlhaa
