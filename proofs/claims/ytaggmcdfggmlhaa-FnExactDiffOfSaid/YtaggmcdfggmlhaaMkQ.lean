/-
  Right marks: contracts of the model and of the program.
-/
import Derived.Test.YtaggmcdfggmlhaaRise
import Derived.Test.YtaggmcdfggmlhaaMkM
namespace Go.Proofs.Ytaggmcdfggmlhaa
set_option linter.unusedSimpArgs false
set_option linter.unusedVariables false
open Go.ChangeShapes Go.WideShapes Go.ChangeAt Go.RowKit

/-- A right mark. -/
def MarkP (n : Nm) : Prop := (1 ≤ n.c ∧ n.c ≤ 9999) ∧ 1 ≤ n.k ∧ n.k ≤ 1000000
def AllTo {α : Type} (p : α → Prop) (l : List α) (k : Nat) : Prop := ∀ i (h : i < l.length), i < k → p l[i]
theorem allTo_zero {α : Type} (p : α → Prop) (l : List α) : AllTo p l 0 := fun _ _ h => absurd h (Nat.not_lt_zero _)
theorem allTo_step {α : Type} {p : α → Prop} {l : List α} {k : Nat} (h : AllTo p l k) (he : ∀ hk : k < l.length, p l[k]) : AllTo p l (k + 1) := fun j hj hlt => by
  by_cases e : j = k
  · subst e; exact he hj
  · exact h j hj (by omega)
def MarksP (l : List Nm) : Prop := l.length ≤ 60 ∧ AllTo MarkP l l.length ∧ Rise nmK l
open Classical in
noncomputable def marksB (l : List Nm) : Bool := decide (MarksP l)
open Classical in
theorem marksB_iff (l : List Nm) : marksB l = true ↔ MarksP l := decide_eq_true_iff
theorem marks_yes {l : List Nm} (h : MarksP l) : marksB l = true := (marksB_iff l).2 h
theorem marks_no {l : List Nm} (h : ¬ MarksP l) : marksB l = false := by
  cases e : marksB l with
  | false => rfl
  | true => exact absurd ((marksB_iff l).1 e) h
theorem lessK (a b : Nm) : LessP (nmK a) (nmK b) ↔ a.c < b.c := by simp [LessP, nmK]

set_option maxRecDepth 100000 in
set_option maxHeartbeats 8000000 in
theorem spec_marksR (v : Value) (l : List Nm) (w : World) (hv : Sl w w.heap.size 2 encN v l) (hl : l.length ≤ 140737488351232) :
    Calls Try.prog 33 #[v] w (Tell (marksB l) w) := by
  obtain ⟨A, c, rfl⟩ := hv.form
  have HV := Lib.hid hv; clear hv
  go_enter Try.func33, Try.ntmps33
  go_wp2
  go_loopw [3] (fun i wr => ∃ k : Nat, k ≤ l.length ∧ k ≤ 61 ∧ i = .int .i64 k ∧ AllTo MarkP l k ∧ RiseTo nmK l k ∧ Below w.heap.size w wr) (fun i _ => l.length - (intOf i).toNat)
  case atStart => exact ⟨0, Nat.zero_le _, by omega, rfl, allTo_zero _ _, riseTo_zero _ _, Below.refl _ _⟩
  case round =>
    obtain ⟨k, hk, hk61, rfl, hn, hr, hb⟩ := hrel
    have HN := Lib.hid hn; have HR := Lib.hid hr; have HL := Lib.hid (Lg.of hb); clear hn hr hb
    by_cases hlt : k < l.length
    case neg =>
      have hkl : k = l.length := by omega
      by_cases h60 : l.length ≤ 60
      · have HE := Lib.hid (marks_yes (l := l) ⟨h60, by rw [← hkl]; exact HN.out, by unfold Rise; rw [← hkl]; exact HR.out⟩)
        go_wp2
        go_ret
        exact ⟨ret_bool (by rw [HE.out]; simp; omega), HL.out.bel⟩
      · have HE := Lib.hid (marks_no (l := l) (fun h => h60 h.1))
        go_wp2
        go_ret
        exact ⟨ret_bool (by rw [HE.out]; simp; omega), HL.out.bel⟩
    by_cases h61 : k ≤ 60
    case neg =>
      have HE := Lib.hid (marks_no (l := l) (fun h => by have := h.1; omega))
      go_wp2
      go_ret
      exact ⟨ret_bool (by rw [HE.out]; simp; omega), HL.out.bel⟩
    obtain ⟨x, hx⟩ : ∃ x, x = l[k] := ⟨_, rfl⟩
    have HV1 := Lib.hid (fun W (hb : Below w.heap.size w W) => (HV.out.below hb).two k hlt)
    rw [← hx] at HV1
    have HXX := Lib.hid hx; clear hx
    obtain ⟨a1, c1, e1, -, -, -⟩ := HV1.out _ HL.out.bel
    simp only [Value.slice.injEq, true_and] at e1
    obtain ⟨rfl, rfl⟩ := e1
    have HA := Lib.hid (fun W => spec_is x.c 1 9999 W)
    have HB := Lib.hid (fun W => spec_is x.k 1 1000000 W)
    by_cases hc1 : 1 ≤ x.c ∧ x.c ≤ 9999
    case neg =>
      replace HA := Lib.hid (fun W => (HA.out W).mono fun _ _ h => Tell.to h (decide_eq_false hc1))
      have HE := Lib.hid (marks_no (l := l) (fun h => hc1 (by have := (h.2.1 k hlt hlt).1; rw [← HXX.out] at this; exact this)))
      clear hc1
      · skip
        go_upto_region 4 with fail
        refine wp_region_calm_lg (told [(5, fun u => u = .bool false)]) (by kernel_rfl) (by kernel_rfl) (told_mono _) HL.out ?_
        repeat (first
          | (refine calm_skip (by rfl) ?_; try simp only [Act.put, List.setIfInBounds_toArray, List.set_cons_zero, List.set_cons_succ])
          | (refine calm_plain (by rfl) (by rfl) ?_; apply Exists.intro; refine ⟨fun wc hC hD => ?_, ?_⟩; (focus (clear hD; obtain ⟨p1, q1, e1, -, c0, c1⟩ := HV1.out _ hC.bel; simp only [Value.slice.injEq, true_and] at e1; obtain ⟨e1, e3⟩ := e1; cases e1; clear e3; clear hC; go_simp; first | done | with_reducible rfl)); try simp only [Act.put, List.setIfInBounds_toArray, List.set_cons_zero, List.set_cons_succ]))
        refine calm_call _ _ (by rfl) (by rfl) ?_ ?_
        focus
          apply Exists.intro
          apply Exists.intro
          refine ⟨fun wc hC hD => ?_, fun wc hC hD => ?_⟩
          focus (clear hD; obtain ⟨p1, q1, e1, -, c0, c1⟩ := HV1.out _ hC.bel; simp only [Value.slice.injEq, true_and] at e1; obtain ⟨e1, e3⟩ := e1; cases e1; clear e3; clear hC; go_simp; first | done | with_reducible exact ⟨rfl, rfl⟩ | with_reducible rfl)
          clear hD
          with_reducible refine (HA.out _).mono ?_
          rintro e wx ⟨rfl, hb⟩
          exact ⟨_, rfl, hb, rfl, trivial⟩
        rintro _ rfl
        try simp only [Act.put, List.setIfInBounds_toArray, List.set_cons_zero, List.set_cons_succ]
        repeat (first
          | (refine calm_skip (by rfl) ?_; try simp only [Act.put, List.setIfInBounds_toArray, List.set_cons_zero, List.set_cons_succ])
          | (refine calm_plain (by rfl) (by rfl) ?_; apply Exists.intro; refine ⟨fun wc hC hD => ?_, ?_⟩; (focus (clear hD; obtain ⟨p1, q1, e1, -, c0, c1⟩ := HV1.out _ hC.bel; simp only [Value.slice.injEq, true_and] at e1; obtain ⟨e1, e3⟩ := e1; cases e1; clear e3; clear hC; go_simp; first | done | with_reducible rfl)); try simp only [Act.put, List.setIfInBounds_toArray, List.set_cons_zero, List.set_cons_succ]))
        refine calm_end ?_
        intro w7 hL7 hF7
        clear hF7
        replace HL := Lib.hid hL7
        clear hL7
        go_wp2
        go_ret
        exact ⟨ret_bool HE.out.symm, HL.out.bel⟩
    replace HA := Lib.hid (fun W => (HA.out W).mono fun _ _ h => Tell.to h (decide_eq_true hc1))
    have HC1 := Lib.hid hc1; clear hc1
    by_cases hc2 : 1 ≤ x.k ∧ x.k ≤ 1000000
    case neg =>
      replace HB := Lib.hid (fun W => (HB.out W).mono fun _ _ h => Tell.to h (decide_eq_false hc2))
      have HE := Lib.hid (marks_no (l := l) (fun h => hc2 (by have := (h.2.1 k hlt hlt).2; rw [← HXX.out] at this; exact this)))
      clear hc2
      · skip
        · skip
          go_upto_region 4 with fail
          refine wp_region_calm_lg (told [(5, fun u => u = .bool true), (13, fun u => u = .bool false)]) (by kernel_rfl) (by kernel_rfl) (told_mono _) HL.out ?_
          repeat (first
            | (refine calm_skip (by rfl) ?_; try simp only [Act.put, List.setIfInBounds_toArray, List.set_cons_zero, List.set_cons_succ])
            | (refine calm_plain (by rfl) (by rfl) ?_; apply Exists.intro; refine ⟨fun wc hC hD => ?_, ?_⟩; (focus (clear hD; obtain ⟨p1, q1, e1, -, c0, c1⟩ := HV1.out _ hC.bel; simp only [Value.slice.injEq, true_and] at e1; obtain ⟨e1, e3⟩ := e1; cases e1; clear e3; clear hC; go_simp; first | done | with_reducible rfl)); try simp only [Act.put, List.setIfInBounds_toArray, List.set_cons_zero, List.set_cons_succ]))
          refine calm_call _ _ (by rfl) (by rfl) ?_ ?_
          focus
            apply Exists.intro
            apply Exists.intro
            refine ⟨fun wc hC hD => ?_, fun wc hC hD => ?_⟩
            focus (clear hD; obtain ⟨p1, q1, e1, -, c0, c1⟩ := HV1.out _ hC.bel; simp only [Value.slice.injEq, true_and] at e1; obtain ⟨e1, e3⟩ := e1; cases e1; clear e3; clear hC; go_simp; first | done | with_reducible exact ⟨rfl, rfl⟩ | with_reducible rfl)
            clear hD
            with_reducible refine (HA.out _).mono ?_
            rintro e wx ⟨rfl, hb⟩
            exact ⟨_, rfl, hb, rfl, trivial⟩
          rintro _ rfl
          try simp only [Act.put, List.setIfInBounds_toArray, List.set_cons_zero, List.set_cons_succ]
          repeat (first
            | (refine calm_skip (by rfl) ?_; try simp only [Act.put, List.setIfInBounds_toArray, List.set_cons_zero, List.set_cons_succ])
            | (refine calm_plain (by rfl) (by rfl) ?_; apply Exists.intro; refine ⟨fun wc hC hD => ?_, ?_⟩; (focus (clear hD; obtain ⟨p1, q1, e1, -, c0, c1⟩ := HV1.out _ hC.bel; simp only [Value.slice.injEq, true_and] at e1; obtain ⟨e1, e3⟩ := e1; cases e1; clear e3; clear hC; go_simp; first | done | with_reducible rfl)); try simp only [Act.put, List.setIfInBounds_toArray, List.set_cons_zero, List.set_cons_succ]))
          refine calm_call _ _ (by rfl) (by rfl) ?_ ?_
          focus
            apply Exists.intro
            apply Exists.intro
            refine ⟨fun wc hC hD => ?_, fun wc hC hD => ?_⟩
            focus (clear hD; obtain ⟨p1, q1, e1, -, c0, c1⟩ := HV1.out _ hC.bel; simp only [Value.slice.injEq, true_and] at e1; obtain ⟨e1, e3⟩ := e1; cases e1; clear e3; clear hC; go_simp; first | done | with_reducible exact ⟨rfl, rfl⟩ | with_reducible rfl)
            clear hD
            with_reducible refine (HB.out _).mono ?_
            rintro e wx ⟨rfl, hb⟩
            exact ⟨_, rfl, hb, rfl, trivial⟩
          rintro _ rfl
          try simp only [Act.put, List.setIfInBounds_toArray, List.set_cons_zero, List.set_cons_succ]
          repeat (first
            | (refine calm_skip (by rfl) ?_; try simp only [Act.put, List.setIfInBounds_toArray, List.set_cons_zero, List.set_cons_succ])
            | (refine calm_plain (by rfl) (by rfl) ?_; apply Exists.intro; refine ⟨fun wc hC hD => ?_, ?_⟩; (focus (clear hD; obtain ⟨p1, q1, e1, -, c0, c1⟩ := HV1.out _ hC.bel; simp only [Value.slice.injEq, true_and] at e1; obtain ⟨e1, e3⟩ := e1; cases e1; clear e3; clear hC; go_simp; first | done | with_reducible rfl)); try simp only [Act.put, List.setIfInBounds_toArray, List.set_cons_zero, List.set_cons_succ]))
          refine calm_end ?_
          intro w7 hL7 hF7
          clear hF7
          replace HL := Lib.hid hL7
          clear hL7
          go_wp2
          go_ret
          exact ⟨ret_bool HE.out.symm, HL.out.bel⟩
    replace HB := Lib.hid (fun W => (HB.out W).mono fun _ _ h => Tell.to h (decide_eq_true hc2))
    have HM := Lib.hid (show MarkP x from ⟨HC1.out, hc2⟩); clear hc2
    rcases Nat.eq_zero_or_pos k with hk0 | hk0
    · have dk : decide ((0 : Int) < (k : Int)) = false := by simp [hk0]
      have dk' : decide (0 < k) = false := by simp [hk0]
      have HS := Lib.hid (show RiseTo nmK l (k + 1) from riseTo_step HR.out (fun _ j hj => by omega))
      clear hk0
      · skip
        · skip
          go_upto_region 4 with fail
          refine wp_region_calm_lg (told [(5, fun u => u = .bool true), (13, fun u => u = .bool true)]) (by kernel_rfl) (by kernel_rfl) (told_mono _) HL.out ?_
          repeat (first
            | (refine calm_skip (by rfl) ?_; try simp only [Act.put, List.setIfInBounds_toArray, List.set_cons_zero, List.set_cons_succ])
            | (refine calm_plain (by rfl) (by rfl) ?_; apply Exists.intro; refine ⟨fun wc hC hD => ?_, ?_⟩; (focus (clear hD; obtain ⟨p1, q1, e1, -, c0, c1⟩ := HV1.out _ hC.bel; simp only [Value.slice.injEq, true_and] at e1; obtain ⟨e1, e3⟩ := e1; cases e1; clear e3; clear hC; go_simp; first | done | with_reducible rfl)); try simp only [Act.put, List.setIfInBounds_toArray, List.set_cons_zero, List.set_cons_succ]))
          refine calm_call _ _ (by rfl) (by rfl) ?_ ?_
          focus
            apply Exists.intro
            apply Exists.intro
            refine ⟨fun wc hC hD => ?_, fun wc hC hD => ?_⟩
            focus (clear hD; obtain ⟨p1, q1, e1, -, c0, c1⟩ := HV1.out _ hC.bel; simp only [Value.slice.injEq, true_and] at e1; obtain ⟨e1, e3⟩ := e1; cases e1; clear e3; clear hC; go_simp; first | done | with_reducible exact ⟨rfl, rfl⟩ | with_reducible rfl)
            clear hD
            with_reducible refine (HA.out _).mono ?_
            rintro e wx ⟨rfl, hb⟩
            exact ⟨_, rfl, hb, rfl, trivial⟩
          rintro _ rfl
          try simp only [Act.put, List.setIfInBounds_toArray, List.set_cons_zero, List.set_cons_succ]
          repeat (first
            | (refine calm_skip (by rfl) ?_; try simp only [Act.put, List.setIfInBounds_toArray, List.set_cons_zero, List.set_cons_succ])
            | (refine calm_plain (by rfl) (by rfl) ?_; apply Exists.intro; refine ⟨fun wc hC hD => ?_, ?_⟩; (focus (clear hD; obtain ⟨p1, q1, e1, -, c0, c1⟩ := HV1.out _ hC.bel; simp only [Value.slice.injEq, true_and] at e1; obtain ⟨e1, e3⟩ := e1; cases e1; clear e3; clear hC; go_simp; first | done | with_reducible rfl)); try simp only [Act.put, List.setIfInBounds_toArray, List.set_cons_zero, List.set_cons_succ]))
          refine calm_call _ _ (by rfl) (by rfl) ?_ ?_
          focus
            apply Exists.intro
            apply Exists.intro
            refine ⟨fun wc hC hD => ?_, fun wc hC hD => ?_⟩
            focus (clear hD; obtain ⟨p1, q1, e1, -, c0, c1⟩ := HV1.out _ hC.bel; simp only [Value.slice.injEq, true_and] at e1; obtain ⟨e1, e3⟩ := e1; cases e1; clear e3; clear hC; go_simp; first | done | with_reducible exact ⟨rfl, rfl⟩ | with_reducible rfl)
            clear hD
            with_reducible refine (HB.out _).mono ?_
            rintro e wx ⟨rfl, hb⟩
            exact ⟨_, rfl, hb, rfl, trivial⟩
          rintro _ rfl
          try simp only [Act.put, List.setIfInBounds_toArray, List.set_cons_zero, List.set_cons_succ]
          repeat (first
            | (refine calm_skip (by rfl) ?_; try simp only [Act.put, List.setIfInBounds_toArray, List.set_cons_zero, List.set_cons_succ])
            | (refine calm_plain (by rfl) (by rfl) ?_; apply Exists.intro; refine ⟨fun wc hC hD => ?_, ?_⟩; (focus (clear hD; obtain ⟨p1, q1, e1, -, c0, c1⟩ := HV1.out _ hC.bel; simp only [Value.slice.injEq, true_and] at e1; obtain ⟨e1, e3⟩ := e1; cases e1; clear e3; clear hC; go_simp; first | done | with_reducible rfl)); try simp only [Act.put, List.setIfInBounds_toArray, List.set_cons_zero, List.set_cons_succ]))
          refine calm_end ?_
          intro w7 hL7 hF7
          clear hF7
          replace HL := Lib.hid hL7
          clear hL7
          go_wp2
          go_roundw
          case rel => exact ⟨k + 1, by omega, by omega, by go_num, allTo_step HN.out (fun _ => by rw [← HXX.out]; exact HM.out), HS.out, HL.out.bel⟩
          case measure => simp [intOf]; omega
    · obtain ⟨j, hj⟩ : ∃ j, k = j + 1 := ⟨k - 1, by omega⟩
      have hjl : j < l.length := by omega
      have dk : decide ((0 : Int) < (k : Int)) = true := by simp; omega
      have dk' : decide (0 < k) = true := by simp; omega
      have ek : (k : Int) - 1 = (j : Int) := by omega
      have ew : IntKind.i64.wrap (j : Int) = (j : Int) := IntWalk.i64_in _ (by omega)
      have HJ := Lib.hid hj; clear hj
      obtain ⟨y, hy⟩ : ∃ y, y = l[j] := ⟨_, rfl⟩
      have HV2 := Lib.hid (fun W (hb : Below w.heap.size w W) => (HV.out.below hb).two j hjl)
      rw [← hy] at HV2
      have HYY := Lib.hid hy; clear hy
      by_cases h3 : x.c ≤ y.c
      · have d3 : decide (x.c ≤ y.c) = true := decide_eq_true h3
        have HE := Lib.hid (marks_no (l := l) (fun h => by
          have h' := h.2.2 k hlt hlt j HJ.out hjl
          rw [← HYY.out, ← HXX.out, lessK] at h'; omega))
        · skip
          · skip
            go_upto_region 4 with fail
            refine wp_region_calm_lg (told [(5, fun u => u = .bool true), (13, fun u => u = .bool true)]) (by kernel_rfl) (by kernel_rfl) (told_mono _) HL.out ?_
            repeat (first
              | (refine calm_skip (by rfl) ?_; try simp only [Act.put, List.setIfInBounds_toArray, List.set_cons_zero, List.set_cons_succ])
              | (refine calm_plain (by rfl) (by rfl) ?_; apply Exists.intro; refine ⟨fun wc hC hD => ?_, ?_⟩; (focus (clear hD; obtain ⟨p1, q1, e1, -, c0, c1⟩ := HV1.out _ hC.bel; simp only [Value.slice.injEq, true_and] at e1; obtain ⟨e1, e3⟩ := e1; cases e1; clear e3; obtain ⟨p2, q2, e2, -, d0, d1⟩ := HV2.out _ hC.bel; simp only [Value.slice.injEq, true_and] at e2; obtain ⟨e2, e4⟩ := e2; cases e2; clear e4; clear hC; go_simp; first | done | with_reducible rfl)); try simp only [Act.put, List.setIfInBounds_toArray, List.set_cons_zero, List.set_cons_succ]))
            refine calm_call _ _ (by rfl) (by rfl) ?_ ?_
            focus
              apply Exists.intro
              apply Exists.intro
              refine ⟨fun wc hC hD => ?_, fun wc hC hD => ?_⟩
              focus (clear hD; obtain ⟨p1, q1, e1, -, c0, c1⟩ := HV1.out _ hC.bel; simp only [Value.slice.injEq, true_and] at e1; obtain ⟨e1, e3⟩ := e1; cases e1; clear e3; obtain ⟨p2, q2, e2, -, d0, d1⟩ := HV2.out _ hC.bel; simp only [Value.slice.injEq, true_and] at e2; obtain ⟨e2, e4⟩ := e2; cases e2; clear e4; clear hC; go_simp; first | done | with_reducible exact ⟨rfl, rfl⟩ | with_reducible rfl)
              clear hD
              with_reducible refine (HA.out _).mono ?_
              rintro e wx ⟨rfl, hb⟩
              exact ⟨_, rfl, hb, rfl, trivial⟩
            rintro _ rfl
            try simp only [Act.put, List.setIfInBounds_toArray, List.set_cons_zero, List.set_cons_succ]
            repeat (first
              | (refine calm_skip (by rfl) ?_; try simp only [Act.put, List.setIfInBounds_toArray, List.set_cons_zero, List.set_cons_succ])
              | (refine calm_plain (by rfl) (by rfl) ?_; apply Exists.intro; refine ⟨fun wc hC hD => ?_, ?_⟩; (focus (clear hD; obtain ⟨p1, q1, e1, -, c0, c1⟩ := HV1.out _ hC.bel; simp only [Value.slice.injEq, true_and] at e1; obtain ⟨e1, e3⟩ := e1; cases e1; clear e3; obtain ⟨p2, q2, e2, -, d0, d1⟩ := HV2.out _ hC.bel; simp only [Value.slice.injEq, true_and] at e2; obtain ⟨e2, e4⟩ := e2; cases e2; clear e4; clear hC; go_simp; first | done | with_reducible rfl)); try simp only [Act.put, List.setIfInBounds_toArray, List.set_cons_zero, List.set_cons_succ]))
            refine calm_call _ _ (by rfl) (by rfl) ?_ ?_
            focus
              apply Exists.intro
              apply Exists.intro
              refine ⟨fun wc hC hD => ?_, fun wc hC hD => ?_⟩
              focus (clear hD; obtain ⟨p1, q1, e1, -, c0, c1⟩ := HV1.out _ hC.bel; simp only [Value.slice.injEq, true_and] at e1; obtain ⟨e1, e3⟩ := e1; cases e1; clear e3; obtain ⟨p2, q2, e2, -, d0, d1⟩ := HV2.out _ hC.bel; simp only [Value.slice.injEq, true_and] at e2; obtain ⟨e2, e4⟩ := e2; cases e2; clear e4; clear hC; go_simp; first | done | with_reducible exact ⟨rfl, rfl⟩ | with_reducible rfl)
              clear hD
              with_reducible refine (HB.out _).mono ?_
              rintro e wx ⟨rfl, hb⟩
              exact ⟨_, rfl, hb, rfl, trivial⟩
            rintro _ rfl
            try simp only [Act.put, List.setIfInBounds_toArray, List.set_cons_zero, List.set_cons_succ]
            repeat (first
              | (refine calm_skip (by rfl) ?_; try simp only [Act.put, List.setIfInBounds_toArray, List.set_cons_zero, List.set_cons_succ])
              | (refine calm_plain (by rfl) (by rfl) ?_; apply Exists.intro; refine ⟨fun wc hC hD => ?_, ?_⟩; (focus (clear hD; obtain ⟨p1, q1, e1, -, c0, c1⟩ := HV1.out _ hC.bel; simp only [Value.slice.injEq, true_and] at e1; obtain ⟨e1, e3⟩ := e1; cases e1; clear e3; obtain ⟨p2, q2, e2, -, d0, d1⟩ := HV2.out _ hC.bel; simp only [Value.slice.injEq, true_and] at e2; obtain ⟨e2, e4⟩ := e2; cases e2; clear e4; clear hC; go_simp; first | done | with_reducible rfl)); try simp only [Act.put, List.setIfInBounds_toArray, List.set_cons_zero, List.set_cons_succ]))
            refine calm_end ?_
            intro w7 hL7 hF7
            clear hF7
            replace HL := Lib.hid hL7
            clear hL7
            go_wp2
            go_ret
            exact ⟨ret_bool HE.out.symm, HL.out.bel⟩
      · have d3 : decide (x.c ≤ y.c) = false := decide_eq_false h3
        have HS := Lib.hid (show RiseTo nmK l (k + 1) from riseTo_step HR.out (fun _ j' hj' h' => by
          have e : j' = j := by have := HJ.out; omega
          subst e; rw [← HYY.out, ← HXX.out, lessK]; omega))
        · skip
          · skip
            go_upto_region 4 with fail
            refine wp_region_calm_lg (told [(5, fun u => u = .bool true), (13, fun u => u = .bool true)]) (by kernel_rfl) (by kernel_rfl) (told_mono _) HL.out ?_
            repeat (first
              | (refine calm_skip (by rfl) ?_; try simp only [Act.put, List.setIfInBounds_toArray, List.set_cons_zero, List.set_cons_succ])
              | (refine calm_plain (by rfl) (by rfl) ?_; apply Exists.intro; refine ⟨fun wc hC hD => ?_, ?_⟩; (focus (clear hD; obtain ⟨p1, q1, e1, -, c0, c1⟩ := HV1.out _ hC.bel; simp only [Value.slice.injEq, true_and] at e1; obtain ⟨e1, e3⟩ := e1; cases e1; clear e3; obtain ⟨p2, q2, e2, -, d0, d1⟩ := HV2.out _ hC.bel; simp only [Value.slice.injEq, true_and] at e2; obtain ⟨e2, e4⟩ := e2; cases e2; clear e4; clear hC; go_simp; first | done | with_reducible rfl)); try simp only [Act.put, List.setIfInBounds_toArray, List.set_cons_zero, List.set_cons_succ]))
            refine calm_call _ _ (by rfl) (by rfl) ?_ ?_
            focus
              apply Exists.intro
              apply Exists.intro
              refine ⟨fun wc hC hD => ?_, fun wc hC hD => ?_⟩
              focus (clear hD; obtain ⟨p1, q1, e1, -, c0, c1⟩ := HV1.out _ hC.bel; simp only [Value.slice.injEq, true_and] at e1; obtain ⟨e1, e3⟩ := e1; cases e1; clear e3; obtain ⟨p2, q2, e2, -, d0, d1⟩ := HV2.out _ hC.bel; simp only [Value.slice.injEq, true_and] at e2; obtain ⟨e2, e4⟩ := e2; cases e2; clear e4; clear hC; go_simp; first | done | with_reducible exact ⟨rfl, rfl⟩ | with_reducible rfl)
              clear hD
              with_reducible refine (HA.out _).mono ?_
              rintro e wx ⟨rfl, hb⟩
              exact ⟨_, rfl, hb, rfl, trivial⟩
            rintro _ rfl
            try simp only [Act.put, List.setIfInBounds_toArray, List.set_cons_zero, List.set_cons_succ]
            repeat (first
              | (refine calm_skip (by rfl) ?_; try simp only [Act.put, List.setIfInBounds_toArray, List.set_cons_zero, List.set_cons_succ])
              | (refine calm_plain (by rfl) (by rfl) ?_; apply Exists.intro; refine ⟨fun wc hC hD => ?_, ?_⟩; (focus (clear hD; obtain ⟨p1, q1, e1, -, c0, c1⟩ := HV1.out _ hC.bel; simp only [Value.slice.injEq, true_and] at e1; obtain ⟨e1, e3⟩ := e1; cases e1; clear e3; obtain ⟨p2, q2, e2, -, d0, d1⟩ := HV2.out _ hC.bel; simp only [Value.slice.injEq, true_and] at e2; obtain ⟨e2, e4⟩ := e2; cases e2; clear e4; clear hC; go_simp; first | done | with_reducible rfl)); try simp only [Act.put, List.setIfInBounds_toArray, List.set_cons_zero, List.set_cons_succ]))
            refine calm_call _ _ (by rfl) (by rfl) ?_ ?_
            focus
              apply Exists.intro
              apply Exists.intro
              refine ⟨fun wc hC hD => ?_, fun wc hC hD => ?_⟩
              focus (clear hD; obtain ⟨p1, q1, e1, -, c0, c1⟩ := HV1.out _ hC.bel; simp only [Value.slice.injEq, true_and] at e1; obtain ⟨e1, e3⟩ := e1; cases e1; clear e3; obtain ⟨p2, q2, e2, -, d0, d1⟩ := HV2.out _ hC.bel; simp only [Value.slice.injEq, true_and] at e2; obtain ⟨e2, e4⟩ := e2; cases e2; clear e4; clear hC; go_simp; first | done | with_reducible exact ⟨rfl, rfl⟩ | with_reducible rfl)
              clear hD
              with_reducible refine (HB.out _).mono ?_
              rintro e wx ⟨rfl, hb⟩
              exact ⟨_, rfl, hb, rfl, trivial⟩
            rintro _ rfl
            try simp only [Act.put, List.setIfInBounds_toArray, List.set_cons_zero, List.set_cons_succ]
            repeat (first
              | (refine calm_skip (by rfl) ?_; try simp only [Act.put, List.setIfInBounds_toArray, List.set_cons_zero, List.set_cons_succ])
              | (refine calm_plain (by rfl) (by rfl) ?_; apply Exists.intro; refine ⟨fun wc hC hD => ?_, ?_⟩; (focus (clear hD; obtain ⟨p1, q1, e1, -, c0, c1⟩ := HV1.out _ hC.bel; simp only [Value.slice.injEq, true_and] at e1; obtain ⟨e1, e3⟩ := e1; cases e1; clear e3; obtain ⟨p2, q2, e2, -, d0, d1⟩ := HV2.out _ hC.bel; simp only [Value.slice.injEq, true_and] at e2; obtain ⟨e2, e4⟩ := e2; cases e2; clear e4; clear hC; go_simp; first | done | with_reducible rfl)); try simp only [Act.put, List.setIfInBounds_toArray, List.set_cons_zero, List.set_cons_succ]))
            refine calm_end ?_
            intro w7 hL7 hF7
            clear hF7
            replace HL := Lib.hid hL7
            clear hL7
            go_wp2
            go_roundw
            case rel => exact ⟨k + 1, by omega, by omega, by go_num, allTo_step HN.out (fun _ => by rw [← HXX.out]; exact HM.out), HS.out, HL.out.bel⟩
            case measure => simp [intOf]; omega

set_option maxRecDepth 100000 in
set_option maxHeartbeats 8000000 in
theorem impl_marksR (v : Value) (l : List Nm) (w : World) (hv : Sl w w.heap.size 2 encN v l) (hl : l.length ≤ 140737488351232) :
    Calls Try.prog 35 #[v] w (Tell (marksB l) w) := by
  have HRI := Lib.hid (fun W (hb : Below w.heap.size w W) => impl_riseK v l W ((hv.below hb).more hb.size) hl)
  obtain ⟨A, c, rfl⟩ := hv.form
  have HV := Lib.hid hv; clear hv
  by_cases h60 : 60 < l.length
  · have h60' : (60 : Int) < (l.length : Int) := by omega
    have HE := Lib.hid (marks_no (l := l) (fun h => by have := h.1; omega))
    go_enter Try.func35, Try.ntmps35
    go_wp2
    go_ret
    exact ⟨ret_bool HE.out.symm, Below.refl _ _⟩
  have h60' : ¬ (60 : Int) < (l.length : Int) := by omega
  go_enter Try.func35, Try.ntmps35
  go_wp2
  go_loopw [10] (fun i wr => ∃ k : Nat, k ≤ l.length ∧ i = .int .i64 k ∧ AllTo MarkP l k ∧ Below w.heap.size w wr) (fun i _ => l.length - (intOf i).toNat)
  case atStart => exact ⟨0, Nat.zero_le _, rfl, allTo_zero _ _, Below.refl _ _⟩
  case round =>
    obtain ⟨k, hk, rfl, hn, hb⟩ := hrel
    have HN := Lib.hid hn; have HB := Lib.hid hb; clear hn hb
    by_cases hlt : k < l.length
    case neg =>
      have hkl : k = l.length := by omega
      have HE := Lib.hid (show marksB l = riseB nmK l from by
        rw [Bool.eq_iff_iff, marksB_iff, riseB_iff]
        exact ⟨fun h => h.2.2, fun h => ⟨by omega, by rw [← hkl]; exact HN.out, h⟩⟩)
      go_wp2_with fail
      refine (HRI.out _ HB.out).mono ?_
      rintro e w1 ⟨rfl, hb⟩
      have HB1 := Lib.hid (below_call HB.out HB.out.size hb)
      clear hb
      go_wp2
      go_ret
      exact ⟨ret_bool HE.out.symm, HB1.out⟩
    obtain ⟨ad, c', e', _, c0, c1⟩ := (HV.out.below HB.out).two k hlt
    simp only [Value.slice.injEq, true_and] at e'
    obtain ⟨rfl, rfl⟩ := e'
    obtain ⟨x, hx⟩ : ∃ x, x = l[k] := ⟨_, rfl⟩
    rw [← hx] at c0 c1
    have HXX := Lib.hid hx; clear hx
    have HA := Lib.hid (fun W => impl_client x.c W)
    have HL := Lib.hid ((Lg.of HB.out).alloc (.cells #[.int .i64 x.c, .int .i64 x.k] 113))
    by_cases hc1 : 1 ≤ x.c ∧ x.c ≤ 9999
    case neg =>
      replace HA := Lib.hid (fun W => (HA.out W).mono fun _ _ h => Tell.to h (decide_eq_false hc1))
      have HE := Lib.hid (marks_no (l := l) (fun h => hc1 (by have := (h.2.1 k hlt hlt).1; rw [← HXX.out] at this; exact this)))
      clear hc1
      go_wp2_with fail
      refine (HA.out _).mono ?_
      rintro e w1 ⟨rfl, hb⟩
      replace HL := Lib.hid (HL.out.lift hb)
      clear hb c0 c1
      obtain ⟨c0, c1⟩ := box2 (HL.out.blk _ List.mem_cons_self)
      go_wp2
      go_ret
      exact ⟨ret_bool HE.out.symm, HL.out.bel⟩
    replace HA := Lib.hid (fun W => (HA.out W).mono fun _ _ h => Tell.to h (decide_eq_true hc1))
    have HC1 := Lib.hid hc1; clear hc1
    by_cases hc2 : 1 ≤ x.k ∧ x.k ≤ 1000000
    case neg =>
      have HE := Lib.hid (marks_no (l := l) (fun h => hc2 (by have := (h.2.1 k hlt hlt).2; rw [← HXX.out] at this; exact this)))
      go_wp2_with fail
      refine (HA.out _).mono ?_
      rintro e w1 ⟨rfl, hb⟩
      replace HL := Lib.hid (HL.out.lift hb)
      clear hb c0 c1
      obtain ⟨c0, c1⟩ := box2 (HL.out.blk _ List.mem_cons_self)
      rcases Int.lt_or_le x.k 1 with hc3 | hc3
      · go_wp2
        go_ret
        exact ⟨ret_bool HE.out.symm, HL.out.bel⟩
      · have hc4 : 1000000 < x.k := by omega
        have hc5 : ¬ x.k < 1 := by omega
        go_wp2
        go_ret
        exact ⟨ret_bool HE.out.symm, HL.out.bel⟩
    have HM := Lib.hid (show MarkP x from ⟨HC1.out, hc2⟩)
    have hc3 : ¬ x.k < 1 := by omega
    have hc4 : ¬ 1000000 < x.k := by omega
    clear hc2
    go_wp2_with fail
    refine (HA.out _).mono ?_
    rintro e w1 ⟨rfl, hb⟩
    replace HL := Lib.hid (HL.out.lift hb)
    clear hb c0 c1
    obtain ⟨c0, c1⟩ := box2 (HL.out.blk _ List.mem_cons_self)
    go_wp2
    go_roundw
    case rel => exact ⟨k + 1, by omega, by go_num, allTo_step HN.out (fun _ => by rw [← HXX.out]; exact HM.out), HL.out.bel⟩
    case measure => simp [intOf]; omega

end Go.Proofs.Ytaggmcdfggmlhaa
