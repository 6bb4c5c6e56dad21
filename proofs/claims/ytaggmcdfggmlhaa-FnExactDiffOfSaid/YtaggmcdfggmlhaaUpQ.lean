/-
  Right updates: contracts of the model and of the program.
-/
import Derived.Test.YtaggmcdfggmlhaaMkQ
import Derived.Test.YtaggmcdfggmlhaaUpM
namespace Go.Proofs.Ytaggmcdfggmlhaa
set_option linter.unusedSimpArgs false
set_option linter.unusedVariables false
open Go.ChangeShapes Go.WideShapes Go.ChangeAt Go.RowKit

/-- An item that an update may have. -/
def UItemP (x : Im) : Prop := ItemP x ∧ x.g = false
/-- A right update. -/
def UpdP (u : Up) : Prop := u.X.length ≤ 60 ∧ u.H.length ≤ 80 ∧ AllTo UItemP u.X u.X.length ∧ Rise Im.i u.X ∧ AllTo IdP u.H u.H.length ∧ Rise nmI u.H
open Classical in
noncomputable def updB (u : Up) : Bool := decide (UpdP u)
open Classical in
theorem updB_iff (u : Up) : updB u = true ↔ UpdP u := decide_eq_true_iff
theorem upd_yes {u : Up} (h : UpdP u) : updB u = true := (updB_iff u).2 h
theorem upd_no {u : Up} (h : ¬ UpdP u) : updB u = false := by
  cases e : updB u with
  | false => rfl
  | true => exact absurd ((updB_iff u).1 e) h

set_option maxRecDepth 100000 in
set_option maxHeartbeats 16000000 in
theorem spec_updR (v : Value) (u : Up) (w : World) (hv : UpAt w w.heap.size v u) (hf : FitU u) :
    Calls Try.prog 37 #[v] w (Tell (updB u) w) := by
  obtain ⟨vx, vh, rfl, hx, hh⟩ := hv
  obtain ⟨A1, k1, rfl⟩ := hx.form; obtain ⟨A2, k2, rfl⟩ := hh.form
  have HVX := Lib.hid hx; have HVH := Lib.hid hh; clear hx hh
  have HSX := Lib.hid hf.2
  have hX := hf.1.1; have hH := hf.1.2
  clear hf
  have HL0 := Lib.hid ((Lg.start w).alloc (.cells #[.slice A1 u.X.length k1, .slice A2 u.H.length k2] 37))
  by_cases h60 : u.X.length ≤ 60
  case neg =>
    have h60' : (60 : Int) < (u.X.length : Int) := by omega
    have HE := Lib.hid (upd_no (u := u) (fun h => h60 h.1))
    go_enter Try.func37, Try.ntmps37
    go_wp2
    go_ret
    exact ⟨ret_bool HE.out.symm, HL0.out.bel⟩
  have h60' : ¬ (60 : Int) < (u.X.length : Int) := by omega
  by_cases h80 : u.H.length ≤ 80
  case neg =>
    have h80' : (80 : Int) < (u.H.length : Int) := by omega
    have HE := Lib.hid (upd_no (u := u) (fun h => h80 h.2.1))
    go_enter Try.func37, Try.ntmps37
    go_wp2
    go_ret
    exact ⟨ret_bool HE.out.symm, HL0.out.bel⟩
  have h80' : ¬ (80 : Int) < (u.H.length : Int) := by omega
  go_enter Try.func37, Try.ntmps37
  go_wp2
  go_loopw [3] (fun i wr => ∃ k : Nat, k ≤ u.X.length ∧ i = .int .i64 k ∧ AllTo UItemP u.X k ∧ RiseTo Im.i u.X k ∧ Lg w wr [(w.heap.size, .cells #[.slice A1 u.X.length k1, .slice A2 u.H.length k2] 37)] []) (fun i _ => u.X.length - (intOf i).toNat)
  case atStart => exact ⟨0, Nat.zero_le _, rfl, allTo_zero _ _, riseTo_zero _ _, HL0.out⟩
  case round =>
    obtain ⟨k, hk, rfl, hn, hr, hL⟩ := hrel
    have HN := Lib.hid hn; have HR := Lib.hid hr; have HL := Lib.hid hL; clear hn hr hL
    obtain ⟨b0, b1⟩ := box2 (HL.out.blk _ List.mem_cons_self)
    by_cases hlt : k < u.X.length
    case pos =>
      obtain ⟨x, hx⟩ : ∃ x, x = u.X[k] := ⟨_, rfl⟩
      have HV1 := Lib.hid (fun W (hb : Below w.heap.size w W) => (HVX.out.below hb).item k hlt)
      have hsz := HSX.out _ (getElem_mem' u.X k hlt)
      rw [← hx] at HV1 hsz
      have HXX := Lib.hid hx; clear hx
      obtain ⟨a1, c1, e1, -, -, -, -, -, -, -, -, -⟩ := HV1.out _ HL.out.bel
      simp only [Value.slice.injEq, true_and] at e1
      obtain ⟨rfl, rfl⟩ := e1
      have HI := Lib.hid (fun W => spec_item x W hsz)
      cases hi : itemB x with
      | false =>
        replace HI := Lib.hid (fun W => (HI.out W).mono fun _ _ h => Tell.to h hi)
        have HE := Lib.hid (upd_no (u := u) (fun h => by have := (h.2.2.1 k hlt hlt).1; rw [← HXX.out] at this; rw [(itemB_iff x).2 this] at hi; cases hi))
        · skip
          go_upto_region 6 with fail
          refine wp_region_calm_lg (told [(5, fun u => u = .bool false)]) (by kernel_rfl) (by kernel_rfl) (told_mono _) HL.out ?_
          repeat (first
            | (refine calm_skip (by rfl) ?_; try simp only [Act.put, List.setIfInBounds_toArray, List.set_cons_zero, List.set_cons_succ])
            | (refine calm_plain (by rfl) (by rfl) ?_; apply Exists.intro; refine ⟨fun wc hC hD => ?_, ?_⟩; (focus (clear hD; obtain ⟨b0, b1⟩ := box2 (hC.blk _ List.mem_cons_self); obtain ⟨p1, q1, e1, -, c0, c1, c2, c3, c4, c5, c6, c7⟩ := HV1.out _ hC.bel; simp only [Value.slice.injEq, true_and] at e1; obtain ⟨e1, e3⟩ := e1; cases e1; clear e3; clear hC; go_simp; first | done | with_reducible rfl)); try simp only [Act.put, List.setIfInBounds_toArray, List.set_cons_zero, List.set_cons_succ]))
          refine calm_call _ _ (by rfl) (by rfl) ?_ ?_
          focus
            apply Exists.intro
            apply Exists.intro
            refine ⟨fun wc hC hD => ?_, fun wc hC hD => ?_⟩
            focus (clear hD; obtain ⟨b0, b1⟩ := box2 (hC.blk _ List.mem_cons_self); obtain ⟨p1, q1, e1, -, c0, c1, c2, c3, c4, c5, c6, c7⟩ := HV1.out _ hC.bel; simp only [Value.slice.injEq, true_and] at e1; obtain ⟨e1, e3⟩ := e1; cases e1; clear e3; clear hC; go_simp; first | done | with_reducible exact ⟨rfl, rfl⟩ | with_reducible rfl)
            clear hD
            with_reducible refine (HI.out _).mono ?_
            rintro e wx ⟨rfl, hb⟩
            exact ⟨_, rfl, hb, rfl, trivial⟩
          rintro _ rfl
          try simp only [Act.put, List.setIfInBounds_toArray, List.set_cons_zero, List.set_cons_succ]
          repeat (first
            | (refine calm_skip (by rfl) ?_; try simp only [Act.put, List.setIfInBounds_toArray, List.set_cons_zero, List.set_cons_succ])
            | (refine calm_plain (by rfl) (by rfl) ?_; apply Exists.intro; refine ⟨fun wc hC hD => ?_, ?_⟩; (focus (clear hD; obtain ⟨b0, b1⟩ := box2 (hC.blk _ List.mem_cons_self); obtain ⟨p1, q1, e1, -, c0, c1, c2, c3, c4, c5, c6, c7⟩ := HV1.out _ hC.bel; simp only [Value.slice.injEq, true_and] at e1; obtain ⟨e1, e3⟩ := e1; cases e1; clear e3; clear hC; go_simp; first | done | with_reducible rfl)); try simp only [Act.put, List.setIfInBounds_toArray, List.set_cons_zero, List.set_cons_succ]))
          refine calm_end ?_
          intro w7 hL7 hF7
          clear hF7
          replace HL := Lib.hid hL7
          clear hL7
          go_wp2
          go_ret
          exact ⟨ret_bool HE.out.symm, HL.out.bel⟩
      | true =>
      replace HI := Lib.hid (fun W => (HI.out W).mono fun _ _ h => Tell.to h hi)
      cases hg : x.g with
      | true =>
        have HE := Lib.hid (upd_no (u := u) (fun h => by have := (h.2.2.1 k hlt hlt).2; rw [← HXX.out, hg] at this; cases this))
        replace HI := HI.out
        simp only [vM, hg] at HI
        replace HI := Lib.hid HI
        · skip
          · skip
            go_upto_region 6 with fail
            refine wp_region_calm_lg (told [(5, fun u => u = .bool true)]) (by kernel_rfl) (by kernel_rfl) (told_mono _) HL.out ?_
            repeat (first
              | (refine calm_skip (by rfl) ?_; try simp only [Act.put, List.setIfInBounds_toArray, List.set_cons_zero, List.set_cons_succ])
              | (refine calm_plain (by rfl) (by rfl) ?_; apply Exists.intro; refine ⟨fun wc hC hD => ?_, ?_⟩; (focus (clear hD; obtain ⟨b0, b1⟩ := box2 (hC.blk _ List.mem_cons_self); obtain ⟨p1, q1, e1, -, c0, c1, c2, c3, c4, c5, c6, c7⟩ := HV1.out _ hC.bel; simp only [Value.slice.injEq, true_and] at e1; obtain ⟨e1, e3⟩ := e1; cases e1; clear e3; clear hC; go_simp; first | done | with_reducible rfl)); try simp only [Act.put, List.setIfInBounds_toArray, List.set_cons_zero, List.set_cons_succ]))
            refine calm_call _ _ (by rfl) (by rfl) ?_ ?_
            focus
              apply Exists.intro
              apply Exists.intro
              refine ⟨fun wc hC hD => ?_, fun wc hC hD => ?_⟩
              focus (clear hD; obtain ⟨b0, b1⟩ := box2 (hC.blk _ List.mem_cons_self); obtain ⟨p1, q1, e1, -, c0, c1, c2, c3, c4, c5, c6, c7⟩ := HV1.out _ hC.bel; simp only [Value.slice.injEq, true_and] at e1; obtain ⟨e1, e3⟩ := e1; cases e1; clear e3; clear hC; go_simp; first | done | with_reducible exact ⟨rfl, rfl⟩ | with_reducible rfl)
              clear hD
              with_reducible refine (HI.out _).mono ?_
              rintro e wx ⟨rfl, hb⟩
              exact ⟨_, rfl, hb, rfl, trivial⟩
            rintro _ rfl
            try simp only [Act.put, List.setIfInBounds_toArray, List.set_cons_zero, List.set_cons_succ]
            repeat (first
              | (refine calm_skip (by rfl) ?_; try simp only [Act.put, List.setIfInBounds_toArray, List.set_cons_zero, List.set_cons_succ])
              | (refine calm_plain (by rfl) (by rfl) ?_; apply Exists.intro; refine ⟨fun wc hC hD => ?_, ?_⟩; (focus (clear hD; obtain ⟨b0, b1⟩ := box2 (hC.blk _ List.mem_cons_self); obtain ⟨p1, q1, e1, -, c0, c1, c2, c3, c4, c5, c6, c7⟩ := HV1.out _ hC.bel; simp only [Value.slice.injEq, true_and] at e1; obtain ⟨e1, e3⟩ := e1; cases e1; clear e3; clear hC; go_simp; first | done | with_reducible rfl)); try simp only [Act.put, List.setIfInBounds_toArray, List.set_cons_zero, List.set_cons_succ]))
            refine calm_end ?_
            intro w7 hL7 hF7
            clear hF7
            replace HL := Lib.hid hL7
            clear hL7
            go_wp2
            go_ret
            exact ⟨ret_bool HE.out.symm, HL.out.bel⟩
      | false =>
      replace HI := HI.out
      simp only [vM, hg] at HI
      replace HI := Lib.hid HI
      have HP := Lib.hid (show UItemP x from ⟨(itemB_iff x).1 hi, hg⟩)
      rcases Nat.eq_zero_or_pos k with hk0 | hk0
      · have dk : decide ((0 : Int) < (k : Int)) = false := by simp [hk0]
        have dk' : decide (0 < k) = false := by simp [hk0]
        have HS := Lib.hid (show RiseTo Im.i u.X (k + 1) from riseTo_step HR.out (fun _ j hj => by omega))
        clear hk0
        · skip
          go_upto_region 6 with fail
          refine wp_region_calm_lg (told [(5, fun u => u = .bool true)]) (by kernel_rfl) (by kernel_rfl) (told_mono _) HL.out ?_
          repeat (first
            | (refine calm_skip (by rfl) ?_; try simp only [Act.put, List.setIfInBounds_toArray, List.set_cons_zero, List.set_cons_succ])
            | (refine calm_plain (by rfl) (by rfl) ?_; apply Exists.intro; refine ⟨fun wc hC hD => ?_, ?_⟩; (focus (clear hD; obtain ⟨b0, b1⟩ := box2 (hC.blk _ List.mem_cons_self); obtain ⟨p1, q1, e1, -, c0, c1, c2, c3, c4, c5, c6, c7⟩ := HV1.out _ hC.bel; simp only [Value.slice.injEq, true_and] at e1; obtain ⟨e1, e3⟩ := e1; cases e1; clear e3; clear hC; go_simp; first | done | with_reducible rfl)); try simp only [Act.put, List.setIfInBounds_toArray, List.set_cons_zero, List.set_cons_succ]))
          refine calm_call _ _ (by rfl) (by rfl) ?_ ?_
          focus
            apply Exists.intro
            apply Exists.intro
            refine ⟨fun wc hC hD => ?_, fun wc hC hD => ?_⟩
            focus (clear hD; obtain ⟨b0, b1⟩ := box2 (hC.blk _ List.mem_cons_self); obtain ⟨p1, q1, e1, -, c0, c1, c2, c3, c4, c5, c6, c7⟩ := HV1.out _ hC.bel; simp only [Value.slice.injEq, true_and] at e1; obtain ⟨e1, e3⟩ := e1; cases e1; clear e3; clear hC; go_simp; first | done | with_reducible exact ⟨rfl, rfl⟩ | with_reducible rfl)
            clear hD
            with_reducible refine (HI.out _).mono ?_
            rintro e wx ⟨rfl, hb⟩
            exact ⟨_, rfl, hb, rfl, trivial⟩
          rintro _ rfl
          try simp only [Act.put, List.setIfInBounds_toArray, List.set_cons_zero, List.set_cons_succ]
          repeat (first
            | (refine calm_skip (by rfl) ?_; try simp only [Act.put, List.setIfInBounds_toArray, List.set_cons_zero, List.set_cons_succ])
            | (refine calm_plain (by rfl) (by rfl) ?_; apply Exists.intro; refine ⟨fun wc hC hD => ?_, ?_⟩; (focus (clear hD; obtain ⟨b0, b1⟩ := box2 (hC.blk _ List.mem_cons_self); obtain ⟨p1, q1, e1, -, c0, c1, c2, c3, c4, c5, c6, c7⟩ := HV1.out _ hC.bel; simp only [Value.slice.injEq, true_and] at e1; obtain ⟨e1, e3⟩ := e1; cases e1; clear e3; clear hC; go_simp; first | done | with_reducible rfl)); try simp only [Act.put, List.setIfInBounds_toArray, List.set_cons_zero, List.set_cons_succ]))
          refine calm_end ?_
          intro w7 hL7 hF7
          clear hF7
          replace HL := Lib.hid hL7
          clear hL7
          go_wp2
          go_roundw
          case rel => exact ⟨k + 1, by omega, by go_num, allTo_step HN.out (fun _ => by rw [← HXX.out]; exact HP.out), HS.out, HL.out⟩
          case measure => simp [intOf]; omega
      · obtain ⟨j, hj⟩ : ∃ j, k = j + 1 := ⟨k - 1, by omega⟩
        have hjl : j < u.X.length := by omega
        have dk : decide ((0 : Int) < (k : Int)) = true := by simp; omega
        have dk' : decide (0 < k) = true := by simp; omega
        have ek : (k : Int) - 1 = (j : Int) := by omega
        have ew : IntKind.i64.wrap (j : Int) = (j : Int) := IntWalk.i64_in _ (by omega)
        have HJ := Lib.hid hj; clear hj
        obtain ⟨y, hy⟩ : ∃ y, y = u.X[j] := ⟨_, rfl⟩
        have HV2 := Lib.hid (fun W (hb : Below w.heap.size w W) => (HVX.out.below hb).item j hjl)
        rw [← hy] at HV2
        have HYY := Lib.hid hy; clear hy
        have HLE := Lib.hid (fun W => spec_less y.i x.i W)
        cases h3 : lessB y.i x.i with
        | false =>
          replace HLE := Lib.hid (fun W => (HLE.out W).mono fun _ _ h => Tell.to h h3)
          have HE := Lib.hid (upd_no (u := u) (fun h => by
            have h' := h.2.2.2.1 k hlt hlt j HJ.out hjl
            rw [← HYY.out, ← HXX.out] at h'
            rw [lessB_t h'] at h3; cases h3))
          go_upto_region 6 with fail
          refine wp_region_calm_lg (told [(5, fun u => u = .bool true), (32, fun u => u = .bool false)]) (by kernel_rfl) (by kernel_rfl) (told_mono _) HL.out ?_
          repeat (first
            | (refine calm_skip (by rfl) ?_; try simp only [Act.put, List.setIfInBounds_toArray, List.set_cons_zero, List.set_cons_succ])
            | (refine calm_plain (by rfl) (by rfl) ?_; apply Exists.intro; refine ⟨fun wc hC hD => ?_, ?_⟩; (focus (clear hD; obtain ⟨b0, b1⟩ := box2 (hC.blk _ List.mem_cons_self); obtain ⟨p1, q1, e1, -, c0, c1, c2, c3, c4, c5, c6, c7⟩ := HV1.out _ hC.bel; simp only [Value.slice.injEq, true_and] at e1; obtain ⟨e1, e3⟩ := e1; cases e1; clear e3; obtain ⟨p2, q2, e2, -, d0, d1, d2, d3', d4, d5, d6, d7⟩ := HV2.out _ hC.bel; simp only [Value.slice.injEq, true_and] at e2; obtain ⟨e2, e4⟩ := e2; cases e2; clear e4; clear hC; go_simp; first | done | with_reducible rfl)); try simp only [Act.put, List.setIfInBounds_toArray, List.set_cons_zero, List.set_cons_succ]))
          refine calm_call _ _ (by rfl) (by rfl) ?_ ?_
          focus
            apply Exists.intro
            apply Exists.intro
            refine ⟨fun wc hC hD => ?_, fun wc hC hD => ?_⟩
            focus (clear hD; obtain ⟨b0, b1⟩ := box2 (hC.blk _ List.mem_cons_self); obtain ⟨p1, q1, e1, -, c0, c1, c2, c3, c4, c5, c6, c7⟩ := HV1.out _ hC.bel; simp only [Value.slice.injEq, true_and] at e1; obtain ⟨e1, e3⟩ := e1; cases e1; clear e3; obtain ⟨p2, q2, e2, -, d0, d1, d2, d3', d4, d5, d6, d7⟩ := HV2.out _ hC.bel; simp only [Value.slice.injEq, true_and] at e2; obtain ⟨e2, e4⟩ := e2; cases e2; clear e4; clear hC; go_simp; first | done | with_reducible exact ⟨rfl, rfl⟩ | with_reducible rfl)
            clear hD
            with_reducible refine (HI.out _).mono ?_
            rintro e wx ⟨rfl, hb⟩
            exact ⟨_, rfl, hb, rfl, trivial⟩
          rintro _ rfl
          try simp only [Act.put, List.setIfInBounds_toArray, List.set_cons_zero, List.set_cons_succ]
          repeat (first
            | (refine calm_skip (by rfl) ?_; try simp only [Act.put, List.setIfInBounds_toArray, List.set_cons_zero, List.set_cons_succ])
            | (refine calm_plain (by rfl) (by rfl) ?_; apply Exists.intro; refine ⟨fun wc hC hD => ?_, ?_⟩; (focus (clear hD; obtain ⟨b0, b1⟩ := box2 (hC.blk _ List.mem_cons_self); obtain ⟨p1, q1, e1, -, c0, c1, c2, c3, c4, c5, c6, c7⟩ := HV1.out _ hC.bel; simp only [Value.slice.injEq, true_and] at e1; obtain ⟨e1, e3⟩ := e1; cases e1; clear e3; obtain ⟨p2, q2, e2, -, d0, d1, d2, d3', d4, d5, d6, d7⟩ := HV2.out _ hC.bel; simp only [Value.slice.injEq, true_and] at e2; obtain ⟨e2, e4⟩ := e2; cases e2; clear e4; clear hC; go_simp; first | done | with_reducible rfl)); try simp only [Act.put, List.setIfInBounds_toArray, List.set_cons_zero, List.set_cons_succ]))
          refine calm_call _ _ (by rfl) (by rfl) ?_ ?_
          focus
            apply Exists.intro
            apply Exists.intro
            refine ⟨fun wc hC hD => ?_, fun wc hC hD => ?_⟩
            focus (clear hD; obtain ⟨b0, b1⟩ := box2 (hC.blk _ List.mem_cons_self); obtain ⟨p1, q1, e1, -, c0, c1, c2, c3, c4, c5, c6, c7⟩ := HV1.out _ hC.bel; simp only [Value.slice.injEq, true_and] at e1; obtain ⟨e1, e3⟩ := e1; cases e1; clear e3; obtain ⟨p2, q2, e2, -, d0, d1, d2, d3', d4, d5, d6, d7⟩ := HV2.out _ hC.bel; simp only [Value.slice.injEq, true_and] at e2; obtain ⟨e2, e4⟩ := e2; cases e2; clear e4; clear hC; go_simp; first | done | with_reducible exact ⟨rfl, rfl⟩ | with_reducible rfl)
            clear hD
            with_reducible refine (HLE.out _).mono ?_
            rintro e wx ⟨rfl, hb⟩
            exact ⟨_, rfl, hb, rfl, trivial⟩
          rintro _ rfl
          try simp only [Act.put, List.setIfInBounds_toArray, List.set_cons_zero, List.set_cons_succ]
          repeat (first
            | (refine calm_skip (by rfl) ?_; try simp only [Act.put, List.setIfInBounds_toArray, List.set_cons_zero, List.set_cons_succ])
            | (refine calm_plain (by rfl) (by rfl) ?_; apply Exists.intro; refine ⟨fun wc hC hD => ?_, ?_⟩; (focus (clear hD; obtain ⟨b0, b1⟩ := box2 (hC.blk _ List.mem_cons_self); obtain ⟨p1, q1, e1, -, c0, c1, c2, c3, c4, c5, c6, c7⟩ := HV1.out _ hC.bel; simp only [Value.slice.injEq, true_and] at e1; obtain ⟨e1, e3⟩ := e1; cases e1; clear e3; obtain ⟨p2, q2, e2, -, d0, d1, d2, d3', d4, d5, d6, d7⟩ := HV2.out _ hC.bel; simp only [Value.slice.injEq, true_and] at e2; obtain ⟨e2, e4⟩ := e2; cases e2; clear e4; clear hC; go_simp; first | done | with_reducible rfl)); try simp only [Act.put, List.setIfInBounds_toArray, List.set_cons_zero, List.set_cons_succ]))
          refine calm_end ?_
          intro w7 hL7 hF7
          clear hF7
          replace HL := Lib.hid hL7
          clear hL7
          go_wp2
          go_ret
          exact ⟨ret_bool HE.out.symm, HL.out.bel⟩
        | true =>
          replace HLE := Lib.hid (fun W => (HLE.out W).mono fun _ _ h => Tell.to h h3)
          have HS := Lib.hid (show RiseTo Im.i u.X (k + 1) from riseTo_step HR.out (fun _ j' hj' h' => by
            have e : j' = j := by have := HJ.out; omega
            subst e; rw [← HYY.out, ← HXX.out]; exact (lessB_iff _ _).1 h3))
          go_upto_region 6 with fail
          refine wp_region_calm_lg (told [(5, fun u => u = .bool true), (32, fun u => u = .bool true)]) (by kernel_rfl) (by kernel_rfl) (told_mono _) HL.out ?_
          repeat (first
            | (refine calm_skip (by rfl) ?_; try simp only [Act.put, List.setIfInBounds_toArray, List.set_cons_zero, List.set_cons_succ])
            | (refine calm_plain (by rfl) (by rfl) ?_; apply Exists.intro; refine ⟨fun wc hC hD => ?_, ?_⟩; (focus (clear hD; obtain ⟨b0, b1⟩ := box2 (hC.blk _ List.mem_cons_self); obtain ⟨p1, q1, e1, -, c0, c1, c2, c3, c4, c5, c6, c7⟩ := HV1.out _ hC.bel; simp only [Value.slice.injEq, true_and] at e1; obtain ⟨e1, e3⟩ := e1; cases e1; clear e3; obtain ⟨p2, q2, e2, -, d0, d1, d2, d3', d4, d5, d6, d7⟩ := HV2.out _ hC.bel; simp only [Value.slice.injEq, true_and] at e2; obtain ⟨e2, e4⟩ := e2; cases e2; clear e4; clear hC; go_simp; first | done | with_reducible rfl)); try simp only [Act.put, List.setIfInBounds_toArray, List.set_cons_zero, List.set_cons_succ]))
          refine calm_call _ _ (by rfl) (by rfl) ?_ ?_
          focus
            apply Exists.intro
            apply Exists.intro
            refine ⟨fun wc hC hD => ?_, fun wc hC hD => ?_⟩
            focus (clear hD; obtain ⟨b0, b1⟩ := box2 (hC.blk _ List.mem_cons_self); obtain ⟨p1, q1, e1, -, c0, c1, c2, c3, c4, c5, c6, c7⟩ := HV1.out _ hC.bel; simp only [Value.slice.injEq, true_and] at e1; obtain ⟨e1, e3⟩ := e1; cases e1; clear e3; obtain ⟨p2, q2, e2, -, d0, d1, d2, d3', d4, d5, d6, d7⟩ := HV2.out _ hC.bel; simp only [Value.slice.injEq, true_and] at e2; obtain ⟨e2, e4⟩ := e2; cases e2; clear e4; clear hC; go_simp; first | done | with_reducible exact ⟨rfl, rfl⟩ | with_reducible rfl)
            clear hD
            with_reducible refine (HI.out _).mono ?_
            rintro e wx ⟨rfl, hb⟩
            exact ⟨_, rfl, hb, rfl, trivial⟩
          rintro _ rfl
          try simp only [Act.put, List.setIfInBounds_toArray, List.set_cons_zero, List.set_cons_succ]
          repeat (first
            | (refine calm_skip (by rfl) ?_; try simp only [Act.put, List.setIfInBounds_toArray, List.set_cons_zero, List.set_cons_succ])
            | (refine calm_plain (by rfl) (by rfl) ?_; apply Exists.intro; refine ⟨fun wc hC hD => ?_, ?_⟩; (focus (clear hD; obtain ⟨b0, b1⟩ := box2 (hC.blk _ List.mem_cons_self); obtain ⟨p1, q1, e1, -, c0, c1, c2, c3, c4, c5, c6, c7⟩ := HV1.out _ hC.bel; simp only [Value.slice.injEq, true_and] at e1; obtain ⟨e1, e3⟩ := e1; cases e1; clear e3; obtain ⟨p2, q2, e2, -, d0, d1, d2, d3', d4, d5, d6, d7⟩ := HV2.out _ hC.bel; simp only [Value.slice.injEq, true_and] at e2; obtain ⟨e2, e4⟩ := e2; cases e2; clear e4; clear hC; go_simp; first | done | with_reducible rfl)); try simp only [Act.put, List.setIfInBounds_toArray, List.set_cons_zero, List.set_cons_succ]))
          refine calm_call _ _ (by rfl) (by rfl) ?_ ?_
          focus
            apply Exists.intro
            apply Exists.intro
            refine ⟨fun wc hC hD => ?_, fun wc hC hD => ?_⟩
            focus (clear hD; obtain ⟨b0, b1⟩ := box2 (hC.blk _ List.mem_cons_self); obtain ⟨p1, q1, e1, -, c0, c1, c2, c3, c4, c5, c6, c7⟩ := HV1.out _ hC.bel; simp only [Value.slice.injEq, true_and] at e1; obtain ⟨e1, e3⟩ := e1; cases e1; clear e3; obtain ⟨p2, q2, e2, -, d0, d1, d2, d3', d4, d5, d6, d7⟩ := HV2.out _ hC.bel; simp only [Value.slice.injEq, true_and] at e2; obtain ⟨e2, e4⟩ := e2; cases e2; clear e4; clear hC; go_simp; first | done | with_reducible exact ⟨rfl, rfl⟩ | with_reducible rfl)
            clear hD
            with_reducible refine (HLE.out _).mono ?_
            rintro e wx ⟨rfl, hb⟩
            exact ⟨_, rfl, hb, rfl, trivial⟩
          rintro _ rfl
          try simp only [Act.put, List.setIfInBounds_toArray, List.set_cons_zero, List.set_cons_succ]
          repeat (first
            | (refine calm_skip (by rfl) ?_; try simp only [Act.put, List.setIfInBounds_toArray, List.set_cons_zero, List.set_cons_succ])
            | (refine calm_plain (by rfl) (by rfl) ?_; apply Exists.intro; refine ⟨fun wc hC hD => ?_, ?_⟩; (focus (clear hD; obtain ⟨b0, b1⟩ := box2 (hC.blk _ List.mem_cons_self); obtain ⟨p1, q1, e1, -, c0, c1, c2, c3, c4, c5, c6, c7⟩ := HV1.out _ hC.bel; simp only [Value.slice.injEq, true_and] at e1; obtain ⟨e1, e3⟩ := e1; cases e1; clear e3; obtain ⟨p2, q2, e2, -, d0, d1, d2, d3', d4, d5, d6, d7⟩ := HV2.out _ hC.bel; simp only [Value.slice.injEq, true_and] at e2; obtain ⟨e2, e4⟩ := e2; cases e2; clear e4; clear hC; go_simp; first | done | with_reducible rfl)); try simp only [Act.put, List.setIfInBounds_toArray, List.set_cons_zero, List.set_cons_succ]))
          refine calm_end ?_
          intro w7 hL7 hF7
          clear hF7
          replace HL := Lib.hid hL7
          clear hL7
          go_wp2
          go_roundw
          case rel => exact ⟨k + 1, by omega, by go_num, allTo_step HN.out (fun _ => by rw [← HXX.out]; exact HP.out), HS.out, HL.out⟩
          case measure => simp [intOf]; omega
    case neg =>
    have hkl : k = u.X.length := by omega
    have HNX := Lib.hid (show AllTo UItemP u.X u.X.length from by rw [← hkl]; exact HN.out)
    have HRX := Lib.hid (show Rise Im.i u.X from by unfold Rise; rw [← hkl]; exact HR.out)
    have HL1 := HL
    clear HN HR
    go_wp2
    go_loopw [4] (fun i wr => ∃ k : Nat, k ≤ u.H.length ∧ i = .int .i64 k ∧ AllTo IdP u.H k ∧ RiseTo nmI u.H k ∧ Lg w wr [(w.heap.size, .cells #[.slice A1 u.X.length k1, .slice A2 u.H.length k2] 37)] []) (fun i _ => u.H.length - (intOf i).toNat)
    case atStart => exact ⟨0, Nat.zero_le _, rfl, allTo_zero _ _, riseTo_zero _ _, HL1.out⟩
    case round =>
    clear hkl hlt hk b0 b1 HL HL1
    obtain ⟨k, hk, rfl, hn, hr, hL⟩ := hrel
    have HN := Lib.hid hn; have HR := Lib.hid hr; have HL := Lib.hid hL; clear hn hr hL
    obtain ⟨b0, b1⟩ := box2 (HL.out.blk _ List.mem_cons_self)
    by_cases hlt : k < u.H.length
    case pos =>
      obtain ⟨x, hx⟩ : ∃ x, x = u.H[k] := ⟨_, rfl⟩
      have HV1 := Lib.hid (fun W (hb : Below w.heap.size w W) => (HVH.out.below hb).two k hlt)
      skip
      rw [← hx] at HV1
      have HXX := Lib.hid hx; clear hx
      obtain ⟨a1, c1, e1, -, -, -⟩ := HV1.out _ HL.out.bel
      simp only [Value.slice.injEq, true_and] at e1
      obtain ⟨rfl, rfl⟩ := e1
      have HI := Lib.hid (fun W => spec_id x W)
      cases hi : idB x with
      | false =>
        replace HI := Lib.hid (fun W => (HI.out W).mono fun _ _ h => Tell.to h hi)
        have HE := Lib.hid (upd_no (u := u) (fun h => by have := h.2.2.2.2.1 k hlt hlt; rw [← HXX.out] at this; rw [(idB_iff x).2 this] at hi; cases hi))
        · skip
          go_upto_region 11 with fail
          refine wp_region_calm_lg (told [(5, fun u => u = .bool false)]) (by kernel_rfl) (by kernel_rfl) (told_mono _) HL.out ?_
          repeat (first
            | (refine calm_skip (by rfl) ?_; try simp only [Act.put, List.setIfInBounds_toArray, List.set_cons_zero, List.set_cons_succ])
            | (refine calm_plain (by rfl) (by rfl) ?_; apply Exists.intro; refine ⟨fun wc hC hD => ?_, ?_⟩; (focus (clear hD; obtain ⟨b0, b1⟩ := box2 (hC.blk _ List.mem_cons_self); obtain ⟨p1, q1, e1, -, c0, c1⟩ := HV1.out _ hC.bel; simp only [Value.slice.injEq, true_and] at e1; obtain ⟨e1, e3⟩ := e1; cases e1; clear e3; clear hC; go_simp; first | done | with_reducible rfl)); try simp only [Act.put, List.setIfInBounds_toArray, List.set_cons_zero, List.set_cons_succ]))
          refine calm_call _ _ (by rfl) (by rfl) ?_ ?_
          focus
            apply Exists.intro
            apply Exists.intro
            refine ⟨fun wc hC hD => ?_, fun wc hC hD => ?_⟩
            focus (clear hD; obtain ⟨b0, b1⟩ := box2 (hC.blk _ List.mem_cons_self); obtain ⟨p1, q1, e1, -, c0, c1⟩ := HV1.out _ hC.bel; simp only [Value.slice.injEq, true_and] at e1; obtain ⟨e1, e3⟩ := e1; cases e1; clear e3; clear hC; go_simp; first | done | with_reducible exact ⟨rfl, rfl⟩ | with_reducible rfl)
            clear hD
            with_reducible refine (HI.out _).mono ?_
            rintro e wx ⟨rfl, hb⟩
            exact ⟨_, rfl, hb, rfl, trivial⟩
          rintro _ rfl
          try simp only [Act.put, List.setIfInBounds_toArray, List.set_cons_zero, List.set_cons_succ]
          repeat (first
            | (refine calm_skip (by rfl) ?_; try simp only [Act.put, List.setIfInBounds_toArray, List.set_cons_zero, List.set_cons_succ])
            | (refine calm_plain (by rfl) (by rfl) ?_; apply Exists.intro; refine ⟨fun wc hC hD => ?_, ?_⟩; (focus (clear hD; obtain ⟨b0, b1⟩ := box2 (hC.blk _ List.mem_cons_self); obtain ⟨p1, q1, e1, -, c0, c1⟩ := HV1.out _ hC.bel; simp only [Value.slice.injEq, true_and] at e1; obtain ⟨e1, e3⟩ := e1; cases e1; clear e3; clear hC; go_simp; first | done | with_reducible rfl)); try simp only [Act.put, List.setIfInBounds_toArray, List.set_cons_zero, List.set_cons_succ]))
          refine calm_end ?_
          intro w7 hL7 hF7
          clear hF7
          replace HL := Lib.hid hL7
          clear hL7
          go_wp2
          go_ret
          exact ⟨ret_bool HE.out.symm, HL.out.bel⟩
      | true =>
      replace HI := Lib.hid (fun W => (HI.out W).mono fun _ _ h => Tell.to h hi)
      have HP := Lib.hid (show IdP x from (idB_iff x).1 hi)
      rcases Nat.eq_zero_or_pos k with hk0 | hk0
      · have dk : decide ((0 : Int) < (k : Int)) = false := by simp [hk0]
        have dk' : decide (0 < k) = false := by simp [hk0]
        have HS := Lib.hid (show RiseTo nmI u.H (k + 1) from riseTo_step HR.out (fun _ j hj => by omega))
        clear hk0
        · skip
          go_upto_region 11 with fail
          refine wp_region_calm_lg (told [(5, fun u => u = .bool true)]) (by kernel_rfl) (by kernel_rfl) (told_mono _) HL.out ?_
          repeat (first
            | (refine calm_skip (by rfl) ?_; try simp only [Act.put, List.setIfInBounds_toArray, List.set_cons_zero, List.set_cons_succ])
            | (refine calm_plain (by rfl) (by rfl) ?_; apply Exists.intro; refine ⟨fun wc hC hD => ?_, ?_⟩; (focus (clear hD; obtain ⟨b0, b1⟩ := box2 (hC.blk _ List.mem_cons_self); obtain ⟨p1, q1, e1, -, c0, c1⟩ := HV1.out _ hC.bel; simp only [Value.slice.injEq, true_and] at e1; obtain ⟨e1, e3⟩ := e1; cases e1; clear e3; clear hC; go_simp; first | done | with_reducible rfl)); try simp only [Act.put, List.setIfInBounds_toArray, List.set_cons_zero, List.set_cons_succ]))
          refine calm_call _ _ (by rfl) (by rfl) ?_ ?_
          focus
            apply Exists.intro
            apply Exists.intro
            refine ⟨fun wc hC hD => ?_, fun wc hC hD => ?_⟩
            focus (clear hD; obtain ⟨b0, b1⟩ := box2 (hC.blk _ List.mem_cons_self); obtain ⟨p1, q1, e1, -, c0, c1⟩ := HV1.out _ hC.bel; simp only [Value.slice.injEq, true_and] at e1; obtain ⟨e1, e3⟩ := e1; cases e1; clear e3; clear hC; go_simp; first | done | with_reducible exact ⟨rfl, rfl⟩ | with_reducible rfl)
            clear hD
            with_reducible refine (HI.out _).mono ?_
            rintro e wx ⟨rfl, hb⟩
            exact ⟨_, rfl, hb, rfl, trivial⟩
          rintro _ rfl
          try simp only [Act.put, List.setIfInBounds_toArray, List.set_cons_zero, List.set_cons_succ]
          repeat (first
            | (refine calm_skip (by rfl) ?_; try simp only [Act.put, List.setIfInBounds_toArray, List.set_cons_zero, List.set_cons_succ])
            | (refine calm_plain (by rfl) (by rfl) ?_; apply Exists.intro; refine ⟨fun wc hC hD => ?_, ?_⟩; (focus (clear hD; obtain ⟨b0, b1⟩ := box2 (hC.blk _ List.mem_cons_self); obtain ⟨p1, q1, e1, -, c0, c1⟩ := HV1.out _ hC.bel; simp only [Value.slice.injEq, true_and] at e1; obtain ⟨e1, e3⟩ := e1; cases e1; clear e3; clear hC; go_simp; first | done | with_reducible rfl)); try simp only [Act.put, List.setIfInBounds_toArray, List.set_cons_zero, List.set_cons_succ]))
          refine calm_end ?_
          intro w7 hL7 hF7
          clear hF7
          replace HL := Lib.hid hL7
          clear hL7
          go_wp2
          go_roundw
          case rel => exact ⟨k + 1, by omega, by go_num, allTo_step HN.out (fun _ => by rw [← HXX.out]; exact HP.out), HS.out, HL.out⟩
          case measure => simp [intOf]; omega
      · obtain ⟨j, hj⟩ : ∃ j, k = j + 1 := ⟨k - 1, by omega⟩
        have hjl : j < u.H.length := by omega
        have dk : decide ((0 : Int) < (k : Int)) = true := by simp; omega
        have dk' : decide (0 < k) = true := by simp; omega
        have ek : (k : Int) - 1 = (j : Int) := by omega
        have ew : IntKind.i64.wrap (j : Int) = (j : Int) := IntWalk.i64_in _ (by omega)
        have HJ := Lib.hid hj; clear hj
        obtain ⟨y, hy⟩ : ∃ y, y = u.H[j] := ⟨_, rfl⟩
        have HV2 := Lib.hid (fun W (hb : Below w.heap.size w W) => (HVH.out.below hb).two j hjl)
        rw [← hy] at HV2
        have HYY := Lib.hid hy; clear hy
        have HLE := Lib.hid (fun W => spec_less (nmI y) (nmI x) W)
        cases h3 : lessB (nmI y) (nmI x) with
        | false =>
          replace HLE := Lib.hid (fun W => (HLE.out W).mono fun _ _ h => Tell.to h h3)
          have HE := Lib.hid (upd_no (u := u) (fun h => by
            have h' := h.2.2.2.2.2 k hlt hlt j HJ.out hjl
            rw [← HYY.out, ← HXX.out] at h'
            rw [lessB_t h'] at h3; cases h3))
          go_upto_region 11 with fail
          refine wp_region_calm_lg (told [(5, fun u => u = .bool true), (22, fun u => u = .bool false)]) (by kernel_rfl) (by kernel_rfl) (told_mono _) HL.out ?_
          repeat (first
            | (refine calm_skip (by rfl) ?_; try simp only [Act.put, List.setIfInBounds_toArray, List.set_cons_zero, List.set_cons_succ])
            | (refine calm_plain (by rfl) (by rfl) ?_; apply Exists.intro; refine ⟨fun wc hC hD => ?_, ?_⟩; (focus (clear hD; obtain ⟨b0, b1⟩ := box2 (hC.blk _ List.mem_cons_self); obtain ⟨p1, q1, e1, -, c0, c1⟩ := HV1.out _ hC.bel; simp only [Value.slice.injEq, true_and] at e1; obtain ⟨e1, e3⟩ := e1; cases e1; clear e3; obtain ⟨p2, q2, e2, -, d0, d1⟩ := HV2.out _ hC.bel; simp only [Value.slice.injEq, true_and] at e2; obtain ⟨e2, e4⟩ := e2; cases e2; clear e4; clear hC; go_simp; first | done | with_reducible rfl)); try simp only [Act.put, List.setIfInBounds_toArray, List.set_cons_zero, List.set_cons_succ]))
          refine calm_call _ _ (by rfl) (by rfl) ?_ ?_
          focus
            apply Exists.intro
            apply Exists.intro
            refine ⟨fun wc hC hD => ?_, fun wc hC hD => ?_⟩
            focus (clear hD; obtain ⟨b0, b1⟩ := box2 (hC.blk _ List.mem_cons_self); obtain ⟨p1, q1, e1, -, c0, c1⟩ := HV1.out _ hC.bel; simp only [Value.slice.injEq, true_and] at e1; obtain ⟨e1, e3⟩ := e1; cases e1; clear e3; obtain ⟨p2, q2, e2, -, d0, d1⟩ := HV2.out _ hC.bel; simp only [Value.slice.injEq, true_and] at e2; obtain ⟨e2, e4⟩ := e2; cases e2; clear e4; clear hC; go_simp; first | done | with_reducible exact ⟨rfl, rfl⟩ | with_reducible rfl)
            clear hD
            with_reducible refine (HI.out _).mono ?_
            rintro e wx ⟨rfl, hb⟩
            exact ⟨_, rfl, hb, rfl, trivial⟩
          rintro _ rfl
          try simp only [Act.put, List.setIfInBounds_toArray, List.set_cons_zero, List.set_cons_succ]
          repeat (first
            | (refine calm_skip (by rfl) ?_; try simp only [Act.put, List.setIfInBounds_toArray, List.set_cons_zero, List.set_cons_succ])
            | (refine calm_plain (by rfl) (by rfl) ?_; apply Exists.intro; refine ⟨fun wc hC hD => ?_, ?_⟩; (focus (clear hD; obtain ⟨b0, b1⟩ := box2 (hC.blk _ List.mem_cons_self); obtain ⟨p1, q1, e1, -, c0, c1⟩ := HV1.out _ hC.bel; simp only [Value.slice.injEq, true_and] at e1; obtain ⟨e1, e3⟩ := e1; cases e1; clear e3; obtain ⟨p2, q2, e2, -, d0, d1⟩ := HV2.out _ hC.bel; simp only [Value.slice.injEq, true_and] at e2; obtain ⟨e2, e4⟩ := e2; cases e2; clear e4; clear hC; go_simp; first | done | with_reducible rfl)); try simp only [Act.put, List.setIfInBounds_toArray, List.set_cons_zero, List.set_cons_succ]))
          refine calm_call _ _ (by rfl) (by rfl) ?_ ?_
          focus
            apply Exists.intro
            apply Exists.intro
            refine ⟨fun wc hC hD => ?_, fun wc hC hD => ?_⟩
            focus (clear hD; obtain ⟨b0, b1⟩ := box2 (hC.blk _ List.mem_cons_self); obtain ⟨p1, q1, e1, -, c0, c1⟩ := HV1.out _ hC.bel; simp only [Value.slice.injEq, true_and] at e1; obtain ⟨e1, e3⟩ := e1; cases e1; clear e3; obtain ⟨p2, q2, e2, -, d0, d1⟩ := HV2.out _ hC.bel; simp only [Value.slice.injEq, true_and] at e2; obtain ⟨e2, e4⟩ := e2; cases e2; clear e4; clear hC; go_simp; first | done | with_reducible exact ⟨rfl, rfl⟩ | with_reducible rfl)
            clear hD
            with_reducible refine (HLE.out _).mono ?_
            rintro e wx ⟨rfl, hb⟩
            exact ⟨_, rfl, hb, rfl, trivial⟩
          rintro _ rfl
          try simp only [Act.put, List.setIfInBounds_toArray, List.set_cons_zero, List.set_cons_succ]
          repeat (first
            | (refine calm_skip (by rfl) ?_; try simp only [Act.put, List.setIfInBounds_toArray, List.set_cons_zero, List.set_cons_succ])
            | (refine calm_plain (by rfl) (by rfl) ?_; apply Exists.intro; refine ⟨fun wc hC hD => ?_, ?_⟩; (focus (clear hD; obtain ⟨b0, b1⟩ := box2 (hC.blk _ List.mem_cons_self); obtain ⟨p1, q1, e1, -, c0, c1⟩ := HV1.out _ hC.bel; simp only [Value.slice.injEq, true_and] at e1; obtain ⟨e1, e3⟩ := e1; cases e1; clear e3; obtain ⟨p2, q2, e2, -, d0, d1⟩ := HV2.out _ hC.bel; simp only [Value.slice.injEq, true_and] at e2; obtain ⟨e2, e4⟩ := e2; cases e2; clear e4; clear hC; go_simp; first | done | with_reducible rfl)); try simp only [Act.put, List.setIfInBounds_toArray, List.set_cons_zero, List.set_cons_succ]))
          refine calm_end ?_
          intro w7 hL7 hF7
          clear hF7
          replace HL := Lib.hid hL7
          clear hL7
          go_wp2
          go_ret
          exact ⟨ret_bool HE.out.symm, HL.out.bel⟩
        | true =>
          replace HLE := Lib.hid (fun W => (HLE.out W).mono fun _ _ h => Tell.to h h3)
          have HS := Lib.hid (show RiseTo nmI u.H (k + 1) from riseTo_step HR.out (fun _ j' hj' h' => by
            have e : j' = j := by have := HJ.out; omega
            subst e; rw [← HYY.out, ← HXX.out]; exact (lessB_iff _ _).1 h3))
          go_upto_region 11 with fail
          refine wp_region_calm_lg (told [(5, fun u => u = .bool true), (22, fun u => u = .bool true)]) (by kernel_rfl) (by kernel_rfl) (told_mono _) HL.out ?_
          repeat (first
            | (refine calm_skip (by rfl) ?_; try simp only [Act.put, List.setIfInBounds_toArray, List.set_cons_zero, List.set_cons_succ])
            | (refine calm_plain (by rfl) (by rfl) ?_; apply Exists.intro; refine ⟨fun wc hC hD => ?_, ?_⟩; (focus (clear hD; obtain ⟨b0, b1⟩ := box2 (hC.blk _ List.mem_cons_self); obtain ⟨p1, q1, e1, -, c0, c1⟩ := HV1.out _ hC.bel; simp only [Value.slice.injEq, true_and] at e1; obtain ⟨e1, e3⟩ := e1; cases e1; clear e3; obtain ⟨p2, q2, e2, -, d0, d1⟩ := HV2.out _ hC.bel; simp only [Value.slice.injEq, true_and] at e2; obtain ⟨e2, e4⟩ := e2; cases e2; clear e4; clear hC; go_simp; first | done | with_reducible rfl)); try simp only [Act.put, List.setIfInBounds_toArray, List.set_cons_zero, List.set_cons_succ]))
          refine calm_call _ _ (by rfl) (by rfl) ?_ ?_
          focus
            apply Exists.intro
            apply Exists.intro
            refine ⟨fun wc hC hD => ?_, fun wc hC hD => ?_⟩
            focus (clear hD; obtain ⟨b0, b1⟩ := box2 (hC.blk _ List.mem_cons_self); obtain ⟨p1, q1, e1, -, c0, c1⟩ := HV1.out _ hC.bel; simp only [Value.slice.injEq, true_and] at e1; obtain ⟨e1, e3⟩ := e1; cases e1; clear e3; obtain ⟨p2, q2, e2, -, d0, d1⟩ := HV2.out _ hC.bel; simp only [Value.slice.injEq, true_and] at e2; obtain ⟨e2, e4⟩ := e2; cases e2; clear e4; clear hC; go_simp; first | done | with_reducible exact ⟨rfl, rfl⟩ | with_reducible rfl)
            clear hD
            with_reducible refine (HI.out _).mono ?_
            rintro e wx ⟨rfl, hb⟩
            exact ⟨_, rfl, hb, rfl, trivial⟩
          rintro _ rfl
          try simp only [Act.put, List.setIfInBounds_toArray, List.set_cons_zero, List.set_cons_succ]
          repeat (first
            | (refine calm_skip (by rfl) ?_; try simp only [Act.put, List.setIfInBounds_toArray, List.set_cons_zero, List.set_cons_succ])
            | (refine calm_plain (by rfl) (by rfl) ?_; apply Exists.intro; refine ⟨fun wc hC hD => ?_, ?_⟩; (focus (clear hD; obtain ⟨b0, b1⟩ := box2 (hC.blk _ List.mem_cons_self); obtain ⟨p1, q1, e1, -, c0, c1⟩ := HV1.out _ hC.bel; simp only [Value.slice.injEq, true_and] at e1; obtain ⟨e1, e3⟩ := e1; cases e1; clear e3; obtain ⟨p2, q2, e2, -, d0, d1⟩ := HV2.out _ hC.bel; simp only [Value.slice.injEq, true_and] at e2; obtain ⟨e2, e4⟩ := e2; cases e2; clear e4; clear hC; go_simp; first | done | with_reducible rfl)); try simp only [Act.put, List.setIfInBounds_toArray, List.set_cons_zero, List.set_cons_succ]))
          refine calm_call _ _ (by rfl) (by rfl) ?_ ?_
          focus
            apply Exists.intro
            apply Exists.intro
            refine ⟨fun wc hC hD => ?_, fun wc hC hD => ?_⟩
            focus (clear hD; obtain ⟨b0, b1⟩ := box2 (hC.blk _ List.mem_cons_self); obtain ⟨p1, q1, e1, -, c0, c1⟩ := HV1.out _ hC.bel; simp only [Value.slice.injEq, true_and] at e1; obtain ⟨e1, e3⟩ := e1; cases e1; clear e3; obtain ⟨p2, q2, e2, -, d0, d1⟩ := HV2.out _ hC.bel; simp only [Value.slice.injEq, true_and] at e2; obtain ⟨e2, e4⟩ := e2; cases e2; clear e4; clear hC; go_simp; first | done | with_reducible exact ⟨rfl, rfl⟩ | with_reducible rfl)
            clear hD
            with_reducible refine (HLE.out _).mono ?_
            rintro e wx ⟨rfl, hb⟩
            exact ⟨_, rfl, hb, rfl, trivial⟩
          rintro _ rfl
          try simp only [Act.put, List.setIfInBounds_toArray, List.set_cons_zero, List.set_cons_succ]
          repeat (first
            | (refine calm_skip (by rfl) ?_; try simp only [Act.put, List.setIfInBounds_toArray, List.set_cons_zero, List.set_cons_succ])
            | (refine calm_plain (by rfl) (by rfl) ?_; apply Exists.intro; refine ⟨fun wc hC hD => ?_, ?_⟩; (focus (clear hD; obtain ⟨b0, b1⟩ := box2 (hC.blk _ List.mem_cons_self); obtain ⟨p1, q1, e1, -, c0, c1⟩ := HV1.out _ hC.bel; simp only [Value.slice.injEq, true_and] at e1; obtain ⟨e1, e3⟩ := e1; cases e1; clear e3; obtain ⟨p2, q2, e2, -, d0, d1⟩ := HV2.out _ hC.bel; simp only [Value.slice.injEq, true_and] at e2; obtain ⟨e2, e4⟩ := e2; cases e2; clear e4; clear hC; go_simp; first | done | with_reducible rfl)); try simp only [Act.put, List.setIfInBounds_toArray, List.set_cons_zero, List.set_cons_succ]))
          refine calm_end ?_
          intro w7 hL7 hF7
          clear hF7
          replace HL := Lib.hid hL7
          clear hL7
          go_wp2
          go_roundw
          case rel => exact ⟨k + 1, by omega, by go_num, allTo_step HN.out (fun _ => by rw [← HXX.out]; exact HP.out), HS.out, HL.out⟩
          case measure => simp [intOf]; omega
    case neg =>
    have hkl : k = u.H.length := by omega
    have HE := Lib.hid (upd_yes (u := u) ⟨h60, h80, HNX.out, HRX.out, by rw [← hkl]; exact HN.out, by unfold Rise; rw [← hkl]; exact HR.out⟩)
    go_wp2
    go_ret
    exact ⟨ret_bool HE.out.symm, HL.out.bel⟩

end Go.Proofs.Ytaggmcdfggmlhaa
