/-
  Contract of the program's DocRight.
-/
import Derived.Test.YtghiipoeedfkhaaIItems
namespace Go.Proofs.Ytghiipoeedfkhaa
set_option linter.unusedSimpArgs false
set_option linter.unusedVariables false
open Go.ChangeShapes Go.WideShapes Go.ChangeAt Go.RowKit

open Classical in
noncomputable def waitsB (X P : List Im) : Bool := decide (WaitTo X P P.length)
open Classical in
theorem waitsB_iff (X P : List Im) : waitsB X P = true ↔ WaitTo X P P.length := decide_eq_true_iff
theorem waitsB_no {X P : List Im} (h : ¬ WaitTo X P P.length) : waitsB X P = false := by
  cases e : waitsB X P with
  | false => rfl
  | true => exact absurd ((waitsB_iff X P).1 e) h
open Classical in
noncomputable def holesB (X : List Im) (H : List Nm) : Bool := decide (HolesTo X H H.length)
open Classical in
theorem holesB_iff (X : List Im) (H : List Nm) : holesB X H = true ↔ HolesTo X H H.length := decide_eq_true_iff
theorem holesB_no {X : List Im} {H : List Nm} (h : ¬ HolesTo X H H.length) : holesB X H = false := by
  cases e : holesB X H with
  | false => rfl
  | true => exact absurd ((holesB_iff X H).1 e) h

set_option maxRecDepth 100000 in
set_option maxHeartbeats 8000000 in
theorem impl_pend (v v2 : Value) (P X : List Im) (w : World) (hv : Sl w w.heap.size 8 encM v P) (hx : Sl w w.heap.size 8 encM v2 X) (hl : P.length ≤ 140737488351232) (hl2 : X.length ≤ 140737488351232) (hs : ∀ x ∈ P, x.t.size ≤ maxLen) :
    Calls Try.prog 98 #[v, v2] w (Tell (waitsB X P) w) := by
  have HT := Lib.hid (fun n W (hb : Below w.heap.size w W) => impl_place v2 X n W ((hx.below hb).more hb.size) hl2)
  have HRd := Lib.hid (fun x W (hb : Below w.heap.size w W) => impl_ready v2 X x W ((hx.below hb).more hb.size) hl2)
  have HS := Lib.hid hs; clear hs
  obtain ⟨A, c, rfl⟩ := hv.form
  obtain ⟨A2, cc2, rfl⟩ := hx.form
  have HVP := Lib.hid hv; clear hv hx
  go_enter Try.func98, Try.ntmps98
  go_wp2
  go_loopw [9] (fun i wr => ∃ k : Nat, k ≤ P.length ∧ i = .int .i64 k ∧ WaitTo X P k ∧ Below w.heap.size w wr) (fun i _ => P.length - (intOf i).toNat)
  case atStart => exact ⟨0, Nat.zero_le _, rfl, waitTo_zero X P, Below.refl _ _⟩
  case round =>
    obtain ⟨k, hk, rfl, hn, hb⟩ := hrel
    have HN := Lib.hid hn; have HB := Lib.hid hb; clear hn hb
    by_cases hlt : k < P.length
    · obtain ⟨ad, c', e', _, c0, c1, c2, c3, c4, c5, c6, c7⟩ := (HVP.out.below HB.out).item k hlt
      simp only [Value.slice.injEq, true_and] at e'
      obtain ⟨rfl, rfl⟩ := e'
      have hxm := HS.out _ (getElem_mem' P k hlt)
      obtain ⟨x, hx⟩ : ∃ x, x = P[k] := ⟨_, rfl⟩
      rw [← hx] at c0 c1 c2 c3 c4 c5 c6 c7 hxm
      have HXX := Lib.hid hx; clear hx
      have HI := Lib.hid (fun W => impl_item x W hxm)
      clear hxm
      have HNS := Lib.hid (fun h : ¬ WaitP X P k x => waitsB_no (X := X) (P := P) (fun hh => h (by rw [HXX.out]; exact hh k hlt hlt)))
      replace HT := Lib.hid (HT.out x.i); replace HRd := Lib.hid (HRd.out x)
      have hp0 := at_lo X x.i; have hp1 := at_hi X x.i
      obtain ⟨p, hp⟩ : ∃ p, p = atOf X x.i := ⟨_, rfl⟩
      have HPP := Lib.hid hp
      rw [← hp] at HT hp0 hp1
      clear hp
      have HL := Lib.hid ((Lg.of HB.out).alloc (.cells #[.int .i64 x.i.c, .int .i64 x.i.k, .int .i64 x.l.c, .int .i64 x.l.k, .int .i64 x.r.c, .int .i64 x.r.k, .string x.t, .bool x.g] 83))
      cases hi : itemB x with
      | false =>
        replace HI := Lib.hid (fun W => (HI.out W).mono fun _ _ h => Tell.to h hi)
        have HE := Lib.hid (HNS.out (fun h => by rw [(itemB_iff x).2 h.1] at hi; cases hi))
        clear hi
        go_wp2_with fail
        refine (HI.out _).mono ?_
        rintro e w1 ⟨rfl, hb⟩
        replace HL := Lib.hid (HL.out.lift hb)
        clear hb c0 c1 c2 c3 c4 c5 c6 c7
        obtain ⟨c0, c1, c2, c3, c4, c5, c6, c7⟩ := box8 (HL.out.blk _ List.mem_cons_self)
        go_wp2
        go_ret
        exact ⟨ret_bool HE.out.symm, HL.out.bel⟩
      | true =>
        replace HI := Lib.hid (fun W => (HI.out W).mono fun _ _ h => Tell.to h hi)
        have HII := Lib.hid ((itemB_iff x).1 hi); clear hi
        by_cases h2 : 0 ≤ p
        · have HE := Lib.hid (HNS.out (fun h => h.2.2.1 (by rw [← HPP.out]; exact h2)))
          go_wp2_with fail
          refine (HI.out _).mono ?_
          rintro e w1 ⟨rfl, hb⟩
          replace HL := Lib.hid (HL.out.lift hb)
          clear hb c0 c1 c2 c3 c4 c5 c6 c7
          obtain ⟨c0, c1, c2, c3, c4, c5, c6, c7⟩ := box8 (HL.out.blk _ List.mem_cons_self)
          go_wp2_with fail
          refine (HT.out _ HL.out.bel).mono ?_
          rintro e w2 ⟨rfl, hb⟩
          replace HL := Lib.hid (HL.out.lift hb)
          clear hb c0 c1 c2 c3 c4 c5 c6 c7
          obtain ⟨c0, c1, c2, c3, c4, c5, c6, c7⟩ := box8 (HL.out.blk _ List.mem_cons_self)
          go_wp2
          go_ret
          exact ⟨ret_bool HE.out.symm, HL.out.bel⟩
        · have HNP := Lib.hid (show ¬ 0 ≤ atOf X x.i by rw [← HPP.out]; exact h2)
          cases hr : readyB X x with
          | true =>
            replace HRd := Lib.hid (fun W hb => (HRd.out W hb).mono fun _ _ h => Tell.to h hr)
            have HE := Lib.hid (HNS.out (fun h => h.2.2.2 ((readyB_iff _ _).1 hr))); clear hr
            go_wp2_with fail
            refine (HI.out _).mono ?_
            rintro e w1 ⟨rfl, hb⟩
            replace HL := Lib.hid (HL.out.lift hb)
            clear hb c0 c1 c2 c3 c4 c5 c6 c7
            obtain ⟨c0, c1, c2, c3, c4, c5, c6, c7⟩ := box8 (HL.out.blk _ List.mem_cons_self)
            go_wp2_with fail
            refine (HT.out _ HL.out.bel).mono ?_
            rintro e w2 ⟨rfl, hb⟩
            replace HL := Lib.hid (HL.out.lift hb)
            clear hb c0 c1 c2 c3 c4 c5 c6 c7
            obtain ⟨c0, c1, c2, c3, c4, c5, c6, c7⟩ := box8 (HL.out.blk _ List.mem_cons_self)
            go_wp2_with fail
            refine (HRd.out _ HL.out.bel).mono ?_
            rintro e w3 ⟨rfl, hb⟩
            replace HL := Lib.hid (HL.out.lift hb)
            clear hb c0 c1 c2 c3 c4 c5 c6 c7
            obtain ⟨c0, c1, c2, c3, c4, c5, c6, c7⟩ := box8 (HL.out.blk _ List.mem_cons_self)
            go_wp2
            go_ret
            exact ⟨ret_bool HE.out.symm, HL.out.bel⟩
          | false =>
            replace HRd := Lib.hid (fun W hb => (HRd.out W hb).mono fun _ _ h => Tell.to h hr)
            have HNR := Lib.hid (show ¬ ReadyP X x from fun h => by rw [(readyB_iff _ _).2 h] at hr; cases hr); clear hr
            go_wp2_with fail
            refine (HI.out _).mono ?_
            rintro e w1 ⟨rfl, hb⟩
            replace HL := Lib.hid (HL.out.lift hb)
            clear hb c0 c1 c2 c3 c4 c5 c6 c7
            obtain ⟨c0, c1, c2, c3, c4, c5, c6, c7⟩ := box8 (HL.out.blk _ List.mem_cons_self)
            go_wp2_with fail
            refine (HT.out _ HL.out.bel).mono ?_
            rintro e w2 ⟨rfl, hb⟩
            replace HL := Lib.hid (HL.out.lift hb)
            clear hb c0 c1 c2 c3 c4 c5 c6 c7
            obtain ⟨c0, c1, c2, c3, c4, c5, c6, c7⟩ := box8 (HL.out.blk _ List.mem_cons_self)
            go_wp2_with fail
            refine (HRd.out _ HL.out.bel).mono ?_
            rintro e w3 ⟨rfl, hb⟩
            replace HL := Lib.hid (HL.out.lift hb)
            clear hb c0 c1 c2 c3 c4 c5 c6 c7
            obtain ⟨c0, c1, c2, c3, c4, c5, c6, c7⟩ := box8 (HL.out.blk _ List.mem_cons_self)
            clear c0 c1 c2 c3 c4 c5 c6 c7
            rcases Nat.eq_zero_or_pos k with hk0 | hk0
            · have dk : decide ((0 : Int) < (k : Int)) = false := by simp [hk0]
              have dk' : decide (0 < k) = false := by simp [hk0]
              have HE := Lib.hid (show WaitP X P k x from ⟨HII.out, fun j hj _ => by omega, (by have := HNP.out; omega), HNR.out⟩)
              clear hk0
              go_upto_region 6 with fail
              refine wp_region_calm_lg (told []) (by kernel_rfl) (by kernel_rfl) (told_mono _) HL.out ?_
              repeat (first
                | (refine calm_skip (by rfl) ?_; try simp only [Act.put, List.setIfInBounds_toArray, List.set_cons_zero, List.set_cons_succ])
                | (refine calm_plain (by rfl) (by rfl) ?_; apply Exists.intro; refine ⟨fun wc hC hD => ?_, ?_⟩; (focus (clear hD; obtain ⟨c0, c1, c2, c3, c4, c5, c6, c7⟩ := box8 (hC.blk _ List.mem_cons_self); clear hC; go_simp; first | done | with_reducible rfl)); try simp only [Act.put, List.setIfInBounds_toArray, List.set_cons_zero, List.set_cons_succ]))
              refine calm_end ?_
              intro w7 hL7 hF7
              clear hF7
              replace HL := Lib.hid hL7
              clear hL7
              go_wp2
              go_roundw
              case rel => exact ⟨k + 1, by omega, by go_num, waitTo_step HN.out hlt (by rw [← HXX.out]; exact HE.out), HL.out.bel⟩
              case measure => simp [intOf]; omega
            · obtain ⟨j, hj⟩ : ∃ j, k = j + 1 := ⟨k - 1, by omega⟩
              have hjl : j < P.length := by omega
              have dk : decide ((0 : Int) < (k : Int)) = true := by simp; omega
              have dk' : decide (0 < k) = true := by simp; omega
              have ek : (k : Int) - 1 = (j : Int) := by omega
              have ew : IntKind.i64.wrap (j : Int) = (j : Int) := IntWalk.i64_in _ (by omega)
              have HJ := Lib.hid hj; clear hj
              obtain ⟨y, hy⟩ : ∃ y, y = P[j] := ⟨_, rfl⟩
              have HVJ := Lib.hid (fun W (hb : Below w.heap.size w W) => (HVP.out.below hb).item j hjl)
              rw [← hy] at HVJ
              have HYY := Lib.hid hy; clear hy
              have HLe := Lib.hid (fun W => impl_compare y.i x.i W)
              have HCL := Lib.hid (cmpN_less y.i x.i)
              obtain ⟨q, hq⟩ : ∃ q, q = cmpN y.i x.i := ⟨_, rfl⟩
              rw [← hq] at HLe HCL
              clear hq
              by_cases h3 : 0 ≤ q
              · have d3 : decide ((0 : Int) ≤ q) = true := decide_eq_true h3
                have HE := Lib.hid (HNS.out (fun h => by have h' := h.2.1 j HJ.out hjl; rw [← HYY.out] at h'; exact HCL.out.1 h3 h'))
                go_upto_region 6 with fail
                refine wp_region_calm_lg (told [(11, fun u => u = .int .i64 q)]) (by kernel_rfl) (by kernel_rfl) (told_mono _) HL.out ?_
                repeat (first
                  | (refine calm_skip (by rfl) ?_; try simp only [Act.put, List.setIfInBounds_toArray, List.set_cons_zero, List.set_cons_succ])
                  | (refine calm_plain (by rfl) (by rfl) ?_; apply Exists.intro; refine ⟨fun wc hC hD => ?_, ?_⟩; (focus (clear hD; obtain ⟨c0, c1, c2, c3, c4, c5, c6, c7⟩ := box8 (hC.blk _ List.mem_cons_self); obtain ⟨ad', c', e', -, y0, y1, -, -, -, -, -, -⟩ := HVJ.out _ hC.bel; simp only [Value.slice.injEq, true_and] at e'; obtain ⟨e1, e2⟩ := e'; cases e1; clear e2; clear hC; go_simp; first | done | with_reducible rfl)); try simp only [Act.put, List.setIfInBounds_toArray, List.set_cons_zero, List.set_cons_succ]))
                refine calm_call _ _ (by rfl) (by rfl) ?_ ?_
                focus
                  apply Exists.intro
                  apply Exists.intro
                  refine ⟨fun wc hC hD => ?_, fun wc hC hD => ?_⟩
                  focus (clear hD; obtain ⟨c0, c1, c2, c3, c4, c5, c6, c7⟩ := box8 (hC.blk _ List.mem_cons_self); obtain ⟨ad', c', e', -, y0, y1, -, -, -, -, -, -⟩ := HVJ.out _ hC.bel; simp only [Value.slice.injEq, true_and] at e'; obtain ⟨e1, e2⟩ := e'; cases e1; clear e2; clear hC; go_simp; first | done | with_reducible exact ⟨rfl, rfl⟩)
                  clear hD
                  with_reducible refine (HLe.out _).mono ?_
                  rintro e wx ⟨rfl, hb⟩
                  exact ⟨_, rfl, hb, rfl, trivial⟩
                rintro _ rfl
                try simp only [Act.put, List.setIfInBounds_toArray, List.set_cons_zero, List.set_cons_succ]
                repeat (first
                  | (refine calm_skip (by rfl) ?_; try simp only [Act.put, List.setIfInBounds_toArray, List.set_cons_zero, List.set_cons_succ])
                  | (refine calm_plain (by rfl) (by rfl) ?_; apply Exists.intro; refine ⟨fun wc hC hD => ?_, ?_⟩; (focus (clear hD; obtain ⟨c0, c1, c2, c3, c4, c5, c6, c7⟩ := box8 (hC.blk _ List.mem_cons_self); obtain ⟨ad', c', e', -, y0, y1, -, -, -, -, -, -⟩ := HVJ.out _ hC.bel; simp only [Value.slice.injEq, true_and] at e'; obtain ⟨e1, e2⟩ := e'; cases e1; clear e2; clear hC; go_simp; first | done | with_reducible rfl)); try simp only [Act.put, List.setIfInBounds_toArray, List.set_cons_zero, List.set_cons_succ]))
                refine calm_end ?_
                intro w7 hL7 hF7
                clear hF7
                replace HL := Lib.hid hL7
                clear hL7
                go_wp2
                go_ret
                exact ⟨ret_bool HE.out.symm, HL.out.bel⟩
              · have d3 : decide ((0 : Int) ≤ q) = false := decide_eq_false h3
                have HE := Lib.hid (show WaitP X P k x from ⟨HII.out, fun j' hj' h' => by
                  have e : j' = j := by have := HJ.out; omega
                  subst e; rw [← HYY.out]; exact Classical.byContradiction (fun hc => h3 (HCL.out.2 hc)), (by have := HNP.out; omega), HNR.out⟩)
                go_upto_region 6 with fail
                refine wp_region_calm_lg (told [(11, fun u => u = .int .i64 q)]) (by kernel_rfl) (by kernel_rfl) (told_mono _) HL.out ?_
                repeat (first
                  | (refine calm_skip (by rfl) ?_; try simp only [Act.put, List.setIfInBounds_toArray, List.set_cons_zero, List.set_cons_succ])
                  | (refine calm_plain (by rfl) (by rfl) ?_; apply Exists.intro; refine ⟨fun wc hC hD => ?_, ?_⟩; (focus (clear hD; obtain ⟨c0, c1, c2, c3, c4, c5, c6, c7⟩ := box8 (hC.blk _ List.mem_cons_self); obtain ⟨ad', c', e', -, y0, y1, -, -, -, -, -, -⟩ := HVJ.out _ hC.bel; simp only [Value.slice.injEq, true_and] at e'; obtain ⟨e1, e2⟩ := e'; cases e1; clear e2; clear hC; go_simp; first | done | with_reducible rfl)); try simp only [Act.put, List.setIfInBounds_toArray, List.set_cons_zero, List.set_cons_succ]))
                refine calm_call _ _ (by rfl) (by rfl) ?_ ?_
                focus
                  apply Exists.intro
                  apply Exists.intro
                  refine ⟨fun wc hC hD => ?_, fun wc hC hD => ?_⟩
                  focus (clear hD; obtain ⟨c0, c1, c2, c3, c4, c5, c6, c7⟩ := box8 (hC.blk _ List.mem_cons_self); obtain ⟨ad', c', e', -, y0, y1, -, -, -, -, -, -⟩ := HVJ.out _ hC.bel; simp only [Value.slice.injEq, true_and] at e'; obtain ⟨e1, e2⟩ := e'; cases e1; clear e2; clear hC; go_simp; first | done | with_reducible exact ⟨rfl, rfl⟩)
                  clear hD
                  with_reducible refine (HLe.out _).mono ?_
                  rintro e wx ⟨rfl, hb⟩
                  exact ⟨_, rfl, hb, rfl, trivial⟩
                rintro _ rfl
                try simp only [Act.put, List.setIfInBounds_toArray, List.set_cons_zero, List.set_cons_succ]
                repeat (first
                  | (refine calm_skip (by rfl) ?_; try simp only [Act.put, List.setIfInBounds_toArray, List.set_cons_zero, List.set_cons_succ])
                  | (refine calm_plain (by rfl) (by rfl) ?_; apply Exists.intro; refine ⟨fun wc hC hD => ?_, ?_⟩; (focus (clear hD; obtain ⟨c0, c1, c2, c3, c4, c5, c6, c7⟩ := box8 (hC.blk _ List.mem_cons_self); obtain ⟨ad', c', e', -, y0, y1, -, -, -, -, -, -⟩ := HVJ.out _ hC.bel; simp only [Value.slice.injEq, true_and] at e'; obtain ⟨e1, e2⟩ := e'; cases e1; clear e2; clear hC; go_simp; first | done | with_reducible rfl)); try simp only [Act.put, List.setIfInBounds_toArray, List.set_cons_zero, List.set_cons_succ]))
                refine calm_end ?_
                intro w7 hL7 hF7
                clear hF7
                replace HL := Lib.hid hL7
                clear hL7
                go_wp2
                go_roundw
                case rel => exact ⟨k + 1, by omega, by go_num, waitTo_step HN.out hlt (by rw [← HXX.out]; exact HE.out), HL.out.bel⟩
                case measure => simp [intOf]; omega
    · have hks : k = P.length := by omega
      subst hks
      have HE := Lib.hid ((waitsB_iff X P).2 HN.out)
      go_wp2
      go_ret
      exact ⟨ret_bool HE.out.symm, HB.out⟩

set_option maxRecDepth 100000 in
set_option maxHeartbeats 8000000 in
theorem impl_holes (v v2 : Value) (H : List Nm) (X : List Im) (w : World) (hv : Sl w w.heap.size 2 encN v H) (hx : Sl w w.heap.size 8 encM v2 X) (hl : H.length ≤ 140737488351232) (hl2 : X.length ≤ 140737488351232) :
    Calls Try.prog 99 #[v, v2] w (Tell (holesB X H) w) := by
  have HT := Lib.hid (fun n W (hb : Below w.heap.size w W) => impl_place v2 X n W ((hx.below hb).more hb.size) hl2)
  obtain ⟨A, c, rfl⟩ := hv.form
  obtain ⟨A2, cc2, rfl⟩ := hx.form
  have HVH := Lib.hid hv; clear hv hx
  go_enter Try.func99, Try.ntmps99
  go_wp2
  go_loopw [9] (fun i wr => ∃ k : Nat, k ≤ H.length ∧ i = .int .i64 k ∧ HolesTo X H k ∧ Below w.heap.size w wr) (fun i _ => H.length - (intOf i).toNat)
  case atStart => exact ⟨0, Nat.zero_le _, rfl, holesTo_zero X H, Below.refl _ _⟩
  case round =>
    obtain ⟨k, hk, rfl, hn, hb⟩ := hrel
    have HN := Lib.hid hn; have HB := Lib.hid hb; clear hn hb
    by_cases hlt : k < H.length
    · obtain ⟨ad, c', e', _, c0, c1⟩ := (HVH.out.below HB.out).two k hlt
      simp only [Value.slice.injEq, true_and] at e'
      obtain ⟨rfl, rfl⟩ := e'
      obtain ⟨x, hx⟩ : ∃ x, x = H[k] := ⟨_, rfl⟩
      rw [← hx] at c0 c1
      have HXX := Lib.hid hx; clear hx
      have HI := Lib.hid (fun W => impl_id x W)
      have HNS := Lib.hid (fun h : ¬ HoleP X H k x => holesB_no (X := X) (H := H) (fun hh => h (by rw [HXX.out]; exact hh k hlt hlt)))
      replace HT := Lib.hid (HT.out x)
      have hp0 := at_lo X x; have hp1 := at_hi X x
      obtain ⟨p, hp⟩ : ∃ p, p = atOf X x := ⟨_, rfl⟩
      have HPP := Lib.hid hp
      rw [← hp] at HT hp0 hp1
      clear hp
      have HL := Lib.hid ((Lg.of HB.out).alloc (.cells #[.int .i64 x.c, .int .i64 x.k] 66))
      cases hi : idB x with
      | false =>
        replace HI := Lib.hid (fun W => (HI.out W).mono fun _ _ h => Tell.to h hi)
        have HE := Lib.hid (HNS.out (fun h => by rw [(idB_iff x).2 h.1] at hi; cases hi))
        clear hi
        go_wp2_with fail
        refine (HI.out _).mono ?_
        rintro e w1 ⟨rfl, hb⟩
        replace HL := Lib.hid (HL.out.lift hb)
        clear hb c0 c1
        obtain ⟨c0, c1⟩ := box2 (HL.out.blk _ List.mem_cons_self)
        go_wp2
        go_ret
        exact ⟨ret_bool HE.out.symm, HL.out.bel⟩
      | true =>
        replace HI := Lib.hid (fun W => (HI.out W).mono fun _ _ h => Tell.to h hi)
        have HII := Lib.hid ((idB_iff x).1 hi); clear hi
        by_cases h2 : 0 ≤ p
        · have HE := Lib.hid (HNS.out (fun h => h.2.2 (by rw [← HPP.out]; exact h2)))
          go_wp2_with fail
          refine (HI.out _).mono ?_
          rintro e w1 ⟨rfl, hb⟩
          replace HL := Lib.hid (HL.out.lift hb)
          clear hb c0 c1
          obtain ⟨c0, c1⟩ := box2 (HL.out.blk _ List.mem_cons_self)
          go_wp2_with fail
          refine (HT.out _ HL.out.bel).mono ?_
          rintro e w2 ⟨rfl, hb⟩
          replace HL := Lib.hid (HL.out.lift hb)
          clear hb c0 c1
          obtain ⟨c0, c1⟩ := box2 (HL.out.blk _ List.mem_cons_self)
          go_wp2
          go_ret
          exact ⟨ret_bool HE.out.symm, HL.out.bel⟩
        · have HNP := Lib.hid (show ¬ 0 ≤ atOf X x by rw [← HPP.out]; exact h2)
          go_wp2_with fail
          refine (HI.out _).mono ?_
          rintro e w1 ⟨rfl, hb⟩
          replace HL := Lib.hid (HL.out.lift hb)
          clear hb c0 c1
          obtain ⟨c0, c1⟩ := box2 (HL.out.blk _ List.mem_cons_self)
          go_wp2_with fail
          refine (HT.out _ HL.out.bel).mono ?_
          rintro e w2 ⟨rfl, hb⟩
          replace HL := Lib.hid (HL.out.lift hb)
          clear hb c0 c1
          obtain ⟨c0, c1⟩ := box2 (HL.out.blk _ List.mem_cons_self)
          clear c0 c1
          rcases Nat.eq_zero_or_pos k with hk0 | hk0
          · have dk : decide ((0 : Int) < (k : Int)) = false := by simp [hk0]
            have dk' : decide (0 < k) = false := by simp [hk0]
            have HE := Lib.hid (show HoleP X H k x from ⟨HII.out, fun j hj _ => by omega, (by have := HNP.out; omega)⟩)
            clear hk0
            go_upto_region 6 with fail
            refine wp_region_calm_lg (told []) (by kernel_rfl) (by kernel_rfl) (told_mono _) HL.out ?_
            repeat (first
              | (refine calm_skip (by rfl) ?_; try simp only [Act.put, List.setIfInBounds_toArray, List.set_cons_zero, List.set_cons_succ])
              | (refine calm_plain (by rfl) (by rfl) ?_; apply Exists.intro; refine ⟨fun wc hC hD => ?_, ?_⟩; (focus (clear hD; obtain ⟨c0, c1⟩ := box2 (hC.blk _ List.mem_cons_self); clear hC; go_simp; first | done | with_reducible rfl)); try simp only [Act.put, List.setIfInBounds_toArray, List.set_cons_zero, List.set_cons_succ]))
            refine calm_end ?_
            intro w7 hL7 hF7
            clear hF7
            replace HL := Lib.hid hL7
            clear hL7
            go_wp2
            go_roundw
            case rel => exact ⟨k + 1, by omega, by go_num, holesTo_step HN.out hlt (by rw [← HXX.out]; exact HE.out), HL.out.bel⟩
            case measure => simp [intOf]; omega
          · obtain ⟨j, hj⟩ : ∃ j, k = j + 1 := ⟨k - 1, by omega⟩
            have hjl : j < H.length := by omega
            have dk : decide ((0 : Int) < (k : Int)) = true := by simp; omega
            have dk' : decide (0 < k) = true := by simp; omega
            have ek : (k : Int) - 1 = (j : Int) := by omega
            have ew : IntKind.i64.wrap (j : Int) = (j : Int) := IntWalk.i64_in _ (by omega)
            have HJ := Lib.hid hj; clear hj
            obtain ⟨y, hy⟩ : ∃ y, y = H[j] := ⟨_, rfl⟩
            have HVJ := Lib.hid (fun W (hb : Below w.heap.size w W) => (HVH.out.below hb).two j hjl)
            rw [← hy] at HVJ
            have HYY := Lib.hid hy; clear hy
            have HLe := Lib.hid (fun W => impl_compare y x W)
            have HCL := Lib.hid (cmpN_less y x)
            obtain ⟨q, hq⟩ : ∃ q, q = cmpN y x := ⟨_, rfl⟩
            rw [← hq] at HLe HCL
            clear hq
            by_cases h3 : 0 ≤ q
            · have d3 : decide ((0 : Int) ≤ q) = true := decide_eq_true h3
              have HE := Lib.hid (HNS.out (fun h => by have h' := h.2.1 j HJ.out hjl; rw [← HYY.out] at h'; exact HCL.out.1 h3 h'))
              go_upto_region 6 with fail
              refine wp_region_calm_lg (told [(9, fun u => u = .int .i64 q)]) (by kernel_rfl) (by kernel_rfl) (told_mono _) HL.out ?_
              repeat (first
                | (refine calm_skip (by rfl) ?_; try simp only [Act.put, List.setIfInBounds_toArray, List.set_cons_zero, List.set_cons_succ])
                | (refine calm_plain (by rfl) (by rfl) ?_; apply Exists.intro; refine ⟨fun wc hC hD => ?_, ?_⟩; (focus (clear hD; obtain ⟨c0, c1⟩ := box2 (hC.blk _ List.mem_cons_self); obtain ⟨ad', c', e', -, y0, y1⟩ := HVJ.out _ hC.bel; simp only [Value.slice.injEq, true_and] at e'; obtain ⟨e1, e2⟩ := e'; cases e1; clear e2; clear hC; go_simp; first | done | with_reducible rfl)); try simp only [Act.put, List.setIfInBounds_toArray, List.set_cons_zero, List.set_cons_succ]))
              refine calm_call _ _ (by rfl) (by rfl) ?_ ?_
              focus
                apply Exists.intro
                apply Exists.intro
                refine ⟨fun wc hC hD => ?_, fun wc hC hD => ?_⟩
                focus (clear hD; obtain ⟨c0, c1⟩ := box2 (hC.blk _ List.mem_cons_self); obtain ⟨ad', c', e', -, y0, y1⟩ := HVJ.out _ hC.bel; simp only [Value.slice.injEq, true_and] at e'; obtain ⟨e1, e2⟩ := e'; cases e1; clear e2; clear hC; go_simp; first | done | with_reducible exact ⟨rfl, rfl⟩)
                clear hD
                with_reducible refine (HLe.out _).mono ?_
                rintro e wx ⟨rfl, hb⟩
                exact ⟨_, rfl, hb, rfl, trivial⟩
              rintro _ rfl
              try simp only [Act.put, List.setIfInBounds_toArray, List.set_cons_zero, List.set_cons_succ]
              repeat (first
                | (refine calm_skip (by rfl) ?_; try simp only [Act.put, List.setIfInBounds_toArray, List.set_cons_zero, List.set_cons_succ])
                | (refine calm_plain (by rfl) (by rfl) ?_; apply Exists.intro; refine ⟨fun wc hC hD => ?_, ?_⟩; (focus (clear hD; obtain ⟨c0, c1⟩ := box2 (hC.blk _ List.mem_cons_self); obtain ⟨ad', c', e', -, y0, y1⟩ := HVJ.out _ hC.bel; simp only [Value.slice.injEq, true_and] at e'; obtain ⟨e1, e2⟩ := e'; cases e1; clear e2; clear hC; go_simp; first | done | with_reducible rfl)); try simp only [Act.put, List.setIfInBounds_toArray, List.set_cons_zero, List.set_cons_succ]))
              refine calm_end ?_
              intro w7 hL7 hF7
              clear hF7
              replace HL := Lib.hid hL7
              clear hL7
              go_wp2
              go_ret
              exact ⟨ret_bool HE.out.symm, HL.out.bel⟩
            · have d3 : decide ((0 : Int) ≤ q) = false := decide_eq_false h3
              have HE := Lib.hid (show HoleP X H k x from ⟨HII.out, fun j' hj' h' => by
                have e : j' = j := by have := HJ.out; omega
                subst e; rw [← HYY.out]; exact Classical.byContradiction (fun hc => h3 (HCL.out.2 hc)), (by have := HNP.out; omega)⟩)
              go_upto_region 6 with fail
              refine wp_region_calm_lg (told [(9, fun u => u = .int .i64 q)]) (by kernel_rfl) (by kernel_rfl) (told_mono _) HL.out ?_
              repeat (first
                | (refine calm_skip (by rfl) ?_; try simp only [Act.put, List.setIfInBounds_toArray, List.set_cons_zero, List.set_cons_succ])
                | (refine calm_plain (by rfl) (by rfl) ?_; apply Exists.intro; refine ⟨fun wc hC hD => ?_, ?_⟩; (focus (clear hD; obtain ⟨c0, c1⟩ := box2 (hC.blk _ List.mem_cons_self); obtain ⟨ad', c', e', -, y0, y1⟩ := HVJ.out _ hC.bel; simp only [Value.slice.injEq, true_and] at e'; obtain ⟨e1, e2⟩ := e'; cases e1; clear e2; clear hC; go_simp; first | done | with_reducible rfl)); try simp only [Act.put, List.setIfInBounds_toArray, List.set_cons_zero, List.set_cons_succ]))
              refine calm_call _ _ (by rfl) (by rfl) ?_ ?_
              focus
                apply Exists.intro
                apply Exists.intro
                refine ⟨fun wc hC hD => ?_, fun wc hC hD => ?_⟩
                focus (clear hD; obtain ⟨c0, c1⟩ := box2 (hC.blk _ List.mem_cons_self); obtain ⟨ad', c', e', -, y0, y1⟩ := HVJ.out _ hC.bel; simp only [Value.slice.injEq, true_and] at e'; obtain ⟨e1, e2⟩ := e'; cases e1; clear e2; clear hC; go_simp; first | done | with_reducible exact ⟨rfl, rfl⟩)
                clear hD
                with_reducible refine (HLe.out _).mono ?_
                rintro e wx ⟨rfl, hb⟩
                exact ⟨_, rfl, hb, rfl, trivial⟩
              rintro _ rfl
              try simp only [Act.put, List.setIfInBounds_toArray, List.set_cons_zero, List.set_cons_succ]
              repeat (first
                | (refine calm_skip (by rfl) ?_; try simp only [Act.put, List.setIfInBounds_toArray, List.set_cons_zero, List.set_cons_succ])
                | (refine calm_plain (by rfl) (by rfl) ?_; apply Exists.intro; refine ⟨fun wc hC hD => ?_, ?_⟩; (focus (clear hD; obtain ⟨c0, c1⟩ := box2 (hC.blk _ List.mem_cons_self); obtain ⟨ad', c', e', -, y0, y1⟩ := HVJ.out _ hC.bel; simp only [Value.slice.injEq, true_and] at e'; obtain ⟨e1, e2⟩ := e'; cases e1; clear e2; clear hC; go_simp; first | done | with_reducible rfl)); try simp only [Act.put, List.setIfInBounds_toArray, List.set_cons_zero, List.set_cons_succ]))
              refine calm_end ?_
              intro w7 hL7 hF7
              clear hF7
              replace HL := Lib.hid hL7
              clear hL7
              go_wp2
              go_roundw
              case rel => exact ⟨k + 1, by omega, by go_num, holesTo_step HN.out hlt (by rw [← HXX.out]; exact HE.out), HL.out.bel⟩
              case measure => simp [intOf]; omega
    · have hks : k = H.length := by omega
      subst hks
      have HE := Lib.hid ((holesB_iff X H).2 HN.out)
      go_wp2
      go_ret
      exact ⟨ret_bool HE.out.symm, HB.out⟩

set_option maxRecDepth 100000 in
set_option maxHeartbeats 4000000 in
theorem impl_doc (v : Value) (d : Dc) (w : World) (hv : DcAt w w.heap.size v d) (h1 : d.X.length ≤ 140737488351232) (h2 : d.P.length ≤ 140737488351232) (h3 : d.H.length ≤ 140737488351232) (ht : (∀ x ∈ d.X, x.t.size ≤ maxLen) ∧ ∀ x ∈ d.P, x.t.size ≤ maxLen) :
    Calls Try.prog 41 #[v] w (Tell (docB d) w) := by
  obtain ⟨vx, vp, vh, rfl, hx, hp, hh⟩ := hv
  have HI := Lib.hid (fun W (hb : Below w.heap.size w W) => impl_items vx d.X W ((hx.below hb).more hb.size) h1 ht.1)
  have HP := Lib.hid (fun W (hb : Below w.heap.size w W) => impl_pend vp vx d.P d.X W ((hp.below hb).more hb.size) ((hx.below hb).more hb.size) h2 h1 ht.2)
  have HH := Lib.hid (fun W (hb : Below w.heap.size w W) => impl_holes vh vx d.H d.X W ((hh.below hb).more hb.size) ((hx.below hb).more hb.size) h3 h1)
  clear ht
  obtain ⟨A1, k1, rfl⟩ := hx.form
  obtain ⟨A2, k2, rfl⟩ := hp.form
  obtain ⟨A3, k3, rfl⟩ := hh.form
  clear hx hp hh
  have HNB := Lib.hid (fun h : ¬ DocP d => docB_no h)
  by_cases g1 : 60 < d.X.length
  · have g1' : (60 : Int) < (d.X.length : Int) := by omega
    have HE := Lib.hid (HNB.out (fun h => by have := h.1.1; omega))
    go_enter Try.func41, Try.ntmps41
    go_wp2
    go_ret
    exact ⟨ret_bool HE.out.symm, by (repeat (first | with_reducible refine bset ?_ _ (by omega) | with_reducible refine ball ?_ _ (by first | exact Nat.le_refl _ | (simp only [World.size_alloc, World.size_setCell]; omega)) | with_reducible exact Below.refl _ _ | with_reducible refine Below.drew ?_))⟩
  · have g1' : ¬ (60 : Int) < (d.X.length : Int) := by omega
    by_cases g2 : 20 < d.P.length
    · have g2' : (20 : Int) < (d.P.length : Int) := by omega
      have HE := Lib.hid (HNB.out (fun h => by have := h.2.1; omega))
      go_enter Try.func41, Try.ntmps41
      go_wp2
      go_ret
      exact ⟨ret_bool HE.out.symm, by (repeat (first | with_reducible refine bset ?_ _ (by omega) | with_reducible refine ball ?_ _ (by first | exact Nat.le_refl _ | (simp only [World.size_alloc, World.size_setCell]; omega)) | with_reducible exact Below.refl _ _ | with_reducible refine Below.drew ?_))⟩
    · have g2' : ¬ (20 : Int) < (d.P.length : Int) := by omega
      by_cases g3 : 20 < d.H.length
      · have g3' : (20 : Int) < (d.H.length : Int) := by omega
        have HE := Lib.hid (HNB.out (fun h => by have := h.2.2.1; omega))
        go_enter Try.func41, Try.ntmps41
        go_wp2
        go_ret
        exact ⟨ret_bool HE.out.symm, by (repeat (first | with_reducible refine bset ?_ _ (by omega) | with_reducible refine ball ?_ _ (by first | exact Nat.le_refl _ | (simp only [World.size_alloc, World.size_setCell]; omega)) | with_reducible exact Below.refl _ _ | with_reducible refine Below.drew ?_))⟩
      · have g3' : ¬ (20 : Int) < (d.H.length : Int) := by omega
        have HD := Lib.hid (show docB d = (standsB d.X && waitsB d.X d.P && holesB d.X d.H) by
          rw [Bool.eq_iff_iff, docB_iff]
          simp only [Bool.and_eq_true, standsB_iff, waitsB_iff, holesB_iff]
          unfold DocP ItemsP
          exact ⟨fun ⟨⟨_, a⟩, _, _, b, c⟩ => ⟨⟨a, b⟩, c⟩, fun ⟨⟨a, b⟩, c⟩ => ⟨⟨by omega, a⟩, by omega, by omega, b, c⟩⟩)
        go_enter Try.func41, Try.ntmps41
        go_wp2_with fail
        refine (HI.out _ (by (repeat (first | with_reducible refine bset ?_ _ (by omega) | with_reducible refine ball ?_ _ (by first | exact Nat.le_refl _ | (simp only [World.size_alloc, World.size_setCell]; omega)) | with_reducible exact Below.refl _ _ | with_reducible refine Below.drew ?_)))).mono ?_
        rintro e w1 ⟨rfl, hb1⟩
        have HL := Lib.hid (((Lg.start w).alloc _).lift hb1)
        obtain ⟨x0, x1, x2⟩ := box3 (HL.out.blk _ List.mem_cons_self)
        clear hb1
        go_wp2_with (first
          | (go_at_call 98; refine (HP.out _ HL.out.bel).mono ?_; rintro e w2 ⟨rfl, hb2⟩; have HL2 := Lib.hid (HL.out.lift hb2); clear hb2; clear HL; have HL := HL2; clear HL2; obtain ⟨y0, y1, y2⟩ := box3 (HL.out.blk _ List.mem_cons_self))
          | (go_at_call 99; refine (HH.out _ HL.out.bel).mono ?_; rintro e w3 ⟨rfl, hb3⟩; have HL2 := Lib.hid (HL.out.lift hb3); clear hb3; clear HL; have HL := HL2; clear HL2))
        all_goals
          go_ret
          exact ⟨ret_bool (by rw [HD.out]; simp_all), HL.out.bel⟩

end Go.Proofs.Ytghiipoeedfkhaa
