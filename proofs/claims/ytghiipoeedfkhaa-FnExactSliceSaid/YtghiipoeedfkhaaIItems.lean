/-
  Contract of the program's itemsRight.
-/
import Derived.Test.YtghiipoeedfkhaaIRdy
namespace Go.Proofs.Ytghiipoeedfkhaa
set_option linter.unusedSimpArgs false
set_option linter.unusedVariables false
open Go.ChangeShapes Go.WideShapes Go.ChangeAt Go.RowKit

open Classical in
noncomputable def standsB (l : List Im) : Bool := decide (ItemsTo l l.length)
open Classical in
theorem standsB_iff (l : List Im) : standsB l = true ↔ ItemsTo l l.length := decide_eq_true_iff
theorem standsB_no {l : List Im} (h : ¬ ItemsTo l l.length) : standsB l = false := by
  cases e : standsB l with
  | false => rfl
  | true => exact absurd ((standsB_iff l).1 e) h

set_option maxRecDepth 100000 in
set_option maxHeartbeats 8000000 in
theorem impl_items (v : Value) (l : List Im) (w : World) (hv : Sl w w.heap.size 8 encM v l) (hl : l.length ≤ 140737488351232) (hs : ∀ x ∈ l, x.t.size ≤ maxLen) :
    Calls Try.prog 97 #[v] w (Tell (standsB l) w) := by
  have HA := Lib.hid (fun n W (hb : Below w.heap.size w W) => impl_span v l n W ((hv.below hb).more hb.size) hl)
  have HX := Lib.hid (fun n W (hb : Below w.heap.size w W) => impl_count v l n W ((hv.below hb).more hb.size) hl)
  have HT := Lib.hid (fun n W (hb : Below w.heap.size w W) => impl_place v l n W ((hv.below hb).more hb.size) hl)
  have HS := Lib.hid hs; clear hs
  obtain ⟨A, c, rfl⟩ := hv.form
  have HV := Lib.hid hv; clear hv
  go_enter Try.func97, Try.ntmps97
  go_wp2
  go_loopw [9] (fun i wr => ∃ k : Nat, k ≤ l.length ∧ i = .int .i64 k ∧ ItemsTo l k ∧ Below w.heap.size w wr) (fun i _ => l.length - (intOf i).toNat)
  case atStart => exact ⟨0, Nat.zero_le _, rfl, itemsTo_zero l, Below.refl _ _⟩
  case round =>
    obtain ⟨k, hk, rfl, hn, hb⟩ := hrel
    have HN := Lib.hid hn; have HB := Lib.hid hb; clear hn hb
    by_cases hlt : k < l.length
    · obtain ⟨ad, c', e', _, c0, c1, c2, c3, c4, c5, c6, c7⟩ := (HV.out.below HB.out).item k hlt
      simp only [Value.slice.injEq, true_and] at e'
      obtain ⟨rfl, rfl⟩ := e'
      have hxm := HS.out _ (getElem_mem' l k hlt)
      obtain ⟨x, hx⟩ : ∃ x, x = l[k] := ⟨_, rfl⟩
      rw [← hx] at c0 c1 c2 c3 c4 c5 c6 c7 hxm
      have HXX := Lib.hid hx; clear hx
      have HI := Lib.hid (fun W => impl_item x W hxm)
      clear hxm
      have HP := Lib.hid (show StandP l k x ↔ (ItemP x ∧ x.i.k < nextOf l x.i.c ∧ atOf l x.i = k ∧ leftOf l x.l < k ∧ ¬ (leftOf l x.l < 0 ∧ ¬ x.l = no) ∧ k < rightOf l x.r) from Iff.rfl)
      have ha0 := left_lo l x.l; have ha1 := left_hi l x.l; have hr0 := right_lo l x.r; have hr1 := right_hi l x.r
      have hp0 := at_lo l x.i; have hp1 := at_hi l x.i
      replace HA := Lib.hid (HA.out x); replace HX := Lib.hid (HX.out x.i.c); replace HT := Lib.hid (HT.out x.i)
      have HOK := Lib.hid (spanOk_iff l x); have HVY := Lib.hid (spanV_yes (l := l) (x := x)); have HVN := Lib.hid (spanV_no (l := l) (x := x))
      obtain ⟨a, ha⟩ : ∃ a, a = leftOf l x.l := ⟨_, rfl⟩
      obtain ⟨b, hb⟩ : ∃ b, b = rightOf l x.r := ⟨_, rfl⟩
      obtain ⟨m, hm⟩ : ∃ m, m = nextOf l x.i.c := ⟨_, rfl⟩
      obtain ⟨p, hp⟩ : ∃ p, p = atOf l x.i := ⟨_, rfl⟩
      rw [← ha, ← hb, ← hm, ← hp] at HP
      rw [← ha, ← hb] at HOK HVY HVN
      rw [← ha] at ha0 ha1; rw [← hb] at hr0 hr1; rw [← hm] at HX; rw [← hp] at HT hp0 hp1
      clear ha hb hm hp
      have HNS := Lib.hid (fun h : ¬ StandP l k x => standsB_no (l := l) (fun hh => h (by rw [HXX.out]; exact hh k hlt hlt)))
      have HL := Lib.hid ((Lg.of HB.out).alloc (.cells #[.int .i64 x.i.c, .int .i64 x.i.k, .int .i64 x.l.c, .int .i64 x.l.k, .int .i64 x.r.c, .int .i64 x.r.k, .string x.t, .bool x.g] 83))
      cases hi : itemB x with
      | false =>
        replace HI := Lib.hid (fun W => (HI.out W).mono fun _ _ h => Tell.to h hi)
        have HE := Lib.hid (HNS.out (by rw [HP.out]; exact fun h => by rw [(itemB_iff x).2 h.1] at hi; cases hi))
        clear hi
        go_upto_region 4 with fail
        refine wp_region_calm_lg (told [(1, fun u => u = .bool false)]) (by kernel_rfl) (by kernel_rfl) (told_mono _) HL.out ?_
        repeat (first
          | (refine calm_skip (by rfl) ?_; try simp only [Act.put, List.setIfInBounds_toArray, List.set_cons_zero, List.set_cons_succ])
          | (refine calm_plain (by rfl) (by rfl) ?_; apply Exists.intro; refine ⟨fun wc hC hD => ?_, ?_⟩; (focus (clear hD; obtain ⟨c0, c1, c2, c3, c4, c5, c6, c7⟩ := box8 (hC.blk _ List.mem_cons_self); clear hC; go_simp; first | done | with_reducible rfl)); try simp only [Act.put, List.setIfInBounds_toArray, List.set_cons_zero, List.set_cons_succ]))
        refine calm_call _ _ (by rfl) (by rfl) ?_ ?_
        focus
          apply Exists.intro
          apply Exists.intro
          refine ⟨fun wc hC hD => ?_, fun wc hC hD => ?_⟩
          focus (clear hD; obtain ⟨c0, c1, c2, c3, c4, c5, c6, c7⟩ := box8 (hC.blk _ List.mem_cons_self); clear hC; go_simp; first | done | with_reducible exact ⟨rfl, rfl⟩)
          clear hD
          with_reducible refine (HI.out _).mono ?_
          rintro e wx ⟨rfl, hb⟩
          exact ⟨_, rfl, hb, rfl, trivial⟩
        rintro _ rfl
        try simp only [Act.put, List.setIfInBounds_toArray, List.set_cons_zero, List.set_cons_succ]
        repeat (first
          | (refine calm_skip (by rfl) ?_; try simp only [Act.put, List.setIfInBounds_toArray, List.set_cons_zero, List.set_cons_succ])
          | (refine calm_plain (by rfl) (by rfl) ?_; apply Exists.intro; refine ⟨fun wc hC hD => ?_, ?_⟩; (focus (clear hD; obtain ⟨c0, c1, c2, c3, c4, c5, c6, c7⟩ := box8 (hC.blk _ List.mem_cons_self); clear hC; go_simp; first | done | with_reducible rfl)); try simp only [Act.put, List.setIfInBounds_toArray, List.set_cons_zero, List.set_cons_succ]))
        refine calm_end ?_
        intro w7 hL7 hF7
        clear hF7
        replace HL := Lib.hid hL7
        clear hL7
        go_wp2
        go_ret
        exact ⟨ret_bool HE.out.symm, HL.out.bel⟩
      | true =>
        replace HI := Lib.hid (fun W => (HI.out W).mono fun _ _ h => Tell.to h hi)
        have HII := Lib.hid ((itemB_iff x).1 hi); clear hi
        cases h2 : (p != (k : Int)) with
        | true =>
          have HE := Lib.hid (HNS.out (by rw [HP.out]; exact fun h => by simp [h.2.2.1] at h2))
          go_upto_region 4 with fail
          refine wp_region_calm_lg (told [(1, fun u => u = .bool true), (7, fun u => u = .int .i64 p)]) (by kernel_rfl) (by kernel_rfl) (told_mono _) HL.out ?_
          repeat (first
            | (refine calm_skip (by rfl) ?_; try simp only [Act.put, List.setIfInBounds_toArray, List.set_cons_zero, List.set_cons_succ])
            | (refine calm_plain (by rfl) (by rfl) ?_; apply Exists.intro; refine ⟨fun wc hC hD => ?_, ?_⟩; (focus (clear hD; obtain ⟨c0, c1, c2, c3, c4, c5, c6, c7⟩ := box8 (hC.blk _ List.mem_cons_self); clear hC; go_simp; first | done | with_reducible rfl)); try simp only [Act.put, List.setIfInBounds_toArray, List.set_cons_zero, List.set_cons_succ]))
          refine calm_call _ _ (by rfl) (by rfl) ?_ ?_
          focus
            apply Exists.intro
            apply Exists.intro
            refine ⟨fun wc hC hD => ?_, fun wc hC hD => ?_⟩
            focus (clear hD; obtain ⟨c0, c1, c2, c3, c4, c5, c6, c7⟩ := box8 (hC.blk _ List.mem_cons_self); clear hC; go_simp; first | done | with_reducible exact ⟨rfl, rfl⟩)
            clear hD
            with_reducible refine (HI.out _).mono ?_
            rintro e wx ⟨rfl, hb⟩
            exact ⟨_, rfl, hb, rfl, trivial⟩
          rintro _ rfl
          try simp only [Act.put, List.setIfInBounds_toArray, List.set_cons_zero, List.set_cons_succ]
          repeat (first
            | (refine calm_skip (by rfl) ?_; try simp only [Act.put, List.setIfInBounds_toArray, List.set_cons_zero, List.set_cons_succ])
            | (refine calm_plain (by rfl) (by rfl) ?_; apply Exists.intro; refine ⟨fun wc hC hD => ?_, ?_⟩; (focus (clear hD; obtain ⟨c0, c1, c2, c3, c4, c5, c6, c7⟩ := box8 (hC.blk _ List.mem_cons_self); clear hC; go_simp; first | done | with_reducible rfl)); try simp only [Act.put, List.setIfInBounds_toArray, List.set_cons_zero, List.set_cons_succ]))
          refine calm_call _ _ (by rfl) (by rfl) ?_ ?_
          focus
            apply Exists.intro
            apply Exists.intro
            refine ⟨fun wc hC hD => ?_, fun wc hC hD => ?_⟩
            focus (clear hD; obtain ⟨c0, c1, c2, c3, c4, c5, c6, c7⟩ := box8 (hC.blk _ List.mem_cons_self); clear hC; go_simp; first | done | with_reducible exact ⟨rfl, rfl⟩)
            clear hD
            with_reducible refine (HT.out _ hC.bel).mono ?_
            rintro e wx ⟨rfl, hb⟩
            exact ⟨_, rfl, hb, rfl, trivial⟩
          rintro _ rfl
          try simp only [Act.put, List.setIfInBounds_toArray, List.set_cons_zero, List.set_cons_succ]
          repeat (first
            | (refine calm_skip (by rfl) ?_; try simp only [Act.put, List.setIfInBounds_toArray, List.set_cons_zero, List.set_cons_succ])
            | (refine calm_plain (by rfl) (by rfl) ?_; apply Exists.intro; refine ⟨fun wc hC hD => ?_, ?_⟩; (focus (clear hD; obtain ⟨c0, c1, c2, c3, c4, c5, c6, c7⟩ := box8 (hC.blk _ List.mem_cons_self); clear hC; go_simp; first | done | with_reducible rfl)); try simp only [Act.put, List.setIfInBounds_toArray, List.set_cons_zero, List.set_cons_succ]))
          refine calm_end ?_
          intro w7 hL7 hF7
          clear hF7
          replace HL := Lib.hid hL7
          clear hL7
          go_wp2
          go_ret
          exact ⟨ret_bool HE.out.symm, HL.out.bel⟩
        | false =>
          have HPP := Lib.hid (show p = (k : Int) by simpa using h2)
          by_cases h1 : (m : Int) ≤ x.i.k
          · have d1 : decide ((m : Int) ≤ x.i.k) = true := decide_eq_true h1
            have HE := Lib.hid (HNS.out (by rw [HP.out]; exact fun h => by have := h.2.1; omega))
            go_upto_region 4 with fail
            refine wp_region_calm_lg (told [(1, fun u => u = .bool true), (7, fun u => u = .int .i64 p), (19, fun u => u = .int .i64 (m : Int))]) (by kernel_rfl) (by kernel_rfl) (told_mono _) HL.out ?_
            repeat (first
              | (refine calm_skip (by rfl) ?_; try simp only [Act.put, List.setIfInBounds_toArray, List.set_cons_zero, List.set_cons_succ])
              | (refine calm_plain (by rfl) (by rfl) ?_; apply Exists.intro; refine ⟨fun wc hC hD => ?_, ?_⟩; (focus (clear hD; obtain ⟨c0, c1, c2, c3, c4, c5, c6, c7⟩ := box8 (hC.blk _ List.mem_cons_self); clear hC; go_simp; first | done | with_reducible rfl)); try simp only [Act.put, List.setIfInBounds_toArray, List.set_cons_zero, List.set_cons_succ]))
            refine calm_call _ _ (by rfl) (by rfl) ?_ ?_
            focus
              apply Exists.intro
              apply Exists.intro
              refine ⟨fun wc hC hD => ?_, fun wc hC hD => ?_⟩
              focus (clear hD; obtain ⟨c0, c1, c2, c3, c4, c5, c6, c7⟩ := box8 (hC.blk _ List.mem_cons_self); clear hC; go_simp; first | done | with_reducible exact ⟨rfl, rfl⟩)
              clear hD
              with_reducible refine (HI.out _).mono ?_
              rintro e wx ⟨rfl, hb⟩
              exact ⟨_, rfl, hb, rfl, trivial⟩
            rintro _ rfl
            try simp only [Act.put, List.setIfInBounds_toArray, List.set_cons_zero, List.set_cons_succ]
            repeat (first
              | (refine calm_skip (by rfl) ?_; try simp only [Act.put, List.setIfInBounds_toArray, List.set_cons_zero, List.set_cons_succ])
              | (refine calm_plain (by rfl) (by rfl) ?_; apply Exists.intro; refine ⟨fun wc hC hD => ?_, ?_⟩; (focus (clear hD; obtain ⟨c0, c1, c2, c3, c4, c5, c6, c7⟩ := box8 (hC.blk _ List.mem_cons_self); clear hC; go_simp; first | done | with_reducible rfl)); try simp only [Act.put, List.setIfInBounds_toArray, List.set_cons_zero, List.set_cons_succ]))
            refine calm_call _ _ (by rfl) (by rfl) ?_ ?_
            focus
              apply Exists.intro
              apply Exists.intro
              refine ⟨fun wc hC hD => ?_, fun wc hC hD => ?_⟩
              focus (clear hD; obtain ⟨c0, c1, c2, c3, c4, c5, c6, c7⟩ := box8 (hC.blk _ List.mem_cons_self); clear hC; go_simp; first | done | with_reducible exact ⟨rfl, rfl⟩)
              clear hD
              with_reducible refine (HT.out _ hC.bel).mono ?_
              rintro e wx ⟨rfl, hb⟩
              exact ⟨_, rfl, hb, rfl, trivial⟩
            rintro _ rfl
            try simp only [Act.put, List.setIfInBounds_toArray, List.set_cons_zero, List.set_cons_succ]
            repeat (first
              | (refine calm_skip (by rfl) ?_; try simp only [Act.put, List.setIfInBounds_toArray, List.set_cons_zero, List.set_cons_succ])
              | (refine calm_plain (by rfl) (by rfl) ?_; apply Exists.intro; refine ⟨fun wc hC hD => ?_, ?_⟩; (focus (clear hD; obtain ⟨c0, c1, c2, c3, c4, c5, c6, c7⟩ := box8 (hC.blk _ List.mem_cons_self); clear hC; go_simp; first | done | with_reducible rfl)); try simp only [Act.put, List.setIfInBounds_toArray, List.set_cons_zero, List.set_cons_succ]))
            refine calm_call _ _ (by rfl) (by rfl) ?_ ?_
            focus
              apply Exists.intro
              apply Exists.intro
              refine ⟨fun wc hC hD => ?_, fun wc hC hD => ?_⟩
              focus (clear hD; obtain ⟨c0, c1, c2, c3, c4, c5, c6, c7⟩ := box8 (hC.blk _ List.mem_cons_self); clear hC; go_simp; first | done | with_reducible exact ⟨rfl, rfl⟩)
              clear hD
              with_reducible refine (HX.out _ hC.bel).mono ?_
              rintro e wx ⟨rfl, hb⟩
              exact ⟨_, rfl, hb, rfl, trivial⟩
            rintro _ rfl
            try simp only [Act.put, List.setIfInBounds_toArray, List.set_cons_zero, List.set_cons_succ]
            repeat (first
              | (refine calm_skip (by rfl) ?_; try simp only [Act.put, List.setIfInBounds_toArray, List.set_cons_zero, List.set_cons_succ])
              | (refine calm_plain (by rfl) (by rfl) ?_; apply Exists.intro; refine ⟨fun wc hC hD => ?_, ?_⟩; (focus (clear hD; obtain ⟨c0, c1, c2, c3, c4, c5, c6, c7⟩ := box8 (hC.blk _ List.mem_cons_self); clear hC; go_simp; first | done | with_reducible rfl)); try simp only [Act.put, List.setIfInBounds_toArray, List.set_cons_zero, List.set_cons_succ]))
            refine calm_end ?_
            intro w7 hL7 hF7
            clear hF7
            replace HL := Lib.hid hL7
            clear hL7
            go_wp2
            go_ret
            exact ⟨ret_bool HE.out.symm, HL.out.bel⟩
          · have d1 : decide ((m : Int) ≤ x.i.k) = false := decide_eq_false h1
            cases hok : spanOk l x with
            | false =>
              have hno : ¬ (¬ (a < 0 ∧ ¬ x.l = no) ∧ ¬ b < 0) := fun h => by have := HOK.out.2 h; rw [hok] at this; cases this
              have HE := Lib.hid (HNS.out (by rw [HP.out]; exact fun h => hno ⟨h.2.2.2.2.1, by have := h.2.2.2.2.2; omega⟩))
              have hvn := HVN.out hno
              rw [hvn] at HA
              clear hno hvn hok
              go_upto_region 4 with fail
              refine wp_region_calm_lg (told [(1, fun u => u = .bool true), (7, fun u => u = .int .i64 p), (19, fun u => u = .int .i64 (m : Int))]) (by kernel_rfl) (by kernel_rfl) (told_mono _) HL.out ?_
              repeat (first
                | (refine calm_skip (by rfl) ?_; try simp only [Act.put, List.setIfInBounds_toArray, List.set_cons_zero, List.set_cons_succ])
                | (refine calm_plain (by rfl) (by rfl) ?_; apply Exists.intro; refine ⟨fun wc hC hD => ?_, ?_⟩; (focus (clear hD; obtain ⟨c0, c1, c2, c3, c4, c5, c6, c7⟩ := box8 (hC.blk _ List.mem_cons_self); clear hC; go_simp; first | done | with_reducible rfl)); try simp only [Act.put, List.setIfInBounds_toArray, List.set_cons_zero, List.set_cons_succ]))
              refine calm_call _ _ (by rfl) (by rfl) ?_ ?_
              focus
                apply Exists.intro
                apply Exists.intro
                refine ⟨fun wc hC hD => ?_, fun wc hC hD => ?_⟩
                focus (clear hD; obtain ⟨c0, c1, c2, c3, c4, c5, c6, c7⟩ := box8 (hC.blk _ List.mem_cons_self); clear hC; go_simp; first | done | with_reducible exact ⟨rfl, rfl⟩)
                clear hD
                with_reducible refine (HI.out _).mono ?_
                rintro e wx ⟨rfl, hb⟩
                exact ⟨_, rfl, hb, rfl, trivial⟩
              rintro _ rfl
              try simp only [Act.put, List.setIfInBounds_toArray, List.set_cons_zero, List.set_cons_succ]
              repeat (first
                | (refine calm_skip (by rfl) ?_; try simp only [Act.put, List.setIfInBounds_toArray, List.set_cons_zero, List.set_cons_succ])
                | (refine calm_plain (by rfl) (by rfl) ?_; apply Exists.intro; refine ⟨fun wc hC hD => ?_, ?_⟩; (focus (clear hD; obtain ⟨c0, c1, c2, c3, c4, c5, c6, c7⟩ := box8 (hC.blk _ List.mem_cons_self); clear hC; go_simp; first | done | with_reducible rfl)); try simp only [Act.put, List.setIfInBounds_toArray, List.set_cons_zero, List.set_cons_succ]))
              refine calm_call _ _ (by rfl) (by rfl) ?_ ?_
              focus
                apply Exists.intro
                apply Exists.intro
                refine ⟨fun wc hC hD => ?_, fun wc hC hD => ?_⟩
                focus (clear hD; obtain ⟨c0, c1, c2, c3, c4, c5, c6, c7⟩ := box8 (hC.blk _ List.mem_cons_self); clear hC; go_simp; first | done | with_reducible exact ⟨rfl, rfl⟩)
                clear hD
                with_reducible refine (HT.out _ hC.bel).mono ?_
                rintro e wx ⟨rfl, hb⟩
                exact ⟨_, rfl, hb, rfl, trivial⟩
              rintro _ rfl
              try simp only [Act.put, List.setIfInBounds_toArray, List.set_cons_zero, List.set_cons_succ]
              repeat (first
                | (refine calm_skip (by rfl) ?_; try simp only [Act.put, List.setIfInBounds_toArray, List.set_cons_zero, List.set_cons_succ])
                | (refine calm_plain (by rfl) (by rfl) ?_; apply Exists.intro; refine ⟨fun wc hC hD => ?_, ?_⟩; (focus (clear hD; obtain ⟨c0, c1, c2, c3, c4, c5, c6, c7⟩ := box8 (hC.blk _ List.mem_cons_self); clear hC; go_simp; first | done | with_reducible rfl)); try simp only [Act.put, List.setIfInBounds_toArray, List.set_cons_zero, List.set_cons_succ]))
              refine calm_call _ _ (by rfl) (by rfl) ?_ ?_
              focus
                apply Exists.intro
                apply Exists.intro
                refine ⟨fun wc hC hD => ?_, fun wc hC hD => ?_⟩
                focus (clear hD; obtain ⟨c0, c1, c2, c3, c4, c5, c6, c7⟩ := box8 (hC.blk _ List.mem_cons_self); clear hC; go_simp; first | done | with_reducible exact ⟨rfl, rfl⟩)
                clear hD
                with_reducible refine (HX.out _ hC.bel).mono ?_
                rintro e wx ⟨rfl, hb⟩
                exact ⟨_, rfl, hb, rfl, trivial⟩
              rintro _ rfl
              try simp only [Act.put, List.setIfInBounds_toArray, List.set_cons_zero, List.set_cons_succ]
              repeat (first
                | (refine calm_skip (by rfl) ?_; try simp only [Act.put, List.setIfInBounds_toArray, List.set_cons_zero, List.set_cons_succ])
                | (refine calm_plain (by rfl) (by rfl) ?_; apply Exists.intro; refine ⟨fun wc hC hD => ?_, ?_⟩; (focus (clear hD; obtain ⟨c0, c1, c2, c3, c4, c5, c6, c7⟩ := box8 (hC.blk _ List.mem_cons_self); clear hC; go_simp; first | done | with_reducible rfl)); try simp only [Act.put, List.setIfInBounds_toArray, List.set_cons_zero, List.set_cons_succ]))
              refine calm_end ?_
              intro w7 hL7 hF7
              clear hF7
              replace HL := Lib.hid hL7
              clear hL7
              obtain ⟨c0, c1, c2, c3, c4, c5, c6, c7⟩ := box8 (HL.out.blk _ List.mem_cons_self)
              go_wp2_with fail
              refine (HA.out _ HL.out.bel).mono ?_
              rintro e w8 ⟨rfl, hb8⟩
              replace HL := Lib.hid (HL.out.lift hb8)
              clear hb8 c0 c1 c2 c3 c4 c5 c6 c7
              go_wp2
              go_ret
              exact ⟨ret_bool HE.out.symm, ball HL.out.bel _ HL.out.bel.size⟩
            | true =>
              have hy := HOK.out.1 hok; clear hok
              have hvy := HVY.out hy
              rw [hvy] at HA
              have HYY := Lib.hid hy; clear hy hvy
              by_cases h3 : (k : Int) ≤ a
              · have HE := Lib.hid (HNS.out (by rw [HP.out]; exact fun h => by have := h.2.2.2.1; omega))
                go_upto_region 4 with fail
                refine wp_region_calm_lg (told [(1, fun u => u = .bool true), (7, fun u => u = .int .i64 p), (19, fun u => u = .int .i64 (m : Int))]) (by kernel_rfl) (by kernel_rfl) (told_mono _) HL.out ?_
                repeat (first
                  | (refine calm_skip (by rfl) ?_; try simp only [Act.put, List.setIfInBounds_toArray, List.set_cons_zero, List.set_cons_succ])
                  | (refine calm_plain (by rfl) (by rfl) ?_; apply Exists.intro; refine ⟨fun wc hC hD => ?_, ?_⟩; (focus (clear hD; obtain ⟨c0, c1, c2, c3, c4, c5, c6, c7⟩ := box8 (hC.blk _ List.mem_cons_self); clear hC; go_simp; first | done | with_reducible rfl)); try simp only [Act.put, List.setIfInBounds_toArray, List.set_cons_zero, List.set_cons_succ]))
                refine calm_call _ _ (by rfl) (by rfl) ?_ ?_
                focus
                  apply Exists.intro
                  apply Exists.intro
                  refine ⟨fun wc hC hD => ?_, fun wc hC hD => ?_⟩
                  focus (clear hD; obtain ⟨c0, c1, c2, c3, c4, c5, c6, c7⟩ := box8 (hC.blk _ List.mem_cons_self); clear hC; go_simp; first | done | with_reducible exact ⟨rfl, rfl⟩)
                  clear hD
                  with_reducible refine (HI.out _).mono ?_
                  rintro e wx ⟨rfl, hb⟩
                  exact ⟨_, rfl, hb, rfl, trivial⟩
                rintro _ rfl
                try simp only [Act.put, List.setIfInBounds_toArray, List.set_cons_zero, List.set_cons_succ]
                repeat (first
                  | (refine calm_skip (by rfl) ?_; try simp only [Act.put, List.setIfInBounds_toArray, List.set_cons_zero, List.set_cons_succ])
                  | (refine calm_plain (by rfl) (by rfl) ?_; apply Exists.intro; refine ⟨fun wc hC hD => ?_, ?_⟩; (focus (clear hD; obtain ⟨c0, c1, c2, c3, c4, c5, c6, c7⟩ := box8 (hC.blk _ List.mem_cons_self); clear hC; go_simp; first | done | with_reducible rfl)); try simp only [Act.put, List.setIfInBounds_toArray, List.set_cons_zero, List.set_cons_succ]))
                refine calm_call _ _ (by rfl) (by rfl) ?_ ?_
                focus
                  apply Exists.intro
                  apply Exists.intro
                  refine ⟨fun wc hC hD => ?_, fun wc hC hD => ?_⟩
                  focus (clear hD; obtain ⟨c0, c1, c2, c3, c4, c5, c6, c7⟩ := box8 (hC.blk _ List.mem_cons_self); clear hC; go_simp; first | done | with_reducible exact ⟨rfl, rfl⟩)
                  clear hD
                  with_reducible refine (HT.out _ hC.bel).mono ?_
                  rintro e wx ⟨rfl, hb⟩
                  exact ⟨_, rfl, hb, rfl, trivial⟩
                rintro _ rfl
                try simp only [Act.put, List.setIfInBounds_toArray, List.set_cons_zero, List.set_cons_succ]
                repeat (first
                  | (refine calm_skip (by rfl) ?_; try simp only [Act.put, List.setIfInBounds_toArray, List.set_cons_zero, List.set_cons_succ])
                  | (refine calm_plain (by rfl) (by rfl) ?_; apply Exists.intro; refine ⟨fun wc hC hD => ?_, ?_⟩; (focus (clear hD; obtain ⟨c0, c1, c2, c3, c4, c5, c6, c7⟩ := box8 (hC.blk _ List.mem_cons_self); clear hC; go_simp; first | done | with_reducible rfl)); try simp only [Act.put, List.setIfInBounds_toArray, List.set_cons_zero, List.set_cons_succ]))
                refine calm_call _ _ (by rfl) (by rfl) ?_ ?_
                focus
                  apply Exists.intro
                  apply Exists.intro
                  refine ⟨fun wc hC hD => ?_, fun wc hC hD => ?_⟩
                  focus (clear hD; obtain ⟨c0, c1, c2, c3, c4, c5, c6, c7⟩ := box8 (hC.blk _ List.mem_cons_self); clear hC; go_simp; first | done | with_reducible exact ⟨rfl, rfl⟩)
                  clear hD
                  with_reducible refine (HX.out _ hC.bel).mono ?_
                  rintro e wx ⟨rfl, hb⟩
                  exact ⟨_, rfl, hb, rfl, trivial⟩
                rintro _ rfl
                try simp only [Act.put, List.setIfInBounds_toArray, List.set_cons_zero, List.set_cons_succ]
                repeat (first
                  | (refine calm_skip (by rfl) ?_; try simp only [Act.put, List.setIfInBounds_toArray, List.set_cons_zero, List.set_cons_succ])
                  | (refine calm_plain (by rfl) (by rfl) ?_; apply Exists.intro; refine ⟨fun wc hC hD => ?_, ?_⟩; (focus (clear hD; obtain ⟨c0, c1, c2, c3, c4, c5, c6, c7⟩ := box8 (hC.blk _ List.mem_cons_self); clear hC; go_simp; first | done | with_reducible rfl)); try simp only [Act.put, List.setIfInBounds_toArray, List.set_cons_zero, List.set_cons_succ]))
                refine calm_end ?_
                intro w7 hL7 hF7
                clear hF7
                replace HL := Lib.hid hL7
                clear hL7
                obtain ⟨c0, c1, c2, c3, c4, c5, c6, c7⟩ := box8 (HL.out.blk _ List.mem_cons_self)
                go_wp2_with fail
                refine (HA.out _ HL.out.bel).mono ?_
                rintro e w8 ⟨rfl, hb8⟩
                replace HL := Lib.hid (HL.out.lift hb8)
                clear hb8 c0 c1 c2 c3 c4 c5 c6 c7
                go_wp2
                go_ret
                exact ⟨ret_bool HE.out.symm, ball HL.out.bel _ HL.out.bel.size⟩
              · by_cases h5 : b ≤ (k : Int)
                · have HE := Lib.hid (HNS.out (by rw [HP.out]; exact fun h => by have := h.2.2.2.2.2; omega))
                  go_upto_region 4 with fail
                  refine wp_region_calm_lg (told [(1, fun u => u = .bool true), (7, fun u => u = .int .i64 p), (19, fun u => u = .int .i64 (m : Int))]) (by kernel_rfl) (by kernel_rfl) (told_mono _) HL.out ?_
                  repeat (first
                    | (refine calm_skip (by rfl) ?_; try simp only [Act.put, List.setIfInBounds_toArray, List.set_cons_zero, List.set_cons_succ])
                    | (refine calm_plain (by rfl) (by rfl) ?_; apply Exists.intro; refine ⟨fun wc hC hD => ?_, ?_⟩; (focus (clear hD; obtain ⟨c0, c1, c2, c3, c4, c5, c6, c7⟩ := box8 (hC.blk _ List.mem_cons_self); clear hC; go_simp; first | done | with_reducible rfl)); try simp only [Act.put, List.setIfInBounds_toArray, List.set_cons_zero, List.set_cons_succ]))
                  refine calm_call _ _ (by rfl) (by rfl) ?_ ?_
                  focus
                    apply Exists.intro
                    apply Exists.intro
                    refine ⟨fun wc hC hD => ?_, fun wc hC hD => ?_⟩
                    focus (clear hD; obtain ⟨c0, c1, c2, c3, c4, c5, c6, c7⟩ := box8 (hC.blk _ List.mem_cons_self); clear hC; go_simp; first | done | with_reducible exact ⟨rfl, rfl⟩)
                    clear hD
                    with_reducible refine (HI.out _).mono ?_
                    rintro e wx ⟨rfl, hb⟩
                    exact ⟨_, rfl, hb, rfl, trivial⟩
                  rintro _ rfl
                  try simp only [Act.put, List.setIfInBounds_toArray, List.set_cons_zero, List.set_cons_succ]
                  repeat (first
                    | (refine calm_skip (by rfl) ?_; try simp only [Act.put, List.setIfInBounds_toArray, List.set_cons_zero, List.set_cons_succ])
                    | (refine calm_plain (by rfl) (by rfl) ?_; apply Exists.intro; refine ⟨fun wc hC hD => ?_, ?_⟩; (focus (clear hD; obtain ⟨c0, c1, c2, c3, c4, c5, c6, c7⟩ := box8 (hC.blk _ List.mem_cons_self); clear hC; go_simp; first | done | with_reducible rfl)); try simp only [Act.put, List.setIfInBounds_toArray, List.set_cons_zero, List.set_cons_succ]))
                  refine calm_call _ _ (by rfl) (by rfl) ?_ ?_
                  focus
                    apply Exists.intro
                    apply Exists.intro
                    refine ⟨fun wc hC hD => ?_, fun wc hC hD => ?_⟩
                    focus (clear hD; obtain ⟨c0, c1, c2, c3, c4, c5, c6, c7⟩ := box8 (hC.blk _ List.mem_cons_self); clear hC; go_simp; first | done | with_reducible exact ⟨rfl, rfl⟩)
                    clear hD
                    with_reducible refine (HT.out _ hC.bel).mono ?_
                    rintro e wx ⟨rfl, hb⟩
                    exact ⟨_, rfl, hb, rfl, trivial⟩
                  rintro _ rfl
                  try simp only [Act.put, List.setIfInBounds_toArray, List.set_cons_zero, List.set_cons_succ]
                  repeat (first
                    | (refine calm_skip (by rfl) ?_; try simp only [Act.put, List.setIfInBounds_toArray, List.set_cons_zero, List.set_cons_succ])
                    | (refine calm_plain (by rfl) (by rfl) ?_; apply Exists.intro; refine ⟨fun wc hC hD => ?_, ?_⟩; (focus (clear hD; obtain ⟨c0, c1, c2, c3, c4, c5, c6, c7⟩ := box8 (hC.blk _ List.mem_cons_self); clear hC; go_simp; first | done | with_reducible rfl)); try simp only [Act.put, List.setIfInBounds_toArray, List.set_cons_zero, List.set_cons_succ]))
                  refine calm_call _ _ (by rfl) (by rfl) ?_ ?_
                  focus
                    apply Exists.intro
                    apply Exists.intro
                    refine ⟨fun wc hC hD => ?_, fun wc hC hD => ?_⟩
                    focus (clear hD; obtain ⟨c0, c1, c2, c3, c4, c5, c6, c7⟩ := box8 (hC.blk _ List.mem_cons_self); clear hC; go_simp; first | done | with_reducible exact ⟨rfl, rfl⟩)
                    clear hD
                    with_reducible refine (HX.out _ hC.bel).mono ?_
                    rintro e wx ⟨rfl, hb⟩
                    exact ⟨_, rfl, hb, rfl, trivial⟩
                  rintro _ rfl
                  try simp only [Act.put, List.setIfInBounds_toArray, List.set_cons_zero, List.set_cons_succ]
                  repeat (first
                    | (refine calm_skip (by rfl) ?_; try simp only [Act.put, List.setIfInBounds_toArray, List.set_cons_zero, List.set_cons_succ])
                    | (refine calm_plain (by rfl) (by rfl) ?_; apply Exists.intro; refine ⟨fun wc hC hD => ?_, ?_⟩; (focus (clear hD; obtain ⟨c0, c1, c2, c3, c4, c5, c6, c7⟩ := box8 (hC.blk _ List.mem_cons_self); clear hC; go_simp; first | done | with_reducible rfl)); try simp only [Act.put, List.setIfInBounds_toArray, List.set_cons_zero, List.set_cons_succ]))
                  refine calm_end ?_
                  intro w7 hL7 hF7
                  clear hF7
                  replace HL := Lib.hid hL7
                  clear hL7
                  obtain ⟨c0, c1, c2, c3, c4, c5, c6, c7⟩ := box8 (HL.out.blk _ List.mem_cons_self)
                  go_wp2_with fail
                  refine (HA.out _ HL.out.bel).mono ?_
                  rintro e w8 ⟨rfl, hb8⟩
                  replace HL := Lib.hid (HL.out.lift hb8)
                  clear hb8 c0 c1 c2 c3 c4 c5 c6 c7
                  go_wp2
                  go_ret
                  exact ⟨ret_bool HE.out.symm, ball HL.out.bel _ HL.out.bel.size⟩
                · have HE := Lib.hid (show StandP l k x by rw [HP.out]; exact ⟨HII.out, by omega, HPP.out, by omega, HYY.out.1, by omega⟩)
                  go_upto_region 4 with fail
                  refine wp_region_calm_lg (told [(1, fun u => u = .bool true), (7, fun u => u = .int .i64 p), (19, fun u => u = .int .i64 (m : Int))]) (by kernel_rfl) (by kernel_rfl) (told_mono _) HL.out ?_
                  repeat (first
                    | (refine calm_skip (by rfl) ?_; try simp only [Act.put, List.setIfInBounds_toArray, List.set_cons_zero, List.set_cons_succ])
                    | (refine calm_plain (by rfl) (by rfl) ?_; apply Exists.intro; refine ⟨fun wc hC hD => ?_, ?_⟩; (focus (clear hD; obtain ⟨c0, c1, c2, c3, c4, c5, c6, c7⟩ := box8 (hC.blk _ List.mem_cons_self); clear hC; go_simp; first | done | with_reducible rfl)); try simp only [Act.put, List.setIfInBounds_toArray, List.set_cons_zero, List.set_cons_succ]))
                  refine calm_call _ _ (by rfl) (by rfl) ?_ ?_
                  focus
                    apply Exists.intro
                    apply Exists.intro
                    refine ⟨fun wc hC hD => ?_, fun wc hC hD => ?_⟩
                    focus (clear hD; obtain ⟨c0, c1, c2, c3, c4, c5, c6, c7⟩ := box8 (hC.blk _ List.mem_cons_self); clear hC; go_simp; first | done | with_reducible exact ⟨rfl, rfl⟩)
                    clear hD
                    with_reducible refine (HI.out _).mono ?_
                    rintro e wx ⟨rfl, hb⟩
                    exact ⟨_, rfl, hb, rfl, trivial⟩
                  rintro _ rfl
                  try simp only [Act.put, List.setIfInBounds_toArray, List.set_cons_zero, List.set_cons_succ]
                  repeat (first
                    | (refine calm_skip (by rfl) ?_; try simp only [Act.put, List.setIfInBounds_toArray, List.set_cons_zero, List.set_cons_succ])
                    | (refine calm_plain (by rfl) (by rfl) ?_; apply Exists.intro; refine ⟨fun wc hC hD => ?_, ?_⟩; (focus (clear hD; obtain ⟨c0, c1, c2, c3, c4, c5, c6, c7⟩ := box8 (hC.blk _ List.mem_cons_self); clear hC; go_simp; first | done | with_reducible rfl)); try simp only [Act.put, List.setIfInBounds_toArray, List.set_cons_zero, List.set_cons_succ]))
                  refine calm_call _ _ (by rfl) (by rfl) ?_ ?_
                  focus
                    apply Exists.intro
                    apply Exists.intro
                    refine ⟨fun wc hC hD => ?_, fun wc hC hD => ?_⟩
                    focus (clear hD; obtain ⟨c0, c1, c2, c3, c4, c5, c6, c7⟩ := box8 (hC.blk _ List.mem_cons_self); clear hC; go_simp; first | done | with_reducible exact ⟨rfl, rfl⟩)
                    clear hD
                    with_reducible refine (HT.out _ hC.bel).mono ?_
                    rintro e wx ⟨rfl, hb⟩
                    exact ⟨_, rfl, hb, rfl, trivial⟩
                  rintro _ rfl
                  try simp only [Act.put, List.setIfInBounds_toArray, List.set_cons_zero, List.set_cons_succ]
                  repeat (first
                    | (refine calm_skip (by rfl) ?_; try simp only [Act.put, List.setIfInBounds_toArray, List.set_cons_zero, List.set_cons_succ])
                    | (refine calm_plain (by rfl) (by rfl) ?_; apply Exists.intro; refine ⟨fun wc hC hD => ?_, ?_⟩; (focus (clear hD; obtain ⟨c0, c1, c2, c3, c4, c5, c6, c7⟩ := box8 (hC.blk _ List.mem_cons_self); clear hC; go_simp; first | done | with_reducible rfl)); try simp only [Act.put, List.setIfInBounds_toArray, List.set_cons_zero, List.set_cons_succ]))
                  refine calm_call _ _ (by rfl) (by rfl) ?_ ?_
                  focus
                    apply Exists.intro
                    apply Exists.intro
                    refine ⟨fun wc hC hD => ?_, fun wc hC hD => ?_⟩
                    focus (clear hD; obtain ⟨c0, c1, c2, c3, c4, c5, c6, c7⟩ := box8 (hC.blk _ List.mem_cons_self); clear hC; go_simp; first | done | with_reducible exact ⟨rfl, rfl⟩)
                    clear hD
                    with_reducible refine (HX.out _ hC.bel).mono ?_
                    rintro e wx ⟨rfl, hb⟩
                    exact ⟨_, rfl, hb, rfl, trivial⟩
                  rintro _ rfl
                  try simp only [Act.put, List.setIfInBounds_toArray, List.set_cons_zero, List.set_cons_succ]
                  repeat (first
                    | (refine calm_skip (by rfl) ?_; try simp only [Act.put, List.setIfInBounds_toArray, List.set_cons_zero, List.set_cons_succ])
                    | (refine calm_plain (by rfl) (by rfl) ?_; apply Exists.intro; refine ⟨fun wc hC hD => ?_, ?_⟩; (focus (clear hD; obtain ⟨c0, c1, c2, c3, c4, c5, c6, c7⟩ := box8 (hC.blk _ List.mem_cons_self); clear hC; go_simp; first | done | with_reducible rfl)); try simp only [Act.put, List.setIfInBounds_toArray, List.set_cons_zero, List.set_cons_succ]))
                  refine calm_end ?_
                  intro w7 hL7 hF7
                  clear hF7
                  replace HL := Lib.hid hL7
                  clear hL7
                  obtain ⟨c0, c1, c2, c3, c4, c5, c6, c7⟩ := box8 (HL.out.blk _ List.mem_cons_self)
                  go_wp2_with fail
                  refine (HA.out _ HL.out.bel).mono ?_
                  rintro e w8 ⟨rfl, hb8⟩
                  replace HL := Lib.hid (HL.out.lift hb8)
                  clear hb8 c0 c1 c2 c3 c4 c5 c6 c7
                  go_wp2
                  go_roundw
                  case rel => exact ⟨k + 1, by omega, by go_num, itemsTo_step HN.out hlt (by rw [← HXX.out]; exact HE.out), ball HL.out.bel _ HL.out.bel.size⟩
                  case measure => simp [intOf]; omega
    · have hks : k = l.length := by omega
      subst hks
      have HE := Lib.hid ((standsB_iff l).2 HN.out)
      go_wp2
      go_ret
      exact ⟨ret_bool HE.out.symm, HB.out⟩

end Go.Proofs.Ytghiipoeedfkhaa
