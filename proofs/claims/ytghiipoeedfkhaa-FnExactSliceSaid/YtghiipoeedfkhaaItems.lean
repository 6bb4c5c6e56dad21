/-
  Contract of the model's test whether items may stand so.
-/
import Derived.Test.YtghiipoeedfkhaaReady
namespace Go.Proofs.Ytghiipoeedfkhaa
set_option linter.unusedSimpArgs false
set_option linter.unusedVariables false
open Go.ChangeShapes Go.WideShapes Go.ChangeAt Go.RowKit

theorem held_i {x : Im} (h : HeldM x) : x.t.size ≤ maxLen := h.2.2.2

set_option maxRecDepth 100000 in
set_option maxHeartbeats 8000000 in
theorem spec_items (v : Value) (l : List Im) (w : World) (hv : Sl w w.heap.size 8 encM v l) (hl : l.length ≤ 140737488351232) (hs : ∀ x ∈ l, x.t.size ≤ maxLen) :
    Calls Try.prog 122 #[v] w (Tell (itemsB l) w) := by
  have HA := Lib.hid (fun n W (hb : Below w.heap.size w W) => spec_left v l n W ((hv.below hb).more hb.size) hl)
  have HR := Lib.hid (fun n W (hb : Below w.heap.size w W) => spec_rightOf v l n W ((hv.below hb).more hb.size) hl)
  have HX := Lib.hid (fun n W (hb : Below w.heap.size w W) => spec_next v l n W ((hv.below hb).more hb.size) hl)
  have HT := Lib.hid (fun n W (hb : Below w.heap.size w W) => spec_at v l n W ((hv.below hb).more hb.size) hl)
  have HS := Lib.hid hs; clear hs
  obtain ⟨A, c, rfl⟩ := hv.form
  have HV := Lib.hid hv; clear hv
  by_cases h60 : 60 < l.length
  · have h60' : (60 : Int) < (l.length : Int) := by omega
    have HE := Lib.hid (itemsB_no (l := l) (fun h => by have := h.1; omega))
    go_enter Try.func122, Try.ntmps122
    go_wp2
    go_ret
    exact ⟨ret_bool HE.out.symm, Below.refl _ _⟩
  · have h60' : ¬ (60 : Int) < (l.length : Int) := by omega
    go_enter Try.func122, Try.ntmps122
    go_wp2
    go_loopw [3] (fun i wr => ∃ k : Nat, k ≤ l.length ∧ i = .int .i64 k ∧ ItemsTo l k ∧ Below w.heap.size w wr) (fun i _ => l.length - (intOf i).toNat)
    case atStart => exact ⟨0, Nat.zero_le _, rfl, itemsTo_zero l, Below.refl _ _⟩
    case round =>
      obtain ⟨k, hk, rfl, hn, hb⟩ := hrel
      have HN := Lib.hid hn; have HB := Lib.hid hb; clear hn hb
      by_cases hlt : k < l.length
      · obtain ⟨ad, c', e', _, c0, c1, c2, c3, c4, c5, c6, c7⟩ := (HV.out.below HB.out).item k hlt
        simp only [Value.slice.injEq, true_and] at e'
        obtain ⟨rfl, rfl⟩ := e'
        have hxm := HS.out _ (getElem_mem' l k hlt)
        obtain ⟨x, hx⟩ : ∃ x, x = l[k] := ⟨_, rfl⟩
        rw [← hx] at c0 c1 c2 c3 c4 c5 c6 c7 hxm
        have HXX := Lib.hid hx; clear hx
        have HI := Lib.hid (fun W => spec_item x W hxm)
        have HNo := Lib.hid (fun W => spec_none x.l W)
        clear hxm
        have HP := Lib.hid (show StandP l k x ↔ (ItemP x ∧ x.i.k < nextOf l x.i.c ∧ atOf l x.i = k ∧ leftOf l x.l < k ∧ ¬ (leftOf l x.l < 0 ∧ ¬ x.l = no) ∧ k < rightOf l x.r) from Iff.rfl)
        have ha0 := left_lo l x.l; have ha1 := left_hi l x.l; have hr0 := right_lo l x.r; have hr1 := right_hi l x.r
        have hp0 := at_lo l x.i; have hp1 := at_hi l x.i
        replace HA := Lib.hid (HA.out x.l); replace HR := Lib.hid (HR.out x.r); replace HX := Lib.hid (HX.out x.i.c); replace HT := Lib.hid (HT.out x.i)
        obtain ⟨a, ha⟩ : ∃ a, a = leftOf l x.l := ⟨_, rfl⟩
        obtain ⟨b, hb⟩ : ∃ b, b = rightOf l x.r := ⟨_, rfl⟩
        obtain ⟨m, hm⟩ : ∃ m, m = nextOf l x.i.c := ⟨_, rfl⟩
        obtain ⟨p, hp⟩ : ∃ p, p = atOf l x.i := ⟨_, rfl⟩
        rw [← ha, ← hb, ← hm, ← hp] at HP
        rw [← ha] at HA ha0 ha1; rw [← hb] at HR hr0 hr1; rw [← hm] at HX; rw [← hp] at HT hp0 hp1
        clear ha hb hm hp
        go_wp2_with fail
        refine (HA.out _ (ball HB.out _ HB.out.size)).mono ?_
        rintro e w1 ⟨rfl, hb1⟩
        have HL := Lib.hid (((Lg.of HB.out).alloc _).lift hb1)
        clear hb1 c0 c1 c2 c3 c4 c5 c6 c7
        obtain ⟨c0, c1, c2, c3, c4, c5, c6, c7⟩ := box8 (HL.out.blk _ List.mem_cons_self)
        go_wp2_with fail
        refine (HR.out _ HL.out.bel).mono ?_
        rintro e w2 ⟨rfl, hb2⟩
        replace HL := Lib.hid (HL.out.lift hb2)
        clear c0 c1 c2 c3 c4 c5 c6 c7 hb2
        have HNS := Lib.hid (fun h : ¬ StandP l k x => itemsB_no (l := l) (fun hh => h (by rw [HXX.out]; exact hh.2 k hlt hlt)))
        cases hi : itemB x with
        | false =>
          replace HI := Lib.hid (fun W => (HI.out W).mono fun _ _ h => Tell.to h hi)
          have HE := Lib.hid (HNS.out (by rw [HP.out]; exact fun h => by rw [(itemB_iff x).2 h.1] at hi; cases hi))
          clear hi
          go_upto_region 9 with fail
          refine wp_region_calm_lg (told [(1, fun u => u = .bool false)]) (by kernel_rfl) (by kernel_rfl) (told_mono _) HL.out ?_
          repeat (first
            | (refine calm_skip (by rfl) ?_; try simp only [Act.put, List.setIfInBounds_toArray, List.set_cons_zero, List.set_cons_succ])
            | (refine calm_plain (by rfl) (by rfl) ?_; apply Exists.intro; refine ⟨fun wc hC hD => ?_, ?_⟩; (focus (clear hD; obtain ⟨c0, c1, c2, c3, c4, c5, c6, c7⟩ := box8 (hC.blk _ List.mem_cons_self); clear hC; go_simp; first | done | with_reducible rfl)); try simp only [Act.put, List.setIfInBounds_toArray, List.set_cons_zero, List.set_cons_succ]))
          refine calm_call _ _ (by rfl) (by rfl) ?_ ?_
          focus
            apply Exists.intro
            apply Exists.intro
            refine ⟨fun wc hC hD => ?_, fun wc hC hD => ?_⟩
            focus (clear hD; obtain ⟨c0, c1, c2, c3, c4, c5, c6, c7⟩ := box8 (hC.blk _ List.mem_cons_self); clear hC; go_simp; first | done | with_reducible exact ⟨rfl, rfl⟩)
            clear hD
            with_reducible refine (HI.out _).mono ?_
            rintro e wx ⟨rfl, hb⟩
            exact ⟨_, rfl, hb, rfl, trivial⟩
          rintro _ rfl
          try simp only [Act.put, List.setIfInBounds_toArray, List.set_cons_zero, List.set_cons_succ]
          repeat (first
            | (refine calm_skip (by rfl) ?_; try simp only [Act.put, List.setIfInBounds_toArray, List.set_cons_zero, List.set_cons_succ])
            | (refine calm_plain (by rfl) (by rfl) ?_; apply Exists.intro; refine ⟨fun wc hC hD => ?_, ?_⟩; (focus (clear hD; obtain ⟨c0, c1, c2, c3, c4, c5, c6, c7⟩ := box8 (hC.blk _ List.mem_cons_self); clear hC; go_simp; first | done | with_reducible rfl)); try simp only [Act.put, List.setIfInBounds_toArray, List.set_cons_zero, List.set_cons_succ]))
          refine calm_end ?_
          intro w7 hL7 hF7
          clear hF7
          replace HL := Lib.hid hL7
          clear hL7
          go_wp2
          go_ret
          exact ⟨ret_bool HE.out.symm, HL.out.bel⟩
        | true =>
          replace HI := Lib.hid (fun W => (HI.out W).mono fun _ _ h => Tell.to h hi)
          have HII := Lib.hid ((itemB_iff x).1 hi); clear hi
          by_cases h1 : (m : Int) ≤ x.i.k
          · have d1 : decide ((m : Int) ≤ x.i.k) = true := decide_eq_true h1
            have HE := Lib.hid (HNS.out (by rw [HP.out]; exact fun h => by have := h.2.1; omega))
            go_upto_region 9 with fail
            refine wp_region_calm_lg (told [(1, fun u => u = .bool true), (11, fun u => u = .int .i64 (m : Int))]) (by kernel_rfl) (by kernel_rfl) (told_mono _) HL.out ?_
            repeat (first
              | (refine calm_skip (by rfl) ?_; try simp only [Act.put, List.setIfInBounds_toArray, List.set_cons_zero, List.set_cons_succ])
              | (refine calm_plain (by rfl) (by rfl) ?_; apply Exists.intro; refine ⟨fun wc hC hD => ?_, ?_⟩; (focus (clear hD; obtain ⟨c0, c1, c2, c3, c4, c5, c6, c7⟩ := box8 (hC.blk _ List.mem_cons_self); clear hC; go_simp; first | done | with_reducible rfl)); try simp only [Act.put, List.setIfInBounds_toArray, List.set_cons_zero, List.set_cons_succ]))
            refine calm_call _ _ (by rfl) (by rfl) ?_ ?_
            focus
              apply Exists.intro
              apply Exists.intro
              refine ⟨fun wc hC hD => ?_, fun wc hC hD => ?_⟩
              focus (clear hD; obtain ⟨c0, c1, c2, c3, c4, c5, c6, c7⟩ := box8 (hC.blk _ List.mem_cons_self); clear hC; go_simp; first | done | with_reducible exact ⟨rfl, rfl⟩)
              clear hD
              with_reducible refine (HI.out _).mono ?_
              rintro e wx ⟨rfl, hb⟩
              exact ⟨_, rfl, hb, rfl, trivial⟩
            rintro _ rfl
            try simp only [Act.put, List.setIfInBounds_toArray, List.set_cons_zero, List.set_cons_succ]
            repeat (first
              | (refine calm_skip (by rfl) ?_; try simp only [Act.put, List.setIfInBounds_toArray, List.set_cons_zero, List.set_cons_succ])
              | (refine calm_plain (by rfl) (by rfl) ?_; apply Exists.intro; refine ⟨fun wc hC hD => ?_, ?_⟩; (focus (clear hD; obtain ⟨c0, c1, c2, c3, c4, c5, c6, c7⟩ := box8 (hC.blk _ List.mem_cons_self); clear hC; go_simp; first | done | with_reducible rfl)); try simp only [Act.put, List.setIfInBounds_toArray, List.set_cons_zero, List.set_cons_succ]))
            refine calm_call _ _ (by rfl) (by rfl) ?_ ?_
            focus
              apply Exists.intro
              apply Exists.intro
              refine ⟨fun wc hC hD => ?_, fun wc hC hD => ?_⟩
              focus (clear hD; obtain ⟨c0, c1, c2, c3, c4, c5, c6, c7⟩ := box8 (hC.blk _ List.mem_cons_self); clear hC; go_simp; first | done | with_reducible exact ⟨rfl, rfl⟩)
              clear hD
              with_reducible refine (HX.out _ hC.bel).mono ?_
              rintro e wx ⟨rfl, hb⟩
              exact ⟨_, rfl, hb, rfl, trivial⟩
            rintro _ rfl
            try simp only [Act.put, List.setIfInBounds_toArray, List.set_cons_zero, List.set_cons_succ]
            repeat (first
              | (refine calm_skip (by rfl) ?_; try simp only [Act.put, List.setIfInBounds_toArray, List.set_cons_zero, List.set_cons_succ])
              | (refine calm_plain (by rfl) (by rfl) ?_; apply Exists.intro; refine ⟨fun wc hC hD => ?_, ?_⟩; (focus (clear hD; obtain ⟨c0, c1, c2, c3, c4, c5, c6, c7⟩ := box8 (hC.blk _ List.mem_cons_self); clear hC; go_simp; first | done | with_reducible rfl)); try simp only [Act.put, List.setIfInBounds_toArray, List.set_cons_zero, List.set_cons_succ]))
            refine calm_end ?_
            intro w7 hL7 hF7
            clear hF7
            replace HL := Lib.hid hL7
            clear hL7
            go_wp2
            go_ret
            exact ⟨ret_bool HE.out.symm, HL.out.bel⟩
          · have d1 : decide ((m : Int) ≤ x.i.k) = false := decide_eq_false h1
            cases h2 : (p != (k : Int)) with
            | true =>
              have HE := Lib.hid (HNS.out (by rw [HP.out]; exact fun h => by simp [h.2.2.1] at h2))
              go_upto_region 9 with fail
              refine wp_region_calm_lg (told [(1, fun u => u = .bool true), (11, fun u => u = .int .i64 (m : Int)), (18, fun u => u = .int .i64 p)]) (by kernel_rfl) (by kernel_rfl) (told_mono _) HL.out ?_
              repeat (first
                | (refine calm_skip (by rfl) ?_; try simp only [Act.put, List.setIfInBounds_toArray, List.set_cons_zero, List.set_cons_succ])
                | (refine calm_plain (by rfl) (by rfl) ?_; apply Exists.intro; refine ⟨fun wc hC hD => ?_, ?_⟩; (focus (clear hD; obtain ⟨c0, c1, c2, c3, c4, c5, c6, c7⟩ := box8 (hC.blk _ List.mem_cons_self); clear hC; go_simp; first | done | with_reducible rfl)); try simp only [Act.put, List.setIfInBounds_toArray, List.set_cons_zero, List.set_cons_succ]))
              refine calm_call _ _ (by rfl) (by rfl) ?_ ?_
              focus
                apply Exists.intro
                apply Exists.intro
                refine ⟨fun wc hC hD => ?_, fun wc hC hD => ?_⟩
                focus (clear hD; obtain ⟨c0, c1, c2, c3, c4, c5, c6, c7⟩ := box8 (hC.blk _ List.mem_cons_self); clear hC; go_simp; first | done | with_reducible exact ⟨rfl, rfl⟩)
                clear hD
                with_reducible refine (HI.out _).mono ?_
                rintro e wx ⟨rfl, hb⟩
                exact ⟨_, rfl, hb, rfl, trivial⟩
              rintro _ rfl
              try simp only [Act.put, List.setIfInBounds_toArray, List.set_cons_zero, List.set_cons_succ]
              repeat (first
                | (refine calm_skip (by rfl) ?_; try simp only [Act.put, List.setIfInBounds_toArray, List.set_cons_zero, List.set_cons_succ])
                | (refine calm_plain (by rfl) (by rfl) ?_; apply Exists.intro; refine ⟨fun wc hC hD => ?_, ?_⟩; (focus (clear hD; obtain ⟨c0, c1, c2, c3, c4, c5, c6, c7⟩ := box8 (hC.blk _ List.mem_cons_self); clear hC; go_simp; first | done | with_reducible rfl)); try simp only [Act.put, List.setIfInBounds_toArray, List.set_cons_zero, List.set_cons_succ]))
              refine calm_call _ _ (by rfl) (by rfl) ?_ ?_
              focus
                apply Exists.intro
                apply Exists.intro
                refine ⟨fun wc hC hD => ?_, fun wc hC hD => ?_⟩
                focus (clear hD; obtain ⟨c0, c1, c2, c3, c4, c5, c6, c7⟩ := box8 (hC.blk _ List.mem_cons_self); clear hC; go_simp; first | done | with_reducible exact ⟨rfl, rfl⟩)
                clear hD
                with_reducible refine (HX.out _ hC.bel).mono ?_
                rintro e wx ⟨rfl, hb⟩
                exact ⟨_, rfl, hb, rfl, trivial⟩
              rintro _ rfl
              try simp only [Act.put, List.setIfInBounds_toArray, List.set_cons_zero, List.set_cons_succ]
              repeat (first
                | (refine calm_skip (by rfl) ?_; try simp only [Act.put, List.setIfInBounds_toArray, List.set_cons_zero, List.set_cons_succ])
                | (refine calm_plain (by rfl) (by rfl) ?_; apply Exists.intro; refine ⟨fun wc hC hD => ?_, ?_⟩; (focus (clear hD; obtain ⟨c0, c1, c2, c3, c4, c5, c6, c7⟩ := box8 (hC.blk _ List.mem_cons_self); clear hC; go_simp; first | done | with_reducible rfl)); try simp only [Act.put, List.setIfInBounds_toArray, List.set_cons_zero, List.set_cons_succ]))
              refine calm_call _ _ (by rfl) (by rfl) ?_ ?_
              focus
                apply Exists.intro
                apply Exists.intro
                refine ⟨fun wc hC hD => ?_, fun wc hC hD => ?_⟩
                focus (clear hD; obtain ⟨c0, c1, c2, c3, c4, c5, c6, c7⟩ := box8 (hC.blk _ List.mem_cons_self); clear hC; go_simp; first | done | with_reducible exact ⟨rfl, rfl⟩)
                clear hD
                with_reducible refine (HT.out _ hC.bel).mono ?_
                rintro e wx ⟨rfl, hb⟩
                exact ⟨_, rfl, hb, rfl, trivial⟩
              rintro _ rfl
              try simp only [Act.put, List.setIfInBounds_toArray, List.set_cons_zero, List.set_cons_succ]
              repeat (first
                | (refine calm_skip (by rfl) ?_; try simp only [Act.put, List.setIfInBounds_toArray, List.set_cons_zero, List.set_cons_succ])
                | (refine calm_plain (by rfl) (by rfl) ?_; apply Exists.intro; refine ⟨fun wc hC hD => ?_, ?_⟩; (focus (clear hD; obtain ⟨c0, c1, c2, c3, c4, c5, c6, c7⟩ := box8 (hC.blk _ List.mem_cons_self); clear hC; go_simp; first | done | with_reducible rfl)); try simp only [Act.put, List.setIfInBounds_toArray, List.set_cons_zero, List.set_cons_succ]))
              refine calm_end ?_
              intro w7 hL7 hF7
              clear hF7
              replace HL := Lib.hid hL7
              clear hL7
              go_wp2
              go_ret
              exact ⟨ret_bool HE.out.symm, HL.out.bel⟩
            | false =>
              have HPP := Lib.hid (show p = (k : Int) by simpa using h2)
              by_cases h3 : (k : Int) ≤ a
              · have d3 : decide ((k : Int) ≤ a) = true := decide_eq_true h3
                have HE := Lib.hid (HNS.out (by rw [HP.out]; exact fun h => by have := h.2.2.2.1; omega))
                go_upto_region 9 with fail
                refine wp_region_calm_lg (told [(1, fun u => u = .bool true), (11, fun u => u = .int .i64 (m : Int)), (18, fun u => u = .int .i64 p)]) (by kernel_rfl) (by kernel_rfl) (told_mono _) HL.out ?_
                repeat (first
                  | (refine calm_skip (by rfl) ?_; try simp only [Act.put, List.setIfInBounds_toArray, List.set_cons_zero, List.set_cons_succ])
                  | (refine calm_plain (by rfl) (by rfl) ?_; apply Exists.intro; refine ⟨fun wc hC hD => ?_, ?_⟩; (focus (clear hD; obtain ⟨c0, c1, c2, c3, c4, c5, c6, c7⟩ := box8 (hC.blk _ List.mem_cons_self); clear hC; go_simp; first | done | with_reducible rfl)); try simp only [Act.put, List.setIfInBounds_toArray, List.set_cons_zero, List.set_cons_succ]))
                refine calm_call _ _ (by rfl) (by rfl) ?_ ?_
                focus
                  apply Exists.intro
                  apply Exists.intro
                  refine ⟨fun wc hC hD => ?_, fun wc hC hD => ?_⟩
                  focus (clear hD; obtain ⟨c0, c1, c2, c3, c4, c5, c6, c7⟩ := box8 (hC.blk _ List.mem_cons_self); clear hC; go_simp; first | done | with_reducible exact ⟨rfl, rfl⟩)
                  clear hD
                  with_reducible refine (HI.out _).mono ?_
                  rintro e wx ⟨rfl, hb⟩
                  exact ⟨_, rfl, hb, rfl, trivial⟩
                rintro _ rfl
                try simp only [Act.put, List.setIfInBounds_toArray, List.set_cons_zero, List.set_cons_succ]
                repeat (first
                  | (refine calm_skip (by rfl) ?_; try simp only [Act.put, List.setIfInBounds_toArray, List.set_cons_zero, List.set_cons_succ])
                  | (refine calm_plain (by rfl) (by rfl) ?_; apply Exists.intro; refine ⟨fun wc hC hD => ?_, ?_⟩; (focus (clear hD; obtain ⟨c0, c1, c2, c3, c4, c5, c6, c7⟩ := box8 (hC.blk _ List.mem_cons_self); clear hC; go_simp; first | done | with_reducible rfl)); try simp only [Act.put, List.setIfInBounds_toArray, List.set_cons_zero, List.set_cons_succ]))
                refine calm_call _ _ (by rfl) (by rfl) ?_ ?_
                focus
                  apply Exists.intro
                  apply Exists.intro
                  refine ⟨fun wc hC hD => ?_, fun wc hC hD => ?_⟩
                  focus (clear hD; obtain ⟨c0, c1, c2, c3, c4, c5, c6, c7⟩ := box8 (hC.blk _ List.mem_cons_self); clear hC; go_simp; first | done | with_reducible exact ⟨rfl, rfl⟩)
                  clear hD
                  with_reducible refine (HX.out _ hC.bel).mono ?_
                  rintro e wx ⟨rfl, hb⟩
                  exact ⟨_, rfl, hb, rfl, trivial⟩
                rintro _ rfl
                try simp only [Act.put, List.setIfInBounds_toArray, List.set_cons_zero, List.set_cons_succ]
                repeat (first
                  | (refine calm_skip (by rfl) ?_; try simp only [Act.put, List.setIfInBounds_toArray, List.set_cons_zero, List.set_cons_succ])
                  | (refine calm_plain (by rfl) (by rfl) ?_; apply Exists.intro; refine ⟨fun wc hC hD => ?_, ?_⟩; (focus (clear hD; obtain ⟨c0, c1, c2, c3, c4, c5, c6, c7⟩ := box8 (hC.blk _ List.mem_cons_self); clear hC; go_simp; first | done | with_reducible rfl)); try simp only [Act.put, List.setIfInBounds_toArray, List.set_cons_zero, List.set_cons_succ]))
                refine calm_call _ _ (by rfl) (by rfl) ?_ ?_
                focus
                  apply Exists.intro
                  apply Exists.intro
                  refine ⟨fun wc hC hD => ?_, fun wc hC hD => ?_⟩
                  focus (clear hD; obtain ⟨c0, c1, c2, c3, c4, c5, c6, c7⟩ := box8 (hC.blk _ List.mem_cons_self); clear hC; go_simp; first | done | with_reducible exact ⟨rfl, rfl⟩)
                  clear hD
                  with_reducible refine (HT.out _ hC.bel).mono ?_
                  rintro e wx ⟨rfl, hb⟩
                  exact ⟨_, rfl, hb, rfl, trivial⟩
                rintro _ rfl
                try simp only [Act.put, List.setIfInBounds_toArray, List.set_cons_zero, List.set_cons_succ]
                repeat (first
                  | (refine calm_skip (by rfl) ?_; try simp only [Act.put, List.setIfInBounds_toArray, List.set_cons_zero, List.set_cons_succ])
                  | (refine calm_plain (by rfl) (by rfl) ?_; apply Exists.intro; refine ⟨fun wc hC hD => ?_, ?_⟩; (focus (clear hD; obtain ⟨c0, c1, c2, c3, c4, c5, c6, c7⟩ := box8 (hC.blk _ List.mem_cons_self); clear hC; go_simp; first | done | with_reducible rfl)); try simp only [Act.put, List.setIfInBounds_toArray, List.set_cons_zero, List.set_cons_succ]))
                refine calm_end ?_
                intro w7 hL7 hF7
                clear hF7
                replace HL := Lib.hid hL7
                clear hL7
                go_wp2
                go_ret
                exact ⟨ret_bool HE.out.symm, HL.out.bel⟩
              · have d3 : decide ((k : Int) ≤ a) = false := decide_eq_false h3
                by_cases h4 : a < 0
                · have d4 : decide (a < 0) = true := decide_eq_true h4
                  cases hn : eqN x.l no with
                  | false =>
                    replace HNo := Lib.hid (fun W => (HNo.out W).mono fun _ _ h => Tell.to h hn)
                    have HE := Lib.hid (HNS.out (by rw [HP.out]; exact fun h => h.2.2.2.2.1 ⟨h4, eqN_f.1 hn⟩))
                    clear hn
                    go_upto_region 9 with fail
                    refine wp_region_calm_lg (told [(1, fun u => u = .bool true), (11, fun u => u = .int .i64 (m : Int)), (18, fun u => u = .int .i64 p), (33, fun u => u = .bool false)]) (by kernel_rfl) (by kernel_rfl) (told_mono _) HL.out ?_
                    repeat (first
                      | (refine calm_skip (by rfl) ?_; try simp only [Act.put, List.setIfInBounds_toArray, List.set_cons_zero, List.set_cons_succ])
                      | (refine calm_plain (by rfl) (by rfl) ?_; apply Exists.intro; refine ⟨fun wc hC hD => ?_, ?_⟩; (focus (clear hD; obtain ⟨c0, c1, c2, c3, c4, c5, c6, c7⟩ := box8 (hC.blk _ List.mem_cons_self); clear hC; go_simp; first | done | with_reducible rfl)); try simp only [Act.put, List.setIfInBounds_toArray, List.set_cons_zero, List.set_cons_succ]))
                    refine calm_call _ _ (by rfl) (by rfl) ?_ ?_
                    focus
                      apply Exists.intro
                      apply Exists.intro
                      refine ⟨fun wc hC hD => ?_, fun wc hC hD => ?_⟩
                      focus (clear hD; obtain ⟨c0, c1, c2, c3, c4, c5, c6, c7⟩ := box8 (hC.blk _ List.mem_cons_self); clear hC; go_simp; first | done | with_reducible exact ⟨rfl, rfl⟩)
                      clear hD
                      with_reducible refine (HI.out _).mono ?_
                      rintro e wx ⟨rfl, hb⟩
                      exact ⟨_, rfl, hb, rfl, trivial⟩
                    rintro _ rfl
                    try simp only [Act.put, List.setIfInBounds_toArray, List.set_cons_zero, List.set_cons_succ]
                    repeat (first
                      | (refine calm_skip (by rfl) ?_; try simp only [Act.put, List.setIfInBounds_toArray, List.set_cons_zero, List.set_cons_succ])
                      | (refine calm_plain (by rfl) (by rfl) ?_; apply Exists.intro; refine ⟨fun wc hC hD => ?_, ?_⟩; (focus (clear hD; obtain ⟨c0, c1, c2, c3, c4, c5, c6, c7⟩ := box8 (hC.blk _ List.mem_cons_self); clear hC; go_simp; first | done | with_reducible rfl)); try simp only [Act.put, List.setIfInBounds_toArray, List.set_cons_zero, List.set_cons_succ]))
                    refine calm_call _ _ (by rfl) (by rfl) ?_ ?_
                    focus
                      apply Exists.intro
                      apply Exists.intro
                      refine ⟨fun wc hC hD => ?_, fun wc hC hD => ?_⟩
                      focus (clear hD; obtain ⟨c0, c1, c2, c3, c4, c5, c6, c7⟩ := box8 (hC.blk _ List.mem_cons_self); clear hC; go_simp; first | done | with_reducible exact ⟨rfl, rfl⟩)
                      clear hD
                      with_reducible refine (HX.out _ hC.bel).mono ?_
                      rintro e wx ⟨rfl, hb⟩
                      exact ⟨_, rfl, hb, rfl, trivial⟩
                    rintro _ rfl
                    try simp only [Act.put, List.setIfInBounds_toArray, List.set_cons_zero, List.set_cons_succ]
                    repeat (first
                      | (refine calm_skip (by rfl) ?_; try simp only [Act.put, List.setIfInBounds_toArray, List.set_cons_zero, List.set_cons_succ])
                      | (refine calm_plain (by rfl) (by rfl) ?_; apply Exists.intro; refine ⟨fun wc hC hD => ?_, ?_⟩; (focus (clear hD; obtain ⟨c0, c1, c2, c3, c4, c5, c6, c7⟩ := box8 (hC.blk _ List.mem_cons_self); clear hC; go_simp; first | done | with_reducible rfl)); try simp only [Act.put, List.setIfInBounds_toArray, List.set_cons_zero, List.set_cons_succ]))
                    refine calm_call _ _ (by rfl) (by rfl) ?_ ?_
                    focus
                      apply Exists.intro
                      apply Exists.intro
                      refine ⟨fun wc hC hD => ?_, fun wc hC hD => ?_⟩
                      focus (clear hD; obtain ⟨c0, c1, c2, c3, c4, c5, c6, c7⟩ := box8 (hC.blk _ List.mem_cons_self); clear hC; go_simp; first | done | with_reducible exact ⟨rfl, rfl⟩)
                      clear hD
                      with_reducible refine (HT.out _ hC.bel).mono ?_
                      rintro e wx ⟨rfl, hb⟩
                      exact ⟨_, rfl, hb, rfl, trivial⟩
                    rintro _ rfl
                    try simp only [Act.put, List.setIfInBounds_toArray, List.set_cons_zero, List.set_cons_succ]
                    repeat (first
                      | (refine calm_skip (by rfl) ?_; try simp only [Act.put, List.setIfInBounds_toArray, List.set_cons_zero, List.set_cons_succ])
                      | (refine calm_plain (by rfl) (by rfl) ?_; apply Exists.intro; refine ⟨fun wc hC hD => ?_, ?_⟩; (focus (clear hD; obtain ⟨c0, c1, c2, c3, c4, c5, c6, c7⟩ := box8 (hC.blk _ List.mem_cons_self); clear hC; go_simp; first | done | with_reducible rfl)); try simp only [Act.put, List.setIfInBounds_toArray, List.set_cons_zero, List.set_cons_succ]))
                    refine calm_call _ _ (by rfl) (by rfl) ?_ ?_
                    focus
                      apply Exists.intro
                      apply Exists.intro
                      refine ⟨fun wc hC hD => ?_, fun wc hC hD => ?_⟩
                      focus (clear hD; obtain ⟨c0, c1, c2, c3, c4, c5, c6, c7⟩ := box8 (hC.blk _ List.mem_cons_self); clear hC; go_simp; first | done | with_reducible exact ⟨rfl, rfl⟩)
                      clear hD
                      with_reducible refine (HNo.out _).mono ?_
                      rintro e wx ⟨rfl, hb⟩
                      exact ⟨_, rfl, hb, rfl, trivial⟩
                    rintro _ rfl
                    try simp only [Act.put, List.setIfInBounds_toArray, List.set_cons_zero, List.set_cons_succ]
                    repeat (first
                      | (refine calm_skip (by rfl) ?_; try simp only [Act.put, List.setIfInBounds_toArray, List.set_cons_zero, List.set_cons_succ])
                      | (refine calm_plain (by rfl) (by rfl) ?_; apply Exists.intro; refine ⟨fun wc hC hD => ?_, ?_⟩; (focus (clear hD; obtain ⟨c0, c1, c2, c3, c4, c5, c6, c7⟩ := box8 (hC.blk _ List.mem_cons_self); clear hC; go_simp; first | done | with_reducible rfl)); try simp only [Act.put, List.setIfInBounds_toArray, List.set_cons_zero, List.set_cons_succ]))
                    refine calm_end ?_
                    intro w7 hL7 hF7
                    clear hF7
                    replace HL := Lib.hid hL7
                    clear hL7
                    go_wp2
                    go_ret
                    exact ⟨ret_bool HE.out.symm, HL.out.bel⟩
                  | true =>
                    replace HNo := Lib.hid (fun W => (HNo.out W).mono fun _ _ h => Tell.to h hn)
                    have HNN := Lib.hid (eqN_t.1 hn); clear hn
                    by_cases h5 : b ≤ (k : Int)
                    · have d5 : decide (b ≤ (k : Int)) = true := decide_eq_true h5
                      have HE := Lib.hid (HNS.out (by rw [HP.out]; exact fun h => by have := h.2.2.2.2.2; omega))
                      go_upto_region 9 with fail
                      refine wp_region_calm_lg (told [(1, fun u => u = .bool true), (11, fun u => u = .int .i64 (m : Int)), (18, fun u => u = .int .i64 p), (33, fun u => u = .bool true)]) (by kernel_rfl) (by kernel_rfl) (told_mono _) HL.out ?_
                      repeat (first
                        | (refine calm_skip (by rfl) ?_; try simp only [Act.put, List.setIfInBounds_toArray, List.set_cons_zero, List.set_cons_succ])
                        | (refine calm_plain (by rfl) (by rfl) ?_; apply Exists.intro; refine ⟨fun wc hC hD => ?_, ?_⟩; (focus (clear hD; obtain ⟨c0, c1, c2, c3, c4, c5, c6, c7⟩ := box8 (hC.blk _ List.mem_cons_self); clear hC; go_simp; first | done | with_reducible rfl)); try simp only [Act.put, List.setIfInBounds_toArray, List.set_cons_zero, List.set_cons_succ]))
                      refine calm_call _ _ (by rfl) (by rfl) ?_ ?_
                      focus
                        apply Exists.intro
                        apply Exists.intro
                        refine ⟨fun wc hC hD => ?_, fun wc hC hD => ?_⟩
                        focus (clear hD; obtain ⟨c0, c1, c2, c3, c4, c5, c6, c7⟩ := box8 (hC.blk _ List.mem_cons_self); clear hC; go_simp; first | done | with_reducible exact ⟨rfl, rfl⟩)
                        clear hD
                        with_reducible refine (HI.out _).mono ?_
                        rintro e wx ⟨rfl, hb⟩
                        exact ⟨_, rfl, hb, rfl, trivial⟩
                      rintro _ rfl
                      try simp only [Act.put, List.setIfInBounds_toArray, List.set_cons_zero, List.set_cons_succ]
                      repeat (first
                        | (refine calm_skip (by rfl) ?_; try simp only [Act.put, List.setIfInBounds_toArray, List.set_cons_zero, List.set_cons_succ])
                        | (refine calm_plain (by rfl) (by rfl) ?_; apply Exists.intro; refine ⟨fun wc hC hD => ?_, ?_⟩; (focus (clear hD; obtain ⟨c0, c1, c2, c3, c4, c5, c6, c7⟩ := box8 (hC.blk _ List.mem_cons_self); clear hC; go_simp; first | done | with_reducible rfl)); try simp only [Act.put, List.setIfInBounds_toArray, List.set_cons_zero, List.set_cons_succ]))
                      refine calm_call _ _ (by rfl) (by rfl) ?_ ?_
                      focus
                        apply Exists.intro
                        apply Exists.intro
                        refine ⟨fun wc hC hD => ?_, fun wc hC hD => ?_⟩
                        focus (clear hD; obtain ⟨c0, c1, c2, c3, c4, c5, c6, c7⟩ := box8 (hC.blk _ List.mem_cons_self); clear hC; go_simp; first | done | with_reducible exact ⟨rfl, rfl⟩)
                        clear hD
                        with_reducible refine (HX.out _ hC.bel).mono ?_
                        rintro e wx ⟨rfl, hb⟩
                        exact ⟨_, rfl, hb, rfl, trivial⟩
                      rintro _ rfl
                      try simp only [Act.put, List.setIfInBounds_toArray, List.set_cons_zero, List.set_cons_succ]
                      repeat (first
                        | (refine calm_skip (by rfl) ?_; try simp only [Act.put, List.setIfInBounds_toArray, List.set_cons_zero, List.set_cons_succ])
                        | (refine calm_plain (by rfl) (by rfl) ?_; apply Exists.intro; refine ⟨fun wc hC hD => ?_, ?_⟩; (focus (clear hD; obtain ⟨c0, c1, c2, c3, c4, c5, c6, c7⟩ := box8 (hC.blk _ List.mem_cons_self); clear hC; go_simp; first | done | with_reducible rfl)); try simp only [Act.put, List.setIfInBounds_toArray, List.set_cons_zero, List.set_cons_succ]))
                      refine calm_call _ _ (by rfl) (by rfl) ?_ ?_
                      focus
                        apply Exists.intro
                        apply Exists.intro
                        refine ⟨fun wc hC hD => ?_, fun wc hC hD => ?_⟩
                        focus (clear hD; obtain ⟨c0, c1, c2, c3, c4, c5, c6, c7⟩ := box8 (hC.blk _ List.mem_cons_self); clear hC; go_simp; first | done | with_reducible exact ⟨rfl, rfl⟩)
                        clear hD
                        with_reducible refine (HT.out _ hC.bel).mono ?_
                        rintro e wx ⟨rfl, hb⟩
                        exact ⟨_, rfl, hb, rfl, trivial⟩
                      rintro _ rfl
                      try simp only [Act.put, List.setIfInBounds_toArray, List.set_cons_zero, List.set_cons_succ]
                      repeat (first
                        | (refine calm_skip (by rfl) ?_; try simp only [Act.put, List.setIfInBounds_toArray, List.set_cons_zero, List.set_cons_succ])
                        | (refine calm_plain (by rfl) (by rfl) ?_; apply Exists.intro; refine ⟨fun wc hC hD => ?_, ?_⟩; (focus (clear hD; obtain ⟨c0, c1, c2, c3, c4, c5, c6, c7⟩ := box8 (hC.blk _ List.mem_cons_self); clear hC; go_simp; first | done | with_reducible rfl)); try simp only [Act.put, List.setIfInBounds_toArray, List.set_cons_zero, List.set_cons_succ]))
                      refine calm_call _ _ (by rfl) (by rfl) ?_ ?_
                      focus
                        apply Exists.intro
                        apply Exists.intro
                        refine ⟨fun wc hC hD => ?_, fun wc hC hD => ?_⟩
                        focus (clear hD; obtain ⟨c0, c1, c2, c3, c4, c5, c6, c7⟩ := box8 (hC.blk _ List.mem_cons_self); clear hC; go_simp; first | done | with_reducible exact ⟨rfl, rfl⟩)
                        clear hD
                        with_reducible refine (HNo.out _).mono ?_
                        rintro e wx ⟨rfl, hb⟩
                        exact ⟨_, rfl, hb, rfl, trivial⟩
                      rintro _ rfl
                      try simp only [Act.put, List.setIfInBounds_toArray, List.set_cons_zero, List.set_cons_succ]
                      repeat (first
                        | (refine calm_skip (by rfl) ?_; try simp only [Act.put, List.setIfInBounds_toArray, List.set_cons_zero, List.set_cons_succ])
                        | (refine calm_plain (by rfl) (by rfl) ?_; apply Exists.intro; refine ⟨fun wc hC hD => ?_, ?_⟩; (focus (clear hD; obtain ⟨c0, c1, c2, c3, c4, c5, c6, c7⟩ := box8 (hC.blk _ List.mem_cons_self); clear hC; go_simp; first | done | with_reducible rfl)); try simp only [Act.put, List.setIfInBounds_toArray, List.set_cons_zero, List.set_cons_succ]))
                      refine calm_end ?_
                      intro w7 hL7 hF7
                      clear hF7
                      replace HL := Lib.hid hL7
                      clear hL7
                      go_wp2
                      go_ret
                      exact ⟨ret_bool HE.out.symm, HL.out.bel⟩
                    · have d5 : decide (b ≤ (k : Int)) = false := decide_eq_false h5
                      have HE := Lib.hid (show StandP l k x by rw [HP.out]; exact ⟨HII.out, by omega, HPP.out, by omega, fun h' => h'.2 HNN.out, by omega⟩)
                      go_upto_region 9 with fail
                      refine wp_region_calm_lg (told [(1, fun u => u = .bool true), (11, fun u => u = .int .i64 (m : Int)), (18, fun u => u = .int .i64 p), (33, fun u => u = .bool true)]) (by kernel_rfl) (by kernel_rfl) (told_mono _) HL.out ?_
                      repeat (first
                        | (refine calm_skip (by rfl) ?_; try simp only [Act.put, List.setIfInBounds_toArray, List.set_cons_zero, List.set_cons_succ])
                        | (refine calm_plain (by rfl) (by rfl) ?_; apply Exists.intro; refine ⟨fun wc hC hD => ?_, ?_⟩; (focus (clear hD; obtain ⟨c0, c1, c2, c3, c4, c5, c6, c7⟩ := box8 (hC.blk _ List.mem_cons_self); clear hC; go_simp; first | done | with_reducible rfl)); try simp only [Act.put, List.setIfInBounds_toArray, List.set_cons_zero, List.set_cons_succ]))
                      refine calm_call _ _ (by rfl) (by rfl) ?_ ?_
                      focus
                        apply Exists.intro
                        apply Exists.intro
                        refine ⟨fun wc hC hD => ?_, fun wc hC hD => ?_⟩
                        focus (clear hD; obtain ⟨c0, c1, c2, c3, c4, c5, c6, c7⟩ := box8 (hC.blk _ List.mem_cons_self); clear hC; go_simp; first | done | with_reducible exact ⟨rfl, rfl⟩)
                        clear hD
                        with_reducible refine (HI.out _).mono ?_
                        rintro e wx ⟨rfl, hb⟩
                        exact ⟨_, rfl, hb, rfl, trivial⟩
                      rintro _ rfl
                      try simp only [Act.put, List.setIfInBounds_toArray, List.set_cons_zero, List.set_cons_succ]
                      repeat (first
                        | (refine calm_skip (by rfl) ?_; try simp only [Act.put, List.setIfInBounds_toArray, List.set_cons_zero, List.set_cons_succ])
                        | (refine calm_plain (by rfl) (by rfl) ?_; apply Exists.intro; refine ⟨fun wc hC hD => ?_, ?_⟩; (focus (clear hD; obtain ⟨c0, c1, c2, c3, c4, c5, c6, c7⟩ := box8 (hC.blk _ List.mem_cons_self); clear hC; go_simp; first | done | with_reducible rfl)); try simp only [Act.put, List.setIfInBounds_toArray, List.set_cons_zero, List.set_cons_succ]))
                      refine calm_call _ _ (by rfl) (by rfl) ?_ ?_
                      focus
                        apply Exists.intro
                        apply Exists.intro
                        refine ⟨fun wc hC hD => ?_, fun wc hC hD => ?_⟩
                        focus (clear hD; obtain ⟨c0, c1, c2, c3, c4, c5, c6, c7⟩ := box8 (hC.blk _ List.mem_cons_self); clear hC; go_simp; first | done | with_reducible exact ⟨rfl, rfl⟩)
                        clear hD
                        with_reducible refine (HX.out _ hC.bel).mono ?_
                        rintro e wx ⟨rfl, hb⟩
                        exact ⟨_, rfl, hb, rfl, trivial⟩
                      rintro _ rfl
                      try simp only [Act.put, List.setIfInBounds_toArray, List.set_cons_zero, List.set_cons_succ]
                      repeat (first
                        | (refine calm_skip (by rfl) ?_; try simp only [Act.put, List.setIfInBounds_toArray, List.set_cons_zero, List.set_cons_succ])
                        | (refine calm_plain (by rfl) (by rfl) ?_; apply Exists.intro; refine ⟨fun wc hC hD => ?_, ?_⟩; (focus (clear hD; obtain ⟨c0, c1, c2, c3, c4, c5, c6, c7⟩ := box8 (hC.blk _ List.mem_cons_self); clear hC; go_simp; first | done | with_reducible rfl)); try simp only [Act.put, List.setIfInBounds_toArray, List.set_cons_zero, List.set_cons_succ]))
                      refine calm_call _ _ (by rfl) (by rfl) ?_ ?_
                      focus
                        apply Exists.intro
                        apply Exists.intro
                        refine ⟨fun wc hC hD => ?_, fun wc hC hD => ?_⟩
                        focus (clear hD; obtain ⟨c0, c1, c2, c3, c4, c5, c6, c7⟩ := box8 (hC.blk _ List.mem_cons_self); clear hC; go_simp; first | done | with_reducible exact ⟨rfl, rfl⟩)
                        clear hD
                        with_reducible refine (HT.out _ hC.bel).mono ?_
                        rintro e wx ⟨rfl, hb⟩
                        exact ⟨_, rfl, hb, rfl, trivial⟩
                      rintro _ rfl
                      try simp only [Act.put, List.setIfInBounds_toArray, List.set_cons_zero, List.set_cons_succ]
                      repeat (first
                        | (refine calm_skip (by rfl) ?_; try simp only [Act.put, List.setIfInBounds_toArray, List.set_cons_zero, List.set_cons_succ])
                        | (refine calm_plain (by rfl) (by rfl) ?_; apply Exists.intro; refine ⟨fun wc hC hD => ?_, ?_⟩; (focus (clear hD; obtain ⟨c0, c1, c2, c3, c4, c5, c6, c7⟩ := box8 (hC.blk _ List.mem_cons_self); clear hC; go_simp; first | done | with_reducible rfl)); try simp only [Act.put, List.setIfInBounds_toArray, List.set_cons_zero, List.set_cons_succ]))
                      refine calm_call _ _ (by rfl) (by rfl) ?_ ?_
                      focus
                        apply Exists.intro
                        apply Exists.intro
                        refine ⟨fun wc hC hD => ?_, fun wc hC hD => ?_⟩
                        focus (clear hD; obtain ⟨c0, c1, c2, c3, c4, c5, c6, c7⟩ := box8 (hC.blk _ List.mem_cons_self); clear hC; go_simp; first | done | with_reducible exact ⟨rfl, rfl⟩)
                        clear hD
                        with_reducible refine (HNo.out _).mono ?_
                        rintro e wx ⟨rfl, hb⟩
                        exact ⟨_, rfl, hb, rfl, trivial⟩
                      rintro _ rfl
                      try simp only [Act.put, List.setIfInBounds_toArray, List.set_cons_zero, List.set_cons_succ]
                      repeat (first
                        | (refine calm_skip (by rfl) ?_; try simp only [Act.put, List.setIfInBounds_toArray, List.set_cons_zero, List.set_cons_succ])
                        | (refine calm_plain (by rfl) (by rfl) ?_; apply Exists.intro; refine ⟨fun wc hC hD => ?_, ?_⟩; (focus (clear hD; obtain ⟨c0, c1, c2, c3, c4, c5, c6, c7⟩ := box8 (hC.blk _ List.mem_cons_self); clear hC; go_simp; first | done | with_reducible rfl)); try simp only [Act.put, List.setIfInBounds_toArray, List.set_cons_zero, List.set_cons_succ]))
                      refine calm_end ?_
                      intro w7 hL7 hF7
                      clear hF7
                      replace HL := Lib.hid hL7
                      clear hL7
                      go_wp2
                      go_roundw
                      case rel => exact ⟨k + 1, by omega, by go_num, itemsTo_step HN.out hlt (by rw [← HXX.out]; exact HE.out), HL.out.bel⟩
                      case measure => simp [intOf]; omega
                · have d4 : decide (a < 0) = false := decide_eq_false h4
                  by_cases h5 : b ≤ (k : Int)
                  · have d5 : decide (b ≤ (k : Int)) = true := decide_eq_true h5
                    have HE := Lib.hid (HNS.out (by rw [HP.out]; exact fun h => by have := h.2.2.2.2.2; omega))
                    go_upto_region 9 with fail
                    refine wp_region_calm_lg (told [(1, fun u => u = .bool true), (11, fun u => u = .int .i64 (m : Int)), (18, fun u => u = .int .i64 p)]) (by kernel_rfl) (by kernel_rfl) (told_mono _) HL.out ?_
                    repeat (first
                      | (refine calm_skip (by rfl) ?_; try simp only [Act.put, List.setIfInBounds_toArray, List.set_cons_zero, List.set_cons_succ])
                      | (refine calm_plain (by rfl) (by rfl) ?_; apply Exists.intro; refine ⟨fun wc hC hD => ?_, ?_⟩; (focus (clear hD; obtain ⟨c0, c1, c2, c3, c4, c5, c6, c7⟩ := box8 (hC.blk _ List.mem_cons_self); clear hC; go_simp; first | done | with_reducible rfl)); try simp only [Act.put, List.setIfInBounds_toArray, List.set_cons_zero, List.set_cons_succ]))
                    refine calm_call _ _ (by rfl) (by rfl) ?_ ?_
                    focus
                      apply Exists.intro
                      apply Exists.intro
                      refine ⟨fun wc hC hD => ?_, fun wc hC hD => ?_⟩
                      focus (clear hD; obtain ⟨c0, c1, c2, c3, c4, c5, c6, c7⟩ := box8 (hC.blk _ List.mem_cons_self); clear hC; go_simp; first | done | with_reducible exact ⟨rfl, rfl⟩)
                      clear hD
                      with_reducible refine (HI.out _).mono ?_
                      rintro e wx ⟨rfl, hb⟩
                      exact ⟨_, rfl, hb, rfl, trivial⟩
                    rintro _ rfl
                    try simp only [Act.put, List.setIfInBounds_toArray, List.set_cons_zero, List.set_cons_succ]
                    repeat (first
                      | (refine calm_skip (by rfl) ?_; try simp only [Act.put, List.setIfInBounds_toArray, List.set_cons_zero, List.set_cons_succ])
                      | (refine calm_plain (by rfl) (by rfl) ?_; apply Exists.intro; refine ⟨fun wc hC hD => ?_, ?_⟩; (focus (clear hD; obtain ⟨c0, c1, c2, c3, c4, c5, c6, c7⟩ := box8 (hC.blk _ List.mem_cons_self); clear hC; go_simp; first | done | with_reducible rfl)); try simp only [Act.put, List.setIfInBounds_toArray, List.set_cons_zero, List.set_cons_succ]))
                    refine calm_call _ _ (by rfl) (by rfl) ?_ ?_
                    focus
                      apply Exists.intro
                      apply Exists.intro
                      refine ⟨fun wc hC hD => ?_, fun wc hC hD => ?_⟩
                      focus (clear hD; obtain ⟨c0, c1, c2, c3, c4, c5, c6, c7⟩ := box8 (hC.blk _ List.mem_cons_self); clear hC; go_simp; first | done | with_reducible exact ⟨rfl, rfl⟩)
                      clear hD
                      with_reducible refine (HX.out _ hC.bel).mono ?_
                      rintro e wx ⟨rfl, hb⟩
                      exact ⟨_, rfl, hb, rfl, trivial⟩
                    rintro _ rfl
                    try simp only [Act.put, List.setIfInBounds_toArray, List.set_cons_zero, List.set_cons_succ]
                    repeat (first
                      | (refine calm_skip (by rfl) ?_; try simp only [Act.put, List.setIfInBounds_toArray, List.set_cons_zero, List.set_cons_succ])
                      | (refine calm_plain (by rfl) (by rfl) ?_; apply Exists.intro; refine ⟨fun wc hC hD => ?_, ?_⟩; (focus (clear hD; obtain ⟨c0, c1, c2, c3, c4, c5, c6, c7⟩ := box8 (hC.blk _ List.mem_cons_self); clear hC; go_simp; first | done | with_reducible rfl)); try simp only [Act.put, List.setIfInBounds_toArray, List.set_cons_zero, List.set_cons_succ]))
                    refine calm_call _ _ (by rfl) (by rfl) ?_ ?_
                    focus
                      apply Exists.intro
                      apply Exists.intro
                      refine ⟨fun wc hC hD => ?_, fun wc hC hD => ?_⟩
                      focus (clear hD; obtain ⟨c0, c1, c2, c3, c4, c5, c6, c7⟩ := box8 (hC.blk _ List.mem_cons_self); clear hC; go_simp; first | done | with_reducible exact ⟨rfl, rfl⟩)
                      clear hD
                      with_reducible refine (HT.out _ hC.bel).mono ?_
                      rintro e wx ⟨rfl, hb⟩
                      exact ⟨_, rfl, hb, rfl, trivial⟩
                    rintro _ rfl
                    try simp only [Act.put, List.setIfInBounds_toArray, List.set_cons_zero, List.set_cons_succ]
                    repeat (first
                      | (refine calm_skip (by rfl) ?_; try simp only [Act.put, List.setIfInBounds_toArray, List.set_cons_zero, List.set_cons_succ])
                      | (refine calm_plain (by rfl) (by rfl) ?_; apply Exists.intro; refine ⟨fun wc hC hD => ?_, ?_⟩; (focus (clear hD; obtain ⟨c0, c1, c2, c3, c4, c5, c6, c7⟩ := box8 (hC.blk _ List.mem_cons_self); clear hC; go_simp; first | done | with_reducible rfl)); try simp only [Act.put, List.setIfInBounds_toArray, List.set_cons_zero, List.set_cons_succ]))
                    refine calm_end ?_
                    intro w7 hL7 hF7
                    clear hF7
                    replace HL := Lib.hid hL7
                    clear hL7
                    go_wp2
                    go_ret
                    exact ⟨ret_bool HE.out.symm, HL.out.bel⟩
                  · have d5 : decide (b ≤ (k : Int)) = false := decide_eq_false h5
                    have HE := Lib.hid (show StandP l k x by rw [HP.out]; exact ⟨HII.out, by omega, HPP.out, by omega, fun h' => h4 h'.1, by omega⟩)
                    go_upto_region 9 with fail
                    refine wp_region_calm_lg (told [(1, fun u => u = .bool true), (11, fun u => u = .int .i64 (m : Int)), (18, fun u => u = .int .i64 p)]) (by kernel_rfl) (by kernel_rfl) (told_mono _) HL.out ?_
                    repeat (first
                      | (refine calm_skip (by rfl) ?_; try simp only [Act.put, List.setIfInBounds_toArray, List.set_cons_zero, List.set_cons_succ])
                      | (refine calm_plain (by rfl) (by rfl) ?_; apply Exists.intro; refine ⟨fun wc hC hD => ?_, ?_⟩; (focus (clear hD; obtain ⟨c0, c1, c2, c3, c4, c5, c6, c7⟩ := box8 (hC.blk _ List.mem_cons_self); clear hC; go_simp; first | done | with_reducible rfl)); try simp only [Act.put, List.setIfInBounds_toArray, List.set_cons_zero, List.set_cons_succ]))
                    refine calm_call _ _ (by rfl) (by rfl) ?_ ?_
                    focus
                      apply Exists.intro
                      apply Exists.intro
                      refine ⟨fun wc hC hD => ?_, fun wc hC hD => ?_⟩
                      focus (clear hD; obtain ⟨c0, c1, c2, c3, c4, c5, c6, c7⟩ := box8 (hC.blk _ List.mem_cons_self); clear hC; go_simp; first | done | with_reducible exact ⟨rfl, rfl⟩)
                      clear hD
                      with_reducible refine (HI.out _).mono ?_
                      rintro e wx ⟨rfl, hb⟩
                      exact ⟨_, rfl, hb, rfl, trivial⟩
                    rintro _ rfl
                    try simp only [Act.put, List.setIfInBounds_toArray, List.set_cons_zero, List.set_cons_succ]
                    repeat (first
                      | (refine calm_skip (by rfl) ?_; try simp only [Act.put, List.setIfInBounds_toArray, List.set_cons_zero, List.set_cons_succ])
                      | (refine calm_plain (by rfl) (by rfl) ?_; apply Exists.intro; refine ⟨fun wc hC hD => ?_, ?_⟩; (focus (clear hD; obtain ⟨c0, c1, c2, c3, c4, c5, c6, c7⟩ := box8 (hC.blk _ List.mem_cons_self); clear hC; go_simp; first | done | with_reducible rfl)); try simp only [Act.put, List.setIfInBounds_toArray, List.set_cons_zero, List.set_cons_succ]))
                    refine calm_call _ _ (by rfl) (by rfl) ?_ ?_
                    focus
                      apply Exists.intro
                      apply Exists.intro
                      refine ⟨fun wc hC hD => ?_, fun wc hC hD => ?_⟩
                      focus (clear hD; obtain ⟨c0, c1, c2, c3, c4, c5, c6, c7⟩ := box8 (hC.blk _ List.mem_cons_self); clear hC; go_simp; first | done | with_reducible exact ⟨rfl, rfl⟩)
                      clear hD
                      with_reducible refine (HX.out _ hC.bel).mono ?_
                      rintro e wx ⟨rfl, hb⟩
                      exact ⟨_, rfl, hb, rfl, trivial⟩
                    rintro _ rfl
                    try simp only [Act.put, List.setIfInBounds_toArray, List.set_cons_zero, List.set_cons_succ]
                    repeat (first
                      | (refine calm_skip (by rfl) ?_; try simp only [Act.put, List.setIfInBounds_toArray, List.set_cons_zero, List.set_cons_succ])
                      | (refine calm_plain (by rfl) (by rfl) ?_; apply Exists.intro; refine ⟨fun wc hC hD => ?_, ?_⟩; (focus (clear hD; obtain ⟨c0, c1, c2, c3, c4, c5, c6, c7⟩ := box8 (hC.blk _ List.mem_cons_self); clear hC; go_simp; first | done | with_reducible rfl)); try simp only [Act.put, List.setIfInBounds_toArray, List.set_cons_zero, List.set_cons_succ]))
                    refine calm_call _ _ (by rfl) (by rfl) ?_ ?_
                    focus
                      apply Exists.intro
                      apply Exists.intro
                      refine ⟨fun wc hC hD => ?_, fun wc hC hD => ?_⟩
                      focus (clear hD; obtain ⟨c0, c1, c2, c3, c4, c5, c6, c7⟩ := box8 (hC.blk _ List.mem_cons_self); clear hC; go_simp; first | done | with_reducible exact ⟨rfl, rfl⟩)
                      clear hD
                      with_reducible refine (HT.out _ hC.bel).mono ?_
                      rintro e wx ⟨rfl, hb⟩
                      exact ⟨_, rfl, hb, rfl, trivial⟩
                    rintro _ rfl
                    try simp only [Act.put, List.setIfInBounds_toArray, List.set_cons_zero, List.set_cons_succ]
                    repeat (first
                      | (refine calm_skip (by rfl) ?_; try simp only [Act.put, List.setIfInBounds_toArray, List.set_cons_zero, List.set_cons_succ])
                      | (refine calm_plain (by rfl) (by rfl) ?_; apply Exists.intro; refine ⟨fun wc hC hD => ?_, ?_⟩; (focus (clear hD; obtain ⟨c0, c1, c2, c3, c4, c5, c6, c7⟩ := box8 (hC.blk _ List.mem_cons_self); clear hC; go_simp; first | done | with_reducible rfl)); try simp only [Act.put, List.setIfInBounds_toArray, List.set_cons_zero, List.set_cons_succ]))
                    refine calm_end ?_
                    intro w7 hL7 hF7
                    clear hF7
                    replace HL := Lib.hid hL7
                    clear hL7
                    go_wp2
                    go_roundw
                    case rel => exact ⟨k + 1, by omega, by go_num, itemsTo_step HN.out hlt (by rw [← HXX.out]; exact HE.out), HL.out.bel⟩
                    case measure => simp [intOf]; omega
      · have hks : k = l.length := by omega
        subst hks
        have HE := Lib.hid (itemsB_yes (l := l) ⟨by omega, HN.out⟩)
        go_wp2
        go_ret
        exact ⟨ret_bool HE.out.symm, HB.out⟩

end Go.Proofs.Ytghiipoeedfkhaa
