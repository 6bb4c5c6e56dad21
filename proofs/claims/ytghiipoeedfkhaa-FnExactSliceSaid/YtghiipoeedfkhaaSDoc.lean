/-
  Contract of the model's test whether a doc is right.
-/
import Derived.Test.YtghiipoeedfkhaaItems
namespace Go.Proofs.Ytghiipoeedfkhaa
set_option linter.unusedSimpArgs false
set_option linter.unusedVariables false
open Go.ChangeShapes Go.WideShapes Go.ChangeAt Go.RowKit

/-- How long texts may be. -/
def TextsD (d : Dc) : Prop := (∀ x ∈ d.X, x.t.size ≤ maxLen) ∧ ∀ x ∈ d.P, x.t.size ≤ maxLen

set_option maxRecDepth 100000 in
set_option maxHeartbeats 8000000 in
theorem spec_doc (v : Value) (d : Dc) (w : World) (hv : DcAt w w.heap.size v d) (h1 : d.X.length ≤ 140737488351232) (h2 : d.P.length ≤ 140737488351232) (h3 : d.H.length ≤ 140737488351232) (ht : TextsD d) :
    Calls Try.prog 63 #[v] w (Tell (docB d) w) := by
  obtain ⟨vx, vp, vh, rfl, hx, hp, hh⟩ := hv
  have HI := Lib.hid (fun W (hb : Below w.heap.size w W) => spec_items vx d.X W ((hx.below hb).more hb.size) h1 ht.1)
  have HT := Lib.hid (fun n W (hb : Below w.heap.size w W) => spec_at vx d.X n W ((hx.below hb).more hb.size) h1)
  have HRd := Lib.hid (fun x W (hb : Below w.heap.size w W) => spec_ready vx d.X x W ((hx.below hb).more hb.size) h1)
  have HS := Lib.hid ht.2; clear ht
  obtain ⟨A1, k1, rfl⟩ := hx.form
  obtain ⟨A2, k2, rfl⟩ := hp.form
  obtain ⟨A3, k3, rfl⟩ := hh.form
  have HVP := Lib.hid hp; have HVH := Lib.hid hh
  clear hx hp hh
  have HNB := Lib.hid (fun h : ¬ DocP d => docB_no h)
  cases hi : itemsB d.X with
  | false =>
    have HE := Lib.hid (HNB.out (fun h => by rw [itemsB_yes h.1] at hi; cases hi))
    replace HI := Lib.hid (fun W hb => (HI.out W hb).mono fun _ _ h => Tell.to h hi); clear hi
    go_enter Try.func63, Try.ntmps63
    go_wp2_with fail
    refine (HI.out _ (by (repeat (first | with_reducible refine bset ?_ _ (by omega) | with_reducible refine ball ?_ _ (by first | exact Nat.le_refl _ | (simp only [World.size_alloc, World.size_setCell]; omega)) | with_reducible exact Below.refl _ _ | with_reducible refine Below.drew ?_)))).mono ?_
    rintro e w1 ⟨rfl, hb1⟩
    have HB := Lib.hid (below_alloc_call (Below.refl w.heap.size w) (Nat.le_refl _) hb1)
    clear hb1
    go_wp2
    go_ret
    exact ⟨ret_bool HE.out.symm, HB.out⟩
  | true =>
    have HIP := Lib.hid ((itemsB_iff _).1 hi)
    replace HI := Lib.hid (fun W hb => (HI.out W hb).mono fun _ _ h => Tell.to h hi); clear hi
    by_cases g2 : 20 < d.P.length
    · have g2' : (20 : Int) < (d.P.length : Int) := by omega
      have HE := Lib.hid (HNB.out (fun h => by have := h.2.1; omega))
      go_enter Try.func63, Try.ntmps63
      go_wp2_with fail
      refine (HI.out _ (by (repeat (first | with_reducible refine bset ?_ _ (by omega) | with_reducible refine ball ?_ _ (by first | exact Nat.le_refl _ | (simp only [World.size_alloc, World.size_setCell]; omega)) | with_reducible exact Below.refl _ _ | with_reducible refine Below.drew ?_)))).mono ?_
      rintro e w1 ⟨rfl, hb1⟩
      obtain ⟨x0, x1, x2⟩ := box3 (box_kept hb1)
      have HB := Lib.hid (below_alloc_call (Below.refl w.heap.size w) (Nat.le_refl _) hb1)
      clear hb1
      go_wp2
      go_ret
      exact ⟨ret_bool HE.out.symm, HB.out⟩
    · have g2' : ¬ (20 : Int) < (d.P.length : Int) := by omega
      by_cases g3 : 20 < d.H.length
      · have g3' : (20 : Int) < (d.H.length : Int) := by omega
        have HE := Lib.hid (HNB.out (fun h => by have := h.2.2.1; omega))
        go_enter Try.func63, Try.ntmps63
        go_wp2_with fail
        refine (HI.out _ (by (repeat (first | with_reducible refine bset ?_ _ (by omega) | with_reducible refine ball ?_ _ (by first | exact Nat.le_refl _ | (simp only [World.size_alloc, World.size_setCell]; omega)) | with_reducible exact Below.refl _ _ | with_reducible refine Below.drew ?_)))).mono ?_
        rintro e w1 ⟨rfl, hb1⟩
        obtain ⟨x0, x1, x2⟩ := box3 (box_kept hb1)
        have HB := Lib.hid (below_alloc_call (Below.refl w.heap.size w) (Nat.le_refl _) hb1)
        clear hb1
        go_wp2
        go_ret
        exact ⟨ret_bool HE.out.symm, HB.out⟩
      · have g3' : ¬ (20 : Int) < (d.H.length : Int) := by omega
        go_enter Try.func63, Try.ntmps63
        go_wp2_with fail
        refine (HI.out _ (by (repeat (first | with_reducible refine bset ?_ _ (by omega) | with_reducible refine ball ?_ _ (by first | exact Nat.le_refl _ | (simp only [World.size_alloc, World.size_setCell]; omega)) | with_reducible exact Below.refl _ _ | with_reducible refine Below.drew ?_)))).mono ?_
        rintro e w1 ⟨rfl, hb1⟩
        have HG := Lib.hid (box_kept hb1)
        obtain ⟨x0, x1, x2⟩ := box3 HG.out
        have HB := Lib.hid (below_alloc_call (Below.refl w.heap.size w) (Nat.le_refl _) hb1)
        clear hb1
        go_wp2
        go_loopw [3] (fun i wr => ∃ k : Nat, k ≤ d.P.length ∧ i = .int .i64 k ∧ WaitTo d.X d.P k ∧ Lg w wr [(w.heap.size, .cells #[.slice A1 d.X.length k1, .slice A2 d.P.length k2, .slice A3 d.H.length k3] 29)] []) (fun i _ => d.P.length - (intOf i).toNat)
        case atStart => exact ⟨0, Nat.zero_le _, rfl, waitTo_zero _ _, (Lg.of HB.out).know HG.out⟩
        case round =>
          clear x0 x1 x2 HG HB
          obtain ⟨k, hk, rfl, hn, hl⟩ := hrel
          have HN := Lib.hid hn; have HL := Lib.hid hl; clear hn hl
          obtain ⟨x0, x1, x2⟩ := box3 (HL.out.blk _ List.mem_cons_self)
          by_cases hlt : k < d.P.length
          · obtain ⟨ad, c', e', _, c0, c1, c2, c3, c4, c5, c6, c7⟩ := (HVP.out.below HL.out.bel).item k hlt
            simp only [Value.slice.injEq, true_and] at e'
            obtain ⟨rfl, rfl⟩ := e'
            have hxm := HS.out _ (getElem_mem' d.P k hlt)
            obtain ⟨x, hx⟩ : ∃ x, x = d.P[k] := ⟨_, rfl⟩
            rw [← hx] at c0 c1 c2 c3 c4 c5 c6 c7 hxm
            have HXX := Lib.hid hx; clear hx
            have HI := Lib.hid (fun W => spec_item x W hxm)
            clear hxm
            have HNS := Lib.hid (fun h : ¬ WaitP d.X d.P k x => HNB.out (fun hh => h (by rw [HXX.out]; exact hh.2.2.2.1 k hlt hlt)))
            replace HT := Lib.hid (HT.out x.i); replace HRd := Lib.hid (HRd.out x)
            have hp0 := at_lo d.X x.i; have hp1 := at_hi d.X x.i
            obtain ⟨p, hp⟩ : ∃ p, p = atOf d.X x.i := ⟨_, rfl⟩
            have HPP := Lib.hid hp
            rw [← hp] at HT hp0 hp1
            clear hp
            have HL1 := Lib.hid (HL.out.alloc (.cells #[.int .i64 x.i.c, .int .i64 x.i.k, .int .i64 x.l.c, .int .i64 x.l.k, .int .i64 x.r.c, .int .i64 x.r.k, .string x.t, .bool x.g] 83))
            cases hi : itemB x with
            | false =>
              replace HI := Lib.hid (fun W => (HI.out W).mono fun _ _ h => Tell.to h hi)
              have HE := Lib.hid (HNS.out (fun h => by rw [(itemB_iff x).2 h.1] at hi; cases hi))
              clear hi
              go_upto_region 7 with fail
              refine wp_region_calm_lg (told [(1, fun u => u = .bool false)]) (by kernel_rfl) (by kernel_rfl) (told_mono _) HL1.out ?_
              repeat (first
                | (refine calm_skip (by rfl) ?_; try simp only [Act.put, List.setIfInBounds_toArray, List.set_cons_zero, List.set_cons_succ])
                | (refine calm_plain (by rfl) (by rfl) ?_; apply Exists.intro; refine ⟨fun wc hC hD => ?_, ?_⟩; (focus (clear hD; obtain ⟨c0, c1, c2, c3, c4, c5, c6, c7⟩ := box8 (hC.blk _ List.mem_cons_self); obtain ⟨x0, x1, x2⟩ := box3 (hC.blk _ (List.mem_cons_of_mem _ List.mem_cons_self)); clear hC; go_simp; first | done | with_reducible rfl)); try simp only [Act.put, List.setIfInBounds_toArray, List.set_cons_zero, List.set_cons_succ]))
              refine calm_call _ _ (by rfl) (by rfl) ?_ ?_
              focus
                apply Exists.intro
                apply Exists.intro
                refine ⟨fun wc hC hD => ?_, fun wc hC hD => ?_⟩
                focus (clear hD; obtain ⟨c0, c1, c2, c3, c4, c5, c6, c7⟩ := box8 (hC.blk _ List.mem_cons_self); obtain ⟨x0, x1, x2⟩ := box3 (hC.blk _ (List.mem_cons_of_mem _ List.mem_cons_self)); clear hC; go_simp; first | done | with_reducible exact ⟨rfl, rfl⟩)
                clear hD
                with_reducible refine (HI.out _).mono ?_
                rintro e wx ⟨rfl, hb⟩
                exact ⟨_, rfl, hb, rfl, trivial⟩
              rintro _ rfl
              try simp only [Act.put, List.setIfInBounds_toArray, List.set_cons_zero, List.set_cons_succ]
              repeat (first
                | (refine calm_skip (by rfl) ?_; try simp only [Act.put, List.setIfInBounds_toArray, List.set_cons_zero, List.set_cons_succ])
                | (refine calm_plain (by rfl) (by rfl) ?_; apply Exists.intro; refine ⟨fun wc hC hD => ?_, ?_⟩; (focus (clear hD; obtain ⟨c0, c1, c2, c3, c4, c5, c6, c7⟩ := box8 (hC.blk _ List.mem_cons_self); obtain ⟨x0, x1, x2⟩ := box3 (hC.blk _ (List.mem_cons_of_mem _ List.mem_cons_self)); clear hC; go_simp; first | done | with_reducible rfl)); try simp only [Act.put, List.setIfInBounds_toArray, List.set_cons_zero, List.set_cons_succ]))
              refine calm_end ?_
              intro w7 hL7 hF7
              clear hF7
              replace HL := Lib.hid hL7
              clear hL7
              go_wp2
              go_ret
              exact ⟨ret_bool HE.out.symm, HL.out.bel⟩
            | true =>
              replace HI := Lib.hid (fun W => (HI.out W).mono fun _ _ h => Tell.to h hi)
              have HII := Lib.hid ((itemB_iff x).1 hi); clear hi
              rcases Nat.eq_zero_or_pos k with hk0 | hk0
              · have dk : decide ((0 : Int) < (k : Int)) = false := by simp [hk0]
                have dk' : decide (0 < k) = false := by simp [hk0]
                have HK := Lib.hid hk0; clear hk0
                by_cases h2 : 0 ≤ p
                · have d2 : decide ((0 : Int) ≤ p) = true := decide_eq_true h2
                  have HE := Lib.hid (HNS.out (fun h => h.2.2.1 (by rw [← HPP.out]; exact h2)))
                  go_upto_region 7 with fail
                  refine wp_region_calm_lg (told [(1, fun u => u = .bool true), (25, fun u => u = .int .i64 p)]) (by kernel_rfl) (by kernel_rfl) (told_mono _) HL1.out ?_
                  repeat (first
                    | (refine calm_skip (by rfl) ?_; try simp only [Act.put, List.setIfInBounds_toArray, List.set_cons_zero, List.set_cons_succ])
                    | (refine calm_plain (by rfl) (by rfl) ?_; apply Exists.intro; refine ⟨fun wc hC hD => ?_, ?_⟩; (focus (clear hD; obtain ⟨c0, c1, c2, c3, c4, c5, c6, c7⟩ := box8 (hC.blk _ List.mem_cons_self); obtain ⟨x0, x1, x2⟩ := box3 (hC.blk _ (List.mem_cons_of_mem _ List.mem_cons_self)); clear hC; go_simp; first | done | with_reducible rfl)); try simp only [Act.put, List.setIfInBounds_toArray, List.set_cons_zero, List.set_cons_succ]))
                  refine calm_call _ _ (by rfl) (by rfl) ?_ ?_
                  focus
                    apply Exists.intro
                    apply Exists.intro
                    refine ⟨fun wc hC hD => ?_, fun wc hC hD => ?_⟩
                    focus (clear hD; obtain ⟨c0, c1, c2, c3, c4, c5, c6, c7⟩ := box8 (hC.blk _ List.mem_cons_self); obtain ⟨x0, x1, x2⟩ := box3 (hC.blk _ (List.mem_cons_of_mem _ List.mem_cons_self)); clear hC; go_simp; first | done | with_reducible exact ⟨rfl, rfl⟩)
                    clear hD
                    with_reducible refine (HI.out _).mono ?_
                    rintro e wx ⟨rfl, hb⟩
                    exact ⟨_, rfl, hb, rfl, trivial⟩
                  rintro _ rfl
                  try simp only [Act.put, List.setIfInBounds_toArray, List.set_cons_zero, List.set_cons_succ]
                  repeat (first
                    | (refine calm_skip (by rfl) ?_; try simp only [Act.put, List.setIfInBounds_toArray, List.set_cons_zero, List.set_cons_succ])
                    | (refine calm_plain (by rfl) (by rfl) ?_; apply Exists.intro; refine ⟨fun wc hC hD => ?_, ?_⟩; (focus (clear hD; obtain ⟨c0, c1, c2, c3, c4, c5, c6, c7⟩ := box8 (hC.blk _ List.mem_cons_self); obtain ⟨x0, x1, x2⟩ := box3 (hC.blk _ (List.mem_cons_of_mem _ List.mem_cons_self)); clear hC; go_simp; first | done | with_reducible rfl)); try simp only [Act.put, List.setIfInBounds_toArray, List.set_cons_zero, List.set_cons_succ]))
                  refine calm_call _ _ (by rfl) (by rfl) ?_ ?_
                  focus
                    apply Exists.intro
                    apply Exists.intro
                    refine ⟨fun wc hC hD => ?_, fun wc hC hD => ?_⟩
                    focus (clear hD; obtain ⟨c0, c1, c2, c3, c4, c5, c6, c7⟩ := box8 (hC.blk _ List.mem_cons_self); obtain ⟨x0, x1, x2⟩ := box3 (hC.blk _ (List.mem_cons_of_mem _ List.mem_cons_self)); clear hC; go_simp; first | done | with_reducible exact ⟨rfl, rfl⟩)
                    clear hD
                    with_reducible refine (HT.out _ hC.bel).mono ?_
                    rintro e wx ⟨rfl, hb⟩
                    exact ⟨_, rfl, hb, rfl, trivial⟩
                  rintro _ rfl
                  try simp only [Act.put, List.setIfInBounds_toArray, List.set_cons_zero, List.set_cons_succ]
                  repeat (first
                    | (refine calm_skip (by rfl) ?_; try simp only [Act.put, List.setIfInBounds_toArray, List.set_cons_zero, List.set_cons_succ])
                    | (refine calm_plain (by rfl) (by rfl) ?_; apply Exists.intro; refine ⟨fun wc hC hD => ?_, ?_⟩; (focus (clear hD; obtain ⟨c0, c1, c2, c3, c4, c5, c6, c7⟩ := box8 (hC.blk _ List.mem_cons_self); obtain ⟨x0, x1, x2⟩ := box3 (hC.blk _ (List.mem_cons_of_mem _ List.mem_cons_self)); clear hC; go_simp; first | done | with_reducible rfl)); try simp only [Act.put, List.setIfInBounds_toArray, List.set_cons_zero, List.set_cons_succ]))
                  refine calm_end ?_
                  intro w7 hL7 hF7
                  clear hF7
                  replace HL := Lib.hid hL7
                  clear hL7
                  go_wp2
                  go_ret
                  exact ⟨ret_bool HE.out.symm, HL.out.bel⟩
                · have d2 : decide ((0 : Int) ≤ p) = false := decide_eq_false h2
                  cases hr : readyB d.X x with
                  | true =>
                    replace HRd := Lib.hid (fun W hb => (HRd.out W hb).mono fun _ _ h => Tell.to h hr)
                    have HE := Lib.hid (HNS.out (fun h => h.2.2.2 ((readyB_iff _ _).1 hr))); clear hr
                    go_upto_region 7 with fail
                    refine wp_region_calm_lg (told [(1, fun u => u = .bool true), (25, fun u => u = .int .i64 p), (32, fun u => u = .bool true)]) (by kernel_rfl) (by kernel_rfl) (told_mono _) HL1.out ?_
                    repeat (first
                      | (refine calm_skip (by rfl) ?_; try simp only [Act.put, List.setIfInBounds_toArray, List.set_cons_zero, List.set_cons_succ])
                      | (refine calm_plain (by rfl) (by rfl) ?_; apply Exists.intro; refine ⟨fun wc hC hD => ?_, ?_⟩; (focus (clear hD; obtain ⟨c0, c1, c2, c3, c4, c5, c6, c7⟩ := box8 (hC.blk _ List.mem_cons_self); obtain ⟨x0, x1, x2⟩ := box3 (hC.blk _ (List.mem_cons_of_mem _ List.mem_cons_self)); clear hC; go_simp; first | done | with_reducible rfl)); try simp only [Act.put, List.setIfInBounds_toArray, List.set_cons_zero, List.set_cons_succ]))
                    refine calm_call _ _ (by rfl) (by rfl) ?_ ?_
                    focus
                      apply Exists.intro
                      apply Exists.intro
                      refine ⟨fun wc hC hD => ?_, fun wc hC hD => ?_⟩
                      focus (clear hD; obtain ⟨c0, c1, c2, c3, c4, c5, c6, c7⟩ := box8 (hC.blk _ List.mem_cons_self); obtain ⟨x0, x1, x2⟩ := box3 (hC.blk _ (List.mem_cons_of_mem _ List.mem_cons_self)); clear hC; go_simp; first | done | with_reducible exact ⟨rfl, rfl⟩)
                      clear hD
                      with_reducible refine (HI.out _).mono ?_
                      rintro e wx ⟨rfl, hb⟩
                      exact ⟨_, rfl, hb, rfl, trivial⟩
                    rintro _ rfl
                    try simp only [Act.put, List.setIfInBounds_toArray, List.set_cons_zero, List.set_cons_succ]
                    repeat (first
                      | (refine calm_skip (by rfl) ?_; try simp only [Act.put, List.setIfInBounds_toArray, List.set_cons_zero, List.set_cons_succ])
                      | (refine calm_plain (by rfl) (by rfl) ?_; apply Exists.intro; refine ⟨fun wc hC hD => ?_, ?_⟩; (focus (clear hD; obtain ⟨c0, c1, c2, c3, c4, c5, c6, c7⟩ := box8 (hC.blk _ List.mem_cons_self); obtain ⟨x0, x1, x2⟩ := box3 (hC.blk _ (List.mem_cons_of_mem _ List.mem_cons_self)); clear hC; go_simp; first | done | with_reducible rfl)); try simp only [Act.put, List.setIfInBounds_toArray, List.set_cons_zero, List.set_cons_succ]))
                    refine calm_call _ _ (by rfl) (by rfl) ?_ ?_
                    focus
                      apply Exists.intro
                      apply Exists.intro
                      refine ⟨fun wc hC hD => ?_, fun wc hC hD => ?_⟩
                      focus (clear hD; obtain ⟨c0, c1, c2, c3, c4, c5, c6, c7⟩ := box8 (hC.blk _ List.mem_cons_self); obtain ⟨x0, x1, x2⟩ := box3 (hC.blk _ (List.mem_cons_of_mem _ List.mem_cons_self)); clear hC; go_simp; first | done | with_reducible exact ⟨rfl, rfl⟩)
                      clear hD
                      with_reducible refine (HT.out _ hC.bel).mono ?_
                      rintro e wx ⟨rfl, hb⟩
                      exact ⟨_, rfl, hb, rfl, trivial⟩
                    rintro _ rfl
                    try simp only [Act.put, List.setIfInBounds_toArray, List.set_cons_zero, List.set_cons_succ]
                    repeat (first
                      | (refine calm_skip (by rfl) ?_; try simp only [Act.put, List.setIfInBounds_toArray, List.set_cons_zero, List.set_cons_succ])
                      | (refine calm_plain (by rfl) (by rfl) ?_; apply Exists.intro; refine ⟨fun wc hC hD => ?_, ?_⟩; (focus (clear hD; obtain ⟨c0, c1, c2, c3, c4, c5, c6, c7⟩ := box8 (hC.blk _ List.mem_cons_self); obtain ⟨x0, x1, x2⟩ := box3 (hC.blk _ (List.mem_cons_of_mem _ List.mem_cons_self)); clear hC; go_simp; first | done | with_reducible rfl)); try simp only [Act.put, List.setIfInBounds_toArray, List.set_cons_zero, List.set_cons_succ]))
                    refine calm_call _ _ (by rfl) (by rfl) ?_ ?_
                    focus
                      apply Exists.intro
                      apply Exists.intro
                      refine ⟨fun wc hC hD => ?_, fun wc hC hD => ?_⟩
                      focus (clear hD; obtain ⟨c0, c1, c2, c3, c4, c5, c6, c7⟩ := box8 (hC.blk _ List.mem_cons_self); obtain ⟨x0, x1, x2⟩ := box3 (hC.blk _ (List.mem_cons_of_mem _ List.mem_cons_self)); clear hC; go_simp; first | done | with_reducible exact ⟨rfl, rfl⟩)
                      clear hD
                      with_reducible refine (HRd.out _ hC.bel).mono ?_
                      rintro e wx ⟨rfl, hb⟩
                      exact ⟨_, rfl, hb, rfl, trivial⟩
                    rintro _ rfl
                    try simp only [Act.put, List.setIfInBounds_toArray, List.set_cons_zero, List.set_cons_succ]
                    repeat (first
                      | (refine calm_skip (by rfl) ?_; try simp only [Act.put, List.setIfInBounds_toArray, List.set_cons_zero, List.set_cons_succ])
                      | (refine calm_plain (by rfl) (by rfl) ?_; apply Exists.intro; refine ⟨fun wc hC hD => ?_, ?_⟩; (focus (clear hD; obtain ⟨c0, c1, c2, c3, c4, c5, c6, c7⟩ := box8 (hC.blk _ List.mem_cons_self); obtain ⟨x0, x1, x2⟩ := box3 (hC.blk _ (List.mem_cons_of_mem _ List.mem_cons_self)); clear hC; go_simp; first | done | with_reducible rfl)); try simp only [Act.put, List.setIfInBounds_toArray, List.set_cons_zero, List.set_cons_succ]))
                    refine calm_end ?_
                    intro w7 hL7 hF7
                    clear hF7
                    replace HL := Lib.hid hL7
                    clear hL7
                    go_wp2
                    go_ret
                    exact ⟨ret_bool HE.out.symm, HL.out.bel⟩
                  | false =>
                    replace HRd := Lib.hid (fun W hb => (HRd.out W hb).mono fun _ _ h => Tell.to h hr)
                    have HE := Lib.hid (show WaitP d.X d.P k x from ⟨HII.out, fun j hj _ => by have := HK.out; omega, by rw [← HPP.out]; exact h2, fun h => by rw [(readyB_iff _ _).2 h] at hr; cases hr⟩); clear hr
                    go_upto_region 7 with fail
                    refine wp_region_calm_lg (told [(1, fun u => u = .bool true), (25, fun u => u = .int .i64 p), (32, fun u => u = .bool false)]) (by kernel_rfl) (by kernel_rfl) (told_mono _) HL1.out ?_
                    repeat (first
                      | (refine calm_skip (by rfl) ?_; try simp only [Act.put, List.setIfInBounds_toArray, List.set_cons_zero, List.set_cons_succ])
                      | (refine calm_plain (by rfl) (by rfl) ?_; apply Exists.intro; refine ⟨fun wc hC hD => ?_, ?_⟩; (focus (clear hD; obtain ⟨c0, c1, c2, c3, c4, c5, c6, c7⟩ := box8 (hC.blk _ List.mem_cons_self); obtain ⟨x0, x1, x2⟩ := box3 (hC.blk _ (List.mem_cons_of_mem _ List.mem_cons_self)); clear hC; go_simp; first | done | with_reducible rfl)); try simp only [Act.put, List.setIfInBounds_toArray, List.set_cons_zero, List.set_cons_succ]))
                    refine calm_call _ _ (by rfl) (by rfl) ?_ ?_
                    focus
                      apply Exists.intro
                      apply Exists.intro
                      refine ⟨fun wc hC hD => ?_, fun wc hC hD => ?_⟩
                      focus (clear hD; obtain ⟨c0, c1, c2, c3, c4, c5, c6, c7⟩ := box8 (hC.blk _ List.mem_cons_self); obtain ⟨x0, x1, x2⟩ := box3 (hC.blk _ (List.mem_cons_of_mem _ List.mem_cons_self)); clear hC; go_simp; first | done | with_reducible exact ⟨rfl, rfl⟩)
                      clear hD
                      with_reducible refine (HI.out _).mono ?_
                      rintro e wx ⟨rfl, hb⟩
                      exact ⟨_, rfl, hb, rfl, trivial⟩
                    rintro _ rfl
                    try simp only [Act.put, List.setIfInBounds_toArray, List.set_cons_zero, List.set_cons_succ]
                    repeat (first
                      | (refine calm_skip (by rfl) ?_; try simp only [Act.put, List.setIfInBounds_toArray, List.set_cons_zero, List.set_cons_succ])
                      | (refine calm_plain (by rfl) (by rfl) ?_; apply Exists.intro; refine ⟨fun wc hC hD => ?_, ?_⟩; (focus (clear hD; obtain ⟨c0, c1, c2, c3, c4, c5, c6, c7⟩ := box8 (hC.blk _ List.mem_cons_self); obtain ⟨x0, x1, x2⟩ := box3 (hC.blk _ (List.mem_cons_of_mem _ List.mem_cons_self)); clear hC; go_simp; first | done | with_reducible rfl)); try simp only [Act.put, List.setIfInBounds_toArray, List.set_cons_zero, List.set_cons_succ]))
                    refine calm_call _ _ (by rfl) (by rfl) ?_ ?_
                    focus
                      apply Exists.intro
                      apply Exists.intro
                      refine ⟨fun wc hC hD => ?_, fun wc hC hD => ?_⟩
                      focus (clear hD; obtain ⟨c0, c1, c2, c3, c4, c5, c6, c7⟩ := box8 (hC.blk _ List.mem_cons_self); obtain ⟨x0, x1, x2⟩ := box3 (hC.blk _ (List.mem_cons_of_mem _ List.mem_cons_self)); clear hC; go_simp; first | done | with_reducible exact ⟨rfl, rfl⟩)
                      clear hD
                      with_reducible refine (HT.out _ hC.bel).mono ?_
                      rintro e wx ⟨rfl, hb⟩
                      exact ⟨_, rfl, hb, rfl, trivial⟩
                    rintro _ rfl
                    try simp only [Act.put, List.setIfInBounds_toArray, List.set_cons_zero, List.set_cons_succ]
                    repeat (first
                      | (refine calm_skip (by rfl) ?_; try simp only [Act.put, List.setIfInBounds_toArray, List.set_cons_zero, List.set_cons_succ])
                      | (refine calm_plain (by rfl) (by rfl) ?_; apply Exists.intro; refine ⟨fun wc hC hD => ?_, ?_⟩; (focus (clear hD; obtain ⟨c0, c1, c2, c3, c4, c5, c6, c7⟩ := box8 (hC.blk _ List.mem_cons_self); obtain ⟨x0, x1, x2⟩ := box3 (hC.blk _ (List.mem_cons_of_mem _ List.mem_cons_self)); clear hC; go_simp; first | done | with_reducible rfl)); try simp only [Act.put, List.setIfInBounds_toArray, List.set_cons_zero, List.set_cons_succ]))
                    refine calm_call _ _ (by rfl) (by rfl) ?_ ?_
                    focus
                      apply Exists.intro
                      apply Exists.intro
                      refine ⟨fun wc hC hD => ?_, fun wc hC hD => ?_⟩
                      focus (clear hD; obtain ⟨c0, c1, c2, c3, c4, c5, c6, c7⟩ := box8 (hC.blk _ List.mem_cons_self); obtain ⟨x0, x1, x2⟩ := box3 (hC.blk _ (List.mem_cons_of_mem _ List.mem_cons_self)); clear hC; go_simp; first | done | with_reducible exact ⟨rfl, rfl⟩)
                      clear hD
                      with_reducible refine (HRd.out _ hC.bel).mono ?_
                      rintro e wx ⟨rfl, hb⟩
                      exact ⟨_, rfl, hb, rfl, trivial⟩
                    rintro _ rfl
                    try simp only [Act.put, List.setIfInBounds_toArray, List.set_cons_zero, List.set_cons_succ]
                    repeat (first
                      | (refine calm_skip (by rfl) ?_; try simp only [Act.put, List.setIfInBounds_toArray, List.set_cons_zero, List.set_cons_succ])
                      | (refine calm_plain (by rfl) (by rfl) ?_; apply Exists.intro; refine ⟨fun wc hC hD => ?_, ?_⟩; (focus (clear hD; obtain ⟨c0, c1, c2, c3, c4, c5, c6, c7⟩ := box8 (hC.blk _ List.mem_cons_self); obtain ⟨x0, x1, x2⟩ := box3 (hC.blk _ (List.mem_cons_of_mem _ List.mem_cons_self)); clear hC; go_simp; first | done | with_reducible rfl)); try simp only [Act.put, List.setIfInBounds_toArray, List.set_cons_zero, List.set_cons_succ]))
                    refine calm_end ?_
                    intro w7 hL7 hF7
                    clear hF7
                    replace HL := Lib.hid hL7
                    clear hL7
                    go_wp2
                    go_roundw
                    case rel => exact ⟨k + 1, by omega, by go_num, waitTo_step HN.out hlt (by rw [← HXX.out]; exact HE.out), ⟨HL.out.bel, fun p hp => HL.out.blk p (List.mem_cons_of_mem _ hp), fun _ h => absurd h (by simp), fun _ h => absurd h (by simp)⟩⟩
                    case measure => simp [intOf]; omega
              · obtain ⟨j, hj⟩ : ∃ j, k = j + 1 := ⟨k - 1, by omega⟩
                have hjl : j < d.P.length := by omega
                have dk : decide ((0 : Int) < (k : Int)) = true := by simp; omega
                have dk' : decide (0 < k) = true := by simp; omega
                have ek : (k : Int) - 1 = (j : Int) := by omega
                have ew : IntKind.i64.wrap (j : Int) = (j : Int) := IntWalk.i64_in _ (by omega)
                have HJ := Lib.hid hj; clear hj
                obtain ⟨y, hy⟩ : ∃ y, y = d.P[j] := ⟨_, rfl⟩
                have HVJ := Lib.hid (fun W (hb : Below w.heap.size w W) => (HVP.out.below hb).item j hjl)
                rw [← hy] at HVJ
                have HYY := Lib.hid hy; clear hy
                cases hs : lessB y.i x.i with
                | false =>
                  have HLe := Lib.hid (fun W => (spec_less y.i x.i W).mono fun _ _ h => Tell.to h hs)
                  have HE := Lib.hid (HNS.out (fun h => by have h' := h.2.1 j HJ.out hjl; rw [← HYY.out] at h'; rw [(lessB_iff _ _).2 h'] at hs; cases hs)); clear hs
                  go_upto_region 7 with fail
                  refine wp_region_calm_lg (told [(1, fun u => u = .bool true), (16, fun u => u = .bool false)]) (by kernel_rfl) (by kernel_rfl) (told_mono _) HL1.out ?_
                  repeat (first
                    | (refine calm_skip (by rfl) ?_; try simp only [Act.put, List.setIfInBounds_toArray, List.set_cons_zero, List.set_cons_succ])
                    | (refine calm_plain (by rfl) (by rfl) ?_; apply Exists.intro; refine ⟨fun wc hC hD => ?_, ?_⟩; (focus (clear hD; obtain ⟨c0, c1, c2, c3, c4, c5, c6, c7⟩ := box8 (hC.blk _ List.mem_cons_self); obtain ⟨x0, x1, x2⟩ := box3 (hC.blk _ (List.mem_cons_of_mem _ List.mem_cons_self)); obtain ⟨ad', c', e', -, y0, y1, -, -, -, -, -, -⟩ := HVJ.out _ hC.bel; simp only [Value.slice.injEq, true_and] at e'; obtain ⟨e1, e2⟩ := e'; cases e1; clear e2; clear hC; go_simp; first | done | with_reducible rfl)); try simp only [Act.put, List.setIfInBounds_toArray, List.set_cons_zero, List.set_cons_succ]))
                  refine calm_call _ _ (by rfl) (by rfl) ?_ ?_
                  focus
                    apply Exists.intro
                    apply Exists.intro
                    refine ⟨fun wc hC hD => ?_, fun wc hC hD => ?_⟩
                    focus (clear hD; obtain ⟨c0, c1, c2, c3, c4, c5, c6, c7⟩ := box8 (hC.blk _ List.mem_cons_self); obtain ⟨x0, x1, x2⟩ := box3 (hC.blk _ (List.mem_cons_of_mem _ List.mem_cons_self)); obtain ⟨ad', c', e', -, y0, y1, -, -, -, -, -, -⟩ := HVJ.out _ hC.bel; simp only [Value.slice.injEq, true_and] at e'; obtain ⟨e1, e2⟩ := e'; cases e1; clear e2; clear hC; go_simp; first | done | with_reducible exact ⟨rfl, rfl⟩)
                    clear hD
                    with_reducible refine (HI.out _).mono ?_
                    rintro e wx ⟨rfl, hb⟩
                    exact ⟨_, rfl, hb, rfl, trivial⟩
                  rintro _ rfl
                  try simp only [Act.put, List.setIfInBounds_toArray, List.set_cons_zero, List.set_cons_succ]
                  repeat (first
                    | (refine calm_skip (by rfl) ?_; try simp only [Act.put, List.setIfInBounds_toArray, List.set_cons_zero, List.set_cons_succ])
                    | (refine calm_plain (by rfl) (by rfl) ?_; apply Exists.intro; refine ⟨fun wc hC hD => ?_, ?_⟩; (focus (clear hD; obtain ⟨c0, c1, c2, c3, c4, c5, c6, c7⟩ := box8 (hC.blk _ List.mem_cons_self); obtain ⟨x0, x1, x2⟩ := box3 (hC.blk _ (List.mem_cons_of_mem _ List.mem_cons_self)); obtain ⟨ad', c', e', -, y0, y1, -, -, -, -, -, -⟩ := HVJ.out _ hC.bel; simp only [Value.slice.injEq, true_and] at e'; obtain ⟨e1, e2⟩ := e'; cases e1; clear e2; clear hC; go_simp; first | done | with_reducible rfl)); try simp only [Act.put, List.setIfInBounds_toArray, List.set_cons_zero, List.set_cons_succ]))
                  refine calm_call _ _ (by rfl) (by rfl) ?_ ?_
                  focus
                    apply Exists.intro
                    apply Exists.intro
                    refine ⟨fun wc hC hD => ?_, fun wc hC hD => ?_⟩
                    focus (clear hD; obtain ⟨c0, c1, c2, c3, c4, c5, c6, c7⟩ := box8 (hC.blk _ List.mem_cons_self); obtain ⟨x0, x1, x2⟩ := box3 (hC.blk _ (List.mem_cons_of_mem _ List.mem_cons_self)); obtain ⟨ad', c', e', -, y0, y1, -, -, -, -, -, -⟩ := HVJ.out _ hC.bel; simp only [Value.slice.injEq, true_and] at e'; obtain ⟨e1, e2⟩ := e'; cases e1; clear e2; clear hC; go_simp; first | done | with_reducible exact ⟨rfl, rfl⟩)
                    clear hD
                    with_reducible refine (HLe.out _).mono ?_
                    rintro e wx ⟨rfl, hb⟩
                    exact ⟨_, rfl, hb, rfl, trivial⟩
                  rintro _ rfl
                  try simp only [Act.put, List.setIfInBounds_toArray, List.set_cons_zero, List.set_cons_succ]
                  repeat (first
                    | (refine calm_skip (by rfl) ?_; try simp only [Act.put, List.setIfInBounds_toArray, List.set_cons_zero, List.set_cons_succ])
                    | (refine calm_plain (by rfl) (by rfl) ?_; apply Exists.intro; refine ⟨fun wc hC hD => ?_, ?_⟩; (focus (clear hD; obtain ⟨c0, c1, c2, c3, c4, c5, c6, c7⟩ := box8 (hC.blk _ List.mem_cons_self); obtain ⟨x0, x1, x2⟩ := box3 (hC.blk _ (List.mem_cons_of_mem _ List.mem_cons_self)); obtain ⟨ad', c', e', -, y0, y1, -, -, -, -, -, -⟩ := HVJ.out _ hC.bel; simp only [Value.slice.injEq, true_and] at e'; obtain ⟨e1, e2⟩ := e'; cases e1; clear e2; clear hC; go_simp; first | done | with_reducible rfl)); try simp only [Act.put, List.setIfInBounds_toArray, List.set_cons_zero, List.set_cons_succ]))
                  refine calm_end ?_
                  intro w7 hL7 hF7
                  clear hF7
                  replace HL := Lib.hid hL7
                  clear hL7
                  go_wp2
                  go_ret
                  exact ⟨ret_bool HE.out.symm, HL.out.bel⟩
                | true =>
                  have HLe := Lib.hid (fun W => (spec_less y.i x.i W).mono fun _ _ h => Tell.to h hs)
                  have HSS := Lib.hid ((lessB_iff _ _).1 hs); clear hs
                  by_cases h2 : 0 ≤ p
                  · have d2 : decide ((0 : Int) ≤ p) = true := decide_eq_true h2
                    have HE := Lib.hid (HNS.out (fun h => h.2.2.1 (by rw [← HPP.out]; exact h2)))
                    go_upto_region 7 with fail
                    refine wp_region_calm_lg (told [(1, fun u => u = .bool true), (16, fun u => u = .bool true), (25, fun u => u = .int .i64 p)]) (by kernel_rfl) (by kernel_rfl) (told_mono _) HL1.out ?_
                    repeat (first
                      | (refine calm_skip (by rfl) ?_; try simp only [Act.put, List.setIfInBounds_toArray, List.set_cons_zero, List.set_cons_succ])
                      | (refine calm_plain (by rfl) (by rfl) ?_; apply Exists.intro; refine ⟨fun wc hC hD => ?_, ?_⟩; (focus (clear hD; obtain ⟨c0, c1, c2, c3, c4, c5, c6, c7⟩ := box8 (hC.blk _ List.mem_cons_self); obtain ⟨x0, x1, x2⟩ := box3 (hC.blk _ (List.mem_cons_of_mem _ List.mem_cons_self)); obtain ⟨ad', c', e', -, y0, y1, -, -, -, -, -, -⟩ := HVJ.out _ hC.bel; simp only [Value.slice.injEq, true_and] at e'; obtain ⟨e1, e2⟩ := e'; cases e1; clear e2; clear hC; go_simp; first | done | with_reducible rfl)); try simp only [Act.put, List.setIfInBounds_toArray, List.set_cons_zero, List.set_cons_succ]))
                    refine calm_call _ _ (by rfl) (by rfl) ?_ ?_
                    focus
                      apply Exists.intro
                      apply Exists.intro
                      refine ⟨fun wc hC hD => ?_, fun wc hC hD => ?_⟩
                      focus (clear hD; obtain ⟨c0, c1, c2, c3, c4, c5, c6, c7⟩ := box8 (hC.blk _ List.mem_cons_self); obtain ⟨x0, x1, x2⟩ := box3 (hC.blk _ (List.mem_cons_of_mem _ List.mem_cons_self)); obtain ⟨ad', c', e', -, y0, y1, -, -, -, -, -, -⟩ := HVJ.out _ hC.bel; simp only [Value.slice.injEq, true_and] at e'; obtain ⟨e1, e2⟩ := e'; cases e1; clear e2; clear hC; go_simp; first | done | with_reducible exact ⟨rfl, rfl⟩)
                      clear hD
                      with_reducible refine (HI.out _).mono ?_
                      rintro e wx ⟨rfl, hb⟩
                      exact ⟨_, rfl, hb, rfl, trivial⟩
                    rintro _ rfl
                    try simp only [Act.put, List.setIfInBounds_toArray, List.set_cons_zero, List.set_cons_succ]
                    repeat (first
                      | (refine calm_skip (by rfl) ?_; try simp only [Act.put, List.setIfInBounds_toArray, List.set_cons_zero, List.set_cons_succ])
                      | (refine calm_plain (by rfl) (by rfl) ?_; apply Exists.intro; refine ⟨fun wc hC hD => ?_, ?_⟩; (focus (clear hD; obtain ⟨c0, c1, c2, c3, c4, c5, c6, c7⟩ := box8 (hC.blk _ List.mem_cons_self); obtain ⟨x0, x1, x2⟩ := box3 (hC.blk _ (List.mem_cons_of_mem _ List.mem_cons_self)); obtain ⟨ad', c', e', -, y0, y1, -, -, -, -, -, -⟩ := HVJ.out _ hC.bel; simp only [Value.slice.injEq, true_and] at e'; obtain ⟨e1, e2⟩ := e'; cases e1; clear e2; clear hC; go_simp; first | done | with_reducible rfl)); try simp only [Act.put, List.setIfInBounds_toArray, List.set_cons_zero, List.set_cons_succ]))
                    refine calm_call _ _ (by rfl) (by rfl) ?_ ?_
                    focus
                      apply Exists.intro
                      apply Exists.intro
                      refine ⟨fun wc hC hD => ?_, fun wc hC hD => ?_⟩
                      focus (clear hD; obtain ⟨c0, c1, c2, c3, c4, c5, c6, c7⟩ := box8 (hC.blk _ List.mem_cons_self); obtain ⟨x0, x1, x2⟩ := box3 (hC.blk _ (List.mem_cons_of_mem _ List.mem_cons_self)); obtain ⟨ad', c', e', -, y0, y1, -, -, -, -, -, -⟩ := HVJ.out _ hC.bel; simp only [Value.slice.injEq, true_and] at e'; obtain ⟨e1, e2⟩ := e'; cases e1; clear e2; clear hC; go_simp; first | done | with_reducible exact ⟨rfl, rfl⟩)
                      clear hD
                      with_reducible refine (HLe.out _).mono ?_
                      rintro e wx ⟨rfl, hb⟩
                      exact ⟨_, rfl, hb, rfl, trivial⟩
                    rintro _ rfl
                    try simp only [Act.put, List.setIfInBounds_toArray, List.set_cons_zero, List.set_cons_succ]
                    repeat (first
                      | (refine calm_skip (by rfl) ?_; try simp only [Act.put, List.setIfInBounds_toArray, List.set_cons_zero, List.set_cons_succ])
                      | (refine calm_plain (by rfl) (by rfl) ?_; apply Exists.intro; refine ⟨fun wc hC hD => ?_, ?_⟩; (focus (clear hD; obtain ⟨c0, c1, c2, c3, c4, c5, c6, c7⟩ := box8 (hC.blk _ List.mem_cons_self); obtain ⟨x0, x1, x2⟩ := box3 (hC.blk _ (List.mem_cons_of_mem _ List.mem_cons_self)); obtain ⟨ad', c', e', -, y0, y1, -, -, -, -, -, -⟩ := HVJ.out _ hC.bel; simp only [Value.slice.injEq, true_and] at e'; obtain ⟨e1, e2⟩ := e'; cases e1; clear e2; clear hC; go_simp; first | done | with_reducible rfl)); try simp only [Act.put, List.setIfInBounds_toArray, List.set_cons_zero, List.set_cons_succ]))
                    refine calm_call _ _ (by rfl) (by rfl) ?_ ?_
                    focus
                      apply Exists.intro
                      apply Exists.intro
                      refine ⟨fun wc hC hD => ?_, fun wc hC hD => ?_⟩
                      focus (clear hD; obtain ⟨c0, c1, c2, c3, c4, c5, c6, c7⟩ := box8 (hC.blk _ List.mem_cons_self); obtain ⟨x0, x1, x2⟩ := box3 (hC.blk _ (List.mem_cons_of_mem _ List.mem_cons_self)); obtain ⟨ad', c', e', -, y0, y1, -, -, -, -, -, -⟩ := HVJ.out _ hC.bel; simp only [Value.slice.injEq, true_and] at e'; obtain ⟨e1, e2⟩ := e'; cases e1; clear e2; clear hC; go_simp; first | done | with_reducible exact ⟨rfl, rfl⟩)
                      clear hD
                      with_reducible refine (HT.out _ hC.bel).mono ?_
                      rintro e wx ⟨rfl, hb⟩
                      exact ⟨_, rfl, hb, rfl, trivial⟩
                    rintro _ rfl
                    try simp only [Act.put, List.setIfInBounds_toArray, List.set_cons_zero, List.set_cons_succ]
                    repeat (first
                      | (refine calm_skip (by rfl) ?_; try simp only [Act.put, List.setIfInBounds_toArray, List.set_cons_zero, List.set_cons_succ])
                      | (refine calm_plain (by rfl) (by rfl) ?_; apply Exists.intro; refine ⟨fun wc hC hD => ?_, ?_⟩; (focus (clear hD; obtain ⟨c0, c1, c2, c3, c4, c5, c6, c7⟩ := box8 (hC.blk _ List.mem_cons_self); obtain ⟨x0, x1, x2⟩ := box3 (hC.blk _ (List.mem_cons_of_mem _ List.mem_cons_self)); obtain ⟨ad', c', e', -, y0, y1, -, -, -, -, -, -⟩ := HVJ.out _ hC.bel; simp only [Value.slice.injEq, true_and] at e'; obtain ⟨e1, e2⟩ := e'; cases e1; clear e2; clear hC; go_simp; first | done | with_reducible rfl)); try simp only [Act.put, List.setIfInBounds_toArray, List.set_cons_zero, List.set_cons_succ]))
                    refine calm_end ?_
                    intro w7 hL7 hF7
                    clear hF7
                    replace HL := Lib.hid hL7
                    clear hL7
                    go_wp2
                    go_ret
                    exact ⟨ret_bool HE.out.symm, HL.out.bel⟩
                  · have d2 : decide ((0 : Int) ≤ p) = false := decide_eq_false h2
                    cases hr : readyB d.X x with
                    | true =>
                      replace HRd := Lib.hid (fun W hb => (HRd.out W hb).mono fun _ _ h => Tell.to h hr)
                      have HE := Lib.hid (HNS.out (fun h => h.2.2.2 ((readyB_iff _ _).1 hr))); clear hr
                      go_upto_region 7 with fail
                      refine wp_region_calm_lg (told [(1, fun u => u = .bool true), (16, fun u => u = .bool true), (25, fun u => u = .int .i64 p), (32, fun u => u = .bool true)]) (by kernel_rfl) (by kernel_rfl) (told_mono _) HL1.out ?_
                      repeat (first
                        | (refine calm_skip (by rfl) ?_; try simp only [Act.put, List.setIfInBounds_toArray, List.set_cons_zero, List.set_cons_succ])
                        | (refine calm_plain (by rfl) (by rfl) ?_; apply Exists.intro; refine ⟨fun wc hC hD => ?_, ?_⟩; (focus (clear hD; obtain ⟨c0, c1, c2, c3, c4, c5, c6, c7⟩ := box8 (hC.blk _ List.mem_cons_self); obtain ⟨x0, x1, x2⟩ := box3 (hC.blk _ (List.mem_cons_of_mem _ List.mem_cons_self)); obtain ⟨ad', c', e', -, y0, y1, -, -, -, -, -, -⟩ := HVJ.out _ hC.bel; simp only [Value.slice.injEq, true_and] at e'; obtain ⟨e1, e2⟩ := e'; cases e1; clear e2; clear hC; go_simp; first | done | with_reducible rfl)); try simp only [Act.put, List.setIfInBounds_toArray, List.set_cons_zero, List.set_cons_succ]))
                      refine calm_call _ _ (by rfl) (by rfl) ?_ ?_
                      focus
                        apply Exists.intro
                        apply Exists.intro
                        refine ⟨fun wc hC hD => ?_, fun wc hC hD => ?_⟩
                        focus (clear hD; obtain ⟨c0, c1, c2, c3, c4, c5, c6, c7⟩ := box8 (hC.blk _ List.mem_cons_self); obtain ⟨x0, x1, x2⟩ := box3 (hC.blk _ (List.mem_cons_of_mem _ List.mem_cons_self)); obtain ⟨ad', c', e', -, y0, y1, -, -, -, -, -, -⟩ := HVJ.out _ hC.bel; simp only [Value.slice.injEq, true_and] at e'; obtain ⟨e1, e2⟩ := e'; cases e1; clear e2; clear hC; go_simp; first | done | with_reducible exact ⟨rfl, rfl⟩)
                        clear hD
                        with_reducible refine (HI.out _).mono ?_
                        rintro e wx ⟨rfl, hb⟩
                        exact ⟨_, rfl, hb, rfl, trivial⟩
                      rintro _ rfl
                      try simp only [Act.put, List.setIfInBounds_toArray, List.set_cons_zero, List.set_cons_succ]
                      repeat (first
                        | (refine calm_skip (by rfl) ?_; try simp only [Act.put, List.setIfInBounds_toArray, List.set_cons_zero, List.set_cons_succ])
                        | (refine calm_plain (by rfl) (by rfl) ?_; apply Exists.intro; refine ⟨fun wc hC hD => ?_, ?_⟩; (focus (clear hD; obtain ⟨c0, c1, c2, c3, c4, c5, c6, c7⟩ := box8 (hC.blk _ List.mem_cons_self); obtain ⟨x0, x1, x2⟩ := box3 (hC.blk _ (List.mem_cons_of_mem _ List.mem_cons_self)); obtain ⟨ad', c', e', -, y0, y1, -, -, -, -, -, -⟩ := HVJ.out _ hC.bel; simp only [Value.slice.injEq, true_and] at e'; obtain ⟨e1, e2⟩ := e'; cases e1; clear e2; clear hC; go_simp; first | done | with_reducible rfl)); try simp only [Act.put, List.setIfInBounds_toArray, List.set_cons_zero, List.set_cons_succ]))
                      refine calm_call _ _ (by rfl) (by rfl) ?_ ?_
                      focus
                        apply Exists.intro
                        apply Exists.intro
                        refine ⟨fun wc hC hD => ?_, fun wc hC hD => ?_⟩
                        focus (clear hD; obtain ⟨c0, c1, c2, c3, c4, c5, c6, c7⟩ := box8 (hC.blk _ List.mem_cons_self); obtain ⟨x0, x1, x2⟩ := box3 (hC.blk _ (List.mem_cons_of_mem _ List.mem_cons_self)); obtain ⟨ad', c', e', -, y0, y1, -, -, -, -, -, -⟩ := HVJ.out _ hC.bel; simp only [Value.slice.injEq, true_and] at e'; obtain ⟨e1, e2⟩ := e'; cases e1; clear e2; clear hC; go_simp; first | done | with_reducible exact ⟨rfl, rfl⟩)
                        clear hD
                        with_reducible refine (HLe.out _).mono ?_
                        rintro e wx ⟨rfl, hb⟩
                        exact ⟨_, rfl, hb, rfl, trivial⟩
                      rintro _ rfl
                      try simp only [Act.put, List.setIfInBounds_toArray, List.set_cons_zero, List.set_cons_succ]
                      repeat (first
                        | (refine calm_skip (by rfl) ?_; try simp only [Act.put, List.setIfInBounds_toArray, List.set_cons_zero, List.set_cons_succ])
                        | (refine calm_plain (by rfl) (by rfl) ?_; apply Exists.intro; refine ⟨fun wc hC hD => ?_, ?_⟩; (focus (clear hD; obtain ⟨c0, c1, c2, c3, c4, c5, c6, c7⟩ := box8 (hC.blk _ List.mem_cons_self); obtain ⟨x0, x1, x2⟩ := box3 (hC.blk _ (List.mem_cons_of_mem _ List.mem_cons_self)); obtain ⟨ad', c', e', -, y0, y1, -, -, -, -, -, -⟩ := HVJ.out _ hC.bel; simp only [Value.slice.injEq, true_and] at e'; obtain ⟨e1, e2⟩ := e'; cases e1; clear e2; clear hC; go_simp; first | done | with_reducible rfl)); try simp only [Act.put, List.setIfInBounds_toArray, List.set_cons_zero, List.set_cons_succ]))
                      refine calm_call _ _ (by rfl) (by rfl) ?_ ?_
                      focus
                        apply Exists.intro
                        apply Exists.intro
                        refine ⟨fun wc hC hD => ?_, fun wc hC hD => ?_⟩
                        focus (clear hD; obtain ⟨c0, c1, c2, c3, c4, c5, c6, c7⟩ := box8 (hC.blk _ List.mem_cons_self); obtain ⟨x0, x1, x2⟩ := box3 (hC.blk _ (List.mem_cons_of_mem _ List.mem_cons_self)); obtain ⟨ad', c', e', -, y0, y1, -, -, -, -, -, -⟩ := HVJ.out _ hC.bel; simp only [Value.slice.injEq, true_and] at e'; obtain ⟨e1, e2⟩ := e'; cases e1; clear e2; clear hC; go_simp; first | done | with_reducible exact ⟨rfl, rfl⟩)
                        clear hD
                        with_reducible refine (HT.out _ hC.bel).mono ?_
                        rintro e wx ⟨rfl, hb⟩
                        exact ⟨_, rfl, hb, rfl, trivial⟩
                      rintro _ rfl
                      try simp only [Act.put, List.setIfInBounds_toArray, List.set_cons_zero, List.set_cons_succ]
                      repeat (first
                        | (refine calm_skip (by rfl) ?_; try simp only [Act.put, List.setIfInBounds_toArray, List.set_cons_zero, List.set_cons_succ])
                        | (refine calm_plain (by rfl) (by rfl) ?_; apply Exists.intro; refine ⟨fun wc hC hD => ?_, ?_⟩; (focus (clear hD; obtain ⟨c0, c1, c2, c3, c4, c5, c6, c7⟩ := box8 (hC.blk _ List.mem_cons_self); obtain ⟨x0, x1, x2⟩ := box3 (hC.blk _ (List.mem_cons_of_mem _ List.mem_cons_self)); obtain ⟨ad', c', e', -, y0, y1, -, -, -, -, -, -⟩ := HVJ.out _ hC.bel; simp only [Value.slice.injEq, true_and] at e'; obtain ⟨e1, e2⟩ := e'; cases e1; clear e2; clear hC; go_simp; first | done | with_reducible rfl)); try simp only [Act.put, List.setIfInBounds_toArray, List.set_cons_zero, List.set_cons_succ]))
                      refine calm_call _ _ (by rfl) (by rfl) ?_ ?_
                      focus
                        apply Exists.intro
                        apply Exists.intro
                        refine ⟨fun wc hC hD => ?_, fun wc hC hD => ?_⟩
                        focus (clear hD; obtain ⟨c0, c1, c2, c3, c4, c5, c6, c7⟩ := box8 (hC.blk _ List.mem_cons_self); obtain ⟨x0, x1, x2⟩ := box3 (hC.blk _ (List.mem_cons_of_mem _ List.mem_cons_self)); obtain ⟨ad', c', e', -, y0, y1, -, -, -, -, -, -⟩ := HVJ.out _ hC.bel; simp only [Value.slice.injEq, true_and] at e'; obtain ⟨e1, e2⟩ := e'; cases e1; clear e2; clear hC; go_simp; first | done | with_reducible exact ⟨rfl, rfl⟩)
                        clear hD
                        with_reducible refine (HRd.out _ hC.bel).mono ?_
                        rintro e wx ⟨rfl, hb⟩
                        exact ⟨_, rfl, hb, rfl, trivial⟩
                      rintro _ rfl
                      try simp only [Act.put, List.setIfInBounds_toArray, List.set_cons_zero, List.set_cons_succ]
                      repeat (first
                        | (refine calm_skip (by rfl) ?_; try simp only [Act.put, List.setIfInBounds_toArray, List.set_cons_zero, List.set_cons_succ])
                        | (refine calm_plain (by rfl) (by rfl) ?_; apply Exists.intro; refine ⟨fun wc hC hD => ?_, ?_⟩; (focus (clear hD; obtain ⟨c0, c1, c2, c3, c4, c5, c6, c7⟩ := box8 (hC.blk _ List.mem_cons_self); obtain ⟨x0, x1, x2⟩ := box3 (hC.blk _ (List.mem_cons_of_mem _ List.mem_cons_self)); obtain ⟨ad', c', e', -, y0, y1, -, -, -, -, -, -⟩ := HVJ.out _ hC.bel; simp only [Value.slice.injEq, true_and] at e'; obtain ⟨e1, e2⟩ := e'; cases e1; clear e2; clear hC; go_simp; first | done | with_reducible rfl)); try simp only [Act.put, List.setIfInBounds_toArray, List.set_cons_zero, List.set_cons_succ]))
                      refine calm_end ?_
                      intro w7 hL7 hF7
                      clear hF7
                      replace HL := Lib.hid hL7
                      clear hL7
                      go_wp2
                      go_ret
                      exact ⟨ret_bool HE.out.symm, HL.out.bel⟩
                    | false =>
                      replace HRd := Lib.hid (fun W hb => (HRd.out W hb).mono fun _ _ h => Tell.to h hr)
                      have HE := Lib.hid (show WaitP d.X d.P k x from ⟨HII.out, fun j' hj' h' => by
                        have e : j' = j := by have := HJ.out; omega
                        subst e; rw [← HYY.out]; exact HSS.out, by rw [← HPP.out]; exact h2, fun h => by rw [(readyB_iff _ _).2 h] at hr; cases hr⟩); clear hr
                      go_upto_region 7 with fail
                      refine wp_region_calm_lg (told [(1, fun u => u = .bool true), (16, fun u => u = .bool true), (25, fun u => u = .int .i64 p), (32, fun u => u = .bool false)]) (by kernel_rfl) (by kernel_rfl) (told_mono _) HL1.out ?_
                      repeat (first
                        | (refine calm_skip (by rfl) ?_; try simp only [Act.put, List.setIfInBounds_toArray, List.set_cons_zero, List.set_cons_succ])
                        | (refine calm_plain (by rfl) (by rfl) ?_; apply Exists.intro; refine ⟨fun wc hC hD => ?_, ?_⟩; (focus (clear hD; obtain ⟨c0, c1, c2, c3, c4, c5, c6, c7⟩ := box8 (hC.blk _ List.mem_cons_self); obtain ⟨x0, x1, x2⟩ := box3 (hC.blk _ (List.mem_cons_of_mem _ List.mem_cons_self)); obtain ⟨ad', c', e', -, y0, y1, -, -, -, -, -, -⟩ := HVJ.out _ hC.bel; simp only [Value.slice.injEq, true_and] at e'; obtain ⟨e1, e2⟩ := e'; cases e1; clear e2; clear hC; go_simp; first | done | with_reducible rfl)); try simp only [Act.put, List.setIfInBounds_toArray, List.set_cons_zero, List.set_cons_succ]))
                      refine calm_call _ _ (by rfl) (by rfl) ?_ ?_
                      focus
                        apply Exists.intro
                        apply Exists.intro
                        refine ⟨fun wc hC hD => ?_, fun wc hC hD => ?_⟩
                        focus (clear hD; obtain ⟨c0, c1, c2, c3, c4, c5, c6, c7⟩ := box8 (hC.blk _ List.mem_cons_self); obtain ⟨x0, x1, x2⟩ := box3 (hC.blk _ (List.mem_cons_of_mem _ List.mem_cons_self)); obtain ⟨ad', c', e', -, y0, y1, -, -, -, -, -, -⟩ := HVJ.out _ hC.bel; simp only [Value.slice.injEq, true_and] at e'; obtain ⟨e1, e2⟩ := e'; cases e1; clear e2; clear hC; go_simp; first | done | with_reducible exact ⟨rfl, rfl⟩)
                        clear hD
                        with_reducible refine (HI.out _).mono ?_
                        rintro e wx ⟨rfl, hb⟩
                        exact ⟨_, rfl, hb, rfl, trivial⟩
                      rintro _ rfl
                      try simp only [Act.put, List.setIfInBounds_toArray, List.set_cons_zero, List.set_cons_succ]
                      repeat (first
                        | (refine calm_skip (by rfl) ?_; try simp only [Act.put, List.setIfInBounds_toArray, List.set_cons_zero, List.set_cons_succ])
                        | (refine calm_plain (by rfl) (by rfl) ?_; apply Exists.intro; refine ⟨fun wc hC hD => ?_, ?_⟩; (focus (clear hD; obtain ⟨c0, c1, c2, c3, c4, c5, c6, c7⟩ := box8 (hC.blk _ List.mem_cons_self); obtain ⟨x0, x1, x2⟩ := box3 (hC.blk _ (List.mem_cons_of_mem _ List.mem_cons_self)); obtain ⟨ad', c', e', -, y0, y1, -, -, -, -, -, -⟩ := HVJ.out _ hC.bel; simp only [Value.slice.injEq, true_and] at e'; obtain ⟨e1, e2⟩ := e'; cases e1; clear e2; clear hC; go_simp; first | done | with_reducible rfl)); try simp only [Act.put, List.setIfInBounds_toArray, List.set_cons_zero, List.set_cons_succ]))
                      refine calm_call _ _ (by rfl) (by rfl) ?_ ?_
                      focus
                        apply Exists.intro
                        apply Exists.intro
                        refine ⟨fun wc hC hD => ?_, fun wc hC hD => ?_⟩
                        focus (clear hD; obtain ⟨c0, c1, c2, c3, c4, c5, c6, c7⟩ := box8 (hC.blk _ List.mem_cons_self); obtain ⟨x0, x1, x2⟩ := box3 (hC.blk _ (List.mem_cons_of_mem _ List.mem_cons_self)); obtain ⟨ad', c', e', -, y0, y1, -, -, -, -, -, -⟩ := HVJ.out _ hC.bel; simp only [Value.slice.injEq, true_and] at e'; obtain ⟨e1, e2⟩ := e'; cases e1; clear e2; clear hC; go_simp; first | done | with_reducible exact ⟨rfl, rfl⟩)
                        clear hD
                        with_reducible refine (HLe.out _).mono ?_
                        rintro e wx ⟨rfl, hb⟩
                        exact ⟨_, rfl, hb, rfl, trivial⟩
                      rintro _ rfl
                      try simp only [Act.put, List.setIfInBounds_toArray, List.set_cons_zero, List.set_cons_succ]
                      repeat (first
                        | (refine calm_skip (by rfl) ?_; try simp only [Act.put, List.setIfInBounds_toArray, List.set_cons_zero, List.set_cons_succ])
                        | (refine calm_plain (by rfl) (by rfl) ?_; apply Exists.intro; refine ⟨fun wc hC hD => ?_, ?_⟩; (focus (clear hD; obtain ⟨c0, c1, c2, c3, c4, c5, c6, c7⟩ := box8 (hC.blk _ List.mem_cons_self); obtain ⟨x0, x1, x2⟩ := box3 (hC.blk _ (List.mem_cons_of_mem _ List.mem_cons_self)); obtain ⟨ad', c', e', -, y0, y1, -, -, -, -, -, -⟩ := HVJ.out _ hC.bel; simp only [Value.slice.injEq, true_and] at e'; obtain ⟨e1, e2⟩ := e'; cases e1; clear e2; clear hC; go_simp; first | done | with_reducible rfl)); try simp only [Act.put, List.setIfInBounds_toArray, List.set_cons_zero, List.set_cons_succ]))
                      refine calm_call _ _ (by rfl) (by rfl) ?_ ?_
                      focus
                        apply Exists.intro
                        apply Exists.intro
                        refine ⟨fun wc hC hD => ?_, fun wc hC hD => ?_⟩
                        focus (clear hD; obtain ⟨c0, c1, c2, c3, c4, c5, c6, c7⟩ := box8 (hC.blk _ List.mem_cons_self); obtain ⟨x0, x1, x2⟩ := box3 (hC.blk _ (List.mem_cons_of_mem _ List.mem_cons_self)); obtain ⟨ad', c', e', -, y0, y1, -, -, -, -, -, -⟩ := HVJ.out _ hC.bel; simp only [Value.slice.injEq, true_and] at e'; obtain ⟨e1, e2⟩ := e'; cases e1; clear e2; clear hC; go_simp; first | done | with_reducible exact ⟨rfl, rfl⟩)
                        clear hD
                        with_reducible refine (HT.out _ hC.bel).mono ?_
                        rintro e wx ⟨rfl, hb⟩
                        exact ⟨_, rfl, hb, rfl, trivial⟩
                      rintro _ rfl
                      try simp only [Act.put, List.setIfInBounds_toArray, List.set_cons_zero, List.set_cons_succ]
                      repeat (first
                        | (refine calm_skip (by rfl) ?_; try simp only [Act.put, List.setIfInBounds_toArray, List.set_cons_zero, List.set_cons_succ])
                        | (refine calm_plain (by rfl) (by rfl) ?_; apply Exists.intro; refine ⟨fun wc hC hD => ?_, ?_⟩; (focus (clear hD; obtain ⟨c0, c1, c2, c3, c4, c5, c6, c7⟩ := box8 (hC.blk _ List.mem_cons_self); obtain ⟨x0, x1, x2⟩ := box3 (hC.blk _ (List.mem_cons_of_mem _ List.mem_cons_self)); obtain ⟨ad', c', e', -, y0, y1, -, -, -, -, -, -⟩ := HVJ.out _ hC.bel; simp only [Value.slice.injEq, true_and] at e'; obtain ⟨e1, e2⟩ := e'; cases e1; clear e2; clear hC; go_simp; first | done | with_reducible rfl)); try simp only [Act.put, List.setIfInBounds_toArray, List.set_cons_zero, List.set_cons_succ]))
                      refine calm_call _ _ (by rfl) (by rfl) ?_ ?_
                      focus
                        apply Exists.intro
                        apply Exists.intro
                        refine ⟨fun wc hC hD => ?_, fun wc hC hD => ?_⟩
                        focus (clear hD; obtain ⟨c0, c1, c2, c3, c4, c5, c6, c7⟩ := box8 (hC.blk _ List.mem_cons_self); obtain ⟨x0, x1, x2⟩ := box3 (hC.blk _ (List.mem_cons_of_mem _ List.mem_cons_self)); obtain ⟨ad', c', e', -, y0, y1, -, -, -, -, -, -⟩ := HVJ.out _ hC.bel; simp only [Value.slice.injEq, true_and] at e'; obtain ⟨e1, e2⟩ := e'; cases e1; clear e2; clear hC; go_simp; first | done | with_reducible exact ⟨rfl, rfl⟩)
                        clear hD
                        with_reducible refine (HRd.out _ hC.bel).mono ?_
                        rintro e wx ⟨rfl, hb⟩
                        exact ⟨_, rfl, hb, rfl, trivial⟩
                      rintro _ rfl
                      try simp only [Act.put, List.setIfInBounds_toArray, List.set_cons_zero, List.set_cons_succ]
                      repeat (first
                        | (refine calm_skip (by rfl) ?_; try simp only [Act.put, List.setIfInBounds_toArray, List.set_cons_zero, List.set_cons_succ])
                        | (refine calm_plain (by rfl) (by rfl) ?_; apply Exists.intro; refine ⟨fun wc hC hD => ?_, ?_⟩; (focus (clear hD; obtain ⟨c0, c1, c2, c3, c4, c5, c6, c7⟩ := box8 (hC.blk _ List.mem_cons_self); obtain ⟨x0, x1, x2⟩ := box3 (hC.blk _ (List.mem_cons_of_mem _ List.mem_cons_self)); obtain ⟨ad', c', e', -, y0, y1, -, -, -, -, -, -⟩ := HVJ.out _ hC.bel; simp only [Value.slice.injEq, true_and] at e'; obtain ⟨e1, e2⟩ := e'; cases e1; clear e2; clear hC; go_simp; first | done | with_reducible rfl)); try simp only [Act.put, List.setIfInBounds_toArray, List.set_cons_zero, List.set_cons_succ]))
                      refine calm_end ?_
                      intro w7 hL7 hF7
                      clear hF7
                      replace HL := Lib.hid hL7
                      clear hL7
                      go_wp2
                      go_roundw
                      case rel => exact ⟨k + 1, by omega, by go_num, waitTo_step HN.out hlt (by rw [← HXX.out]; exact HE.out), ⟨HL.out.bel, fun p hp => HL.out.blk p (List.mem_cons_of_mem _ hp), fun _ h => absurd h (by simp), fun _ h => absurd h (by simp)⟩⟩
                      case measure => simp [intOf]; omega
          · have hks : k = d.P.length := by omega
            subst hks
            have HWT := Lib.hid HN.out; clear HN
            go_wp2
            go_loopw [5] (fun i wr => ∃ k : Nat, k ≤ d.H.length ∧ i = .int .i64 k ∧ HolesTo d.X d.H k ∧ Lg w wr [(w.heap.size, .cells #[.slice A1 d.X.length k1, .slice A2 d.P.length k2, .slice A3 d.H.length k3] 29)] []) (fun i _ => d.H.length - (intOf i).toNat)
            case atStart => exact ⟨0, Nat.zero_le _, rfl, holesTo_zero _ _, HL.out⟩
            case round =>
              clear x0 x1 x2 HL
              obtain ⟨k, hk, rfl, hn, hl⟩ := hrel
              have HN := Lib.hid hn; have HL := Lib.hid hl; clear hn hl
              obtain ⟨x0, x1, x2⟩ := box3 (HL.out.blk _ List.mem_cons_self)
              by_cases hlt : k < d.H.length
              · obtain ⟨ad, c', e', -, -, -⟩ := (HVH.out.below HL.out.bel).two k hlt
                simp only [Value.slice.injEq, true_and] at e'
                obtain ⟨rfl, rfl⟩ := e'
                obtain ⟨n, hx⟩ : ∃ n, n = d.H[k] := ⟨_, rfl⟩
                have HVK := Lib.hid (fun W (hb : Below w.heap.size w W) => (HVH.out.below hb).two k hlt)
                rw [← hx] at HVK
                have HXX := Lib.hid hx; clear hx
                have HI := Lib.hid (fun W => spec_id n W)
                have HNS := Lib.hid (fun h : ¬ HoleP d.X d.H k n => HNB.out (fun hh => h (by rw [HXX.out]; exact hh.2.2.2.2 k hlt hlt)))
                replace HT := Lib.hid (HT.out n)
                have hp0 := at_lo d.X n; have hp1 := at_hi d.X n
                obtain ⟨p, hp⟩ : ∃ p, p = atOf d.X n := ⟨_, rfl⟩
                have HPP := Lib.hid hp
                rw [← hp] at HT hp0 hp1
                clear hp
                cases hi : idB n with
                | false =>
                  replace HI := Lib.hid (fun W => (HI.out W).mono fun _ _ h => Tell.to h hi)
                  have HE := Lib.hid (HNS.out (fun h => by rw [(idB_iff n).2 h.1] at hi; cases hi))
                  clear hi
                  go_upto_region 12 with fail
                  refine wp_region_calm_lg (told [(5, fun u => u = .bool false)]) (by kernel_rfl) (by kernel_rfl) (told_mono _) HL.out ?_
                  repeat (first
                    | (refine calm_skip (by rfl) ?_; try simp only [Act.put, List.setIfInBounds_toArray, List.set_cons_zero, List.set_cons_succ])
                    | (refine calm_plain (by rfl) (by rfl) ?_; apply Exists.intro; refine ⟨fun wc hC hD => ?_, ?_⟩; (focus (clear hD; obtain ⟨x0, x1, x2⟩ := box3 (hC.blk _ List.mem_cons_self); obtain ⟨ad, ca, ea, -, c0, c1⟩ := HVK.out _ hC.bel; simp only [Value.slice.injEq, true_and] at ea; obtain ⟨e1, e2⟩ := ea; cases e1; clear e2; clear hC; go_simp; first | done | with_reducible rfl)); try simp only [Act.put, List.setIfInBounds_toArray, List.set_cons_zero, List.set_cons_succ]))
                  refine calm_call _ _ (by rfl) (by rfl) ?_ ?_
                  focus
                    apply Exists.intro
                    apply Exists.intro
                    refine ⟨fun wc hC hD => ?_, fun wc hC hD => ?_⟩
                    focus (clear hD; obtain ⟨x0, x1, x2⟩ := box3 (hC.blk _ List.mem_cons_self); obtain ⟨ad, ca, ea, -, c0, c1⟩ := HVK.out _ hC.bel; simp only [Value.slice.injEq, true_and] at ea; obtain ⟨e1, e2⟩ := ea; cases e1; clear e2; clear hC; go_simp; first | done | with_reducible exact ⟨rfl, rfl⟩)
                    clear hD
                    with_reducible refine (HI.out _).mono ?_
                    rintro e wx ⟨rfl, hb⟩
                    exact ⟨_, rfl, hb, rfl, trivial⟩
                  rintro _ rfl
                  try simp only [Act.put, List.setIfInBounds_toArray, List.set_cons_zero, List.set_cons_succ]
                  repeat (first
                    | (refine calm_skip (by rfl) ?_; try simp only [Act.put, List.setIfInBounds_toArray, List.set_cons_zero, List.set_cons_succ])
                    | (refine calm_plain (by rfl) (by rfl) ?_; apply Exists.intro; refine ⟨fun wc hC hD => ?_, ?_⟩; (focus (clear hD; obtain ⟨x0, x1, x2⟩ := box3 (hC.blk _ List.mem_cons_self); obtain ⟨ad, ca, ea, -, c0, c1⟩ := HVK.out _ hC.bel; simp only [Value.slice.injEq, true_and] at ea; obtain ⟨e1, e2⟩ := ea; cases e1; clear e2; clear hC; go_simp; first | done | with_reducible rfl)); try simp only [Act.put, List.setIfInBounds_toArray, List.set_cons_zero, List.set_cons_succ]))
                  refine calm_end ?_
                  intro w7 hL7 hF7
                  clear hF7
                  replace HL := Lib.hid hL7
                  clear hL7
                  go_wp2
                  go_ret
                  exact ⟨ret_bool HE.out.symm, HL.out.bel⟩
                | true =>
                  replace HI := Lib.hid (fun W => (HI.out W).mono fun _ _ h => Tell.to h hi)
                  have HII := Lib.hid ((idB_iff n).1 hi); clear hi
                  rcases Nat.eq_zero_or_pos k with hk0 | hk0
                  · have dk : decide ((0 : Int) < (k : Int)) = false := by simp [hk0]
                    have dk' : decide (0 < k) = false := by simp [hk0]
                    have HK := Lib.hid hk0; clear hk0
                    by_cases h2 : 0 ≤ p
                    · have d2 : decide ((0 : Int) ≤ p) = true := decide_eq_true h2
                      have HE := Lib.hid (HNS.out (fun h => h.2.2 (by rw [← HPP.out]; exact h2)))
                      go_upto_region 12 with fail
                      refine wp_region_calm_lg (told [(5, fun u => u = .bool true), (34, fun u => u = .int .i64 p)]) (by kernel_rfl) (by kernel_rfl) (told_mono _) HL.out ?_
                      repeat (first
                        | (refine calm_skip (by rfl) ?_; try simp only [Act.put, List.setIfInBounds_toArray, List.set_cons_zero, List.set_cons_succ])
                        | (refine calm_plain (by rfl) (by rfl) ?_; apply Exists.intro; refine ⟨fun wc hC hD => ?_, ?_⟩; (focus (clear hD; obtain ⟨x0, x1, x2⟩ := box3 (hC.blk _ List.mem_cons_self); obtain ⟨ad, ca, ea, -, c0, c1⟩ := HVK.out _ hC.bel; simp only [Value.slice.injEq, true_and] at ea; obtain ⟨e1, e2⟩ := ea; cases e1; clear e2; clear hC; go_simp; first | done | with_reducible rfl)); try simp only [Act.put, List.setIfInBounds_toArray, List.set_cons_zero, List.set_cons_succ]))
                      refine calm_call _ _ (by rfl) (by rfl) ?_ ?_
                      focus
                        apply Exists.intro
                        apply Exists.intro
                        refine ⟨fun wc hC hD => ?_, fun wc hC hD => ?_⟩
                        focus (clear hD; obtain ⟨x0, x1, x2⟩ := box3 (hC.blk _ List.mem_cons_self); obtain ⟨ad, ca, ea, -, c0, c1⟩ := HVK.out _ hC.bel; simp only [Value.slice.injEq, true_and] at ea; obtain ⟨e1, e2⟩ := ea; cases e1; clear e2; clear hC; go_simp; first | done | with_reducible exact ⟨rfl, rfl⟩)
                        clear hD
                        with_reducible refine (HI.out _).mono ?_
                        rintro e wx ⟨rfl, hb⟩
                        exact ⟨_, rfl, hb, rfl, trivial⟩
                      rintro _ rfl
                      try simp only [Act.put, List.setIfInBounds_toArray, List.set_cons_zero, List.set_cons_succ]
                      repeat (first
                        | (refine calm_skip (by rfl) ?_; try simp only [Act.put, List.setIfInBounds_toArray, List.set_cons_zero, List.set_cons_succ])
                        | (refine calm_plain (by rfl) (by rfl) ?_; apply Exists.intro; refine ⟨fun wc hC hD => ?_, ?_⟩; (focus (clear hD; obtain ⟨x0, x1, x2⟩ := box3 (hC.blk _ List.mem_cons_self); obtain ⟨ad, ca, ea, -, c0, c1⟩ := HVK.out _ hC.bel; simp only [Value.slice.injEq, true_and] at ea; obtain ⟨e1, e2⟩ := ea; cases e1; clear e2; clear hC; go_simp; first | done | with_reducible rfl)); try simp only [Act.put, List.setIfInBounds_toArray, List.set_cons_zero, List.set_cons_succ]))
                      refine calm_call _ _ (by rfl) (by rfl) ?_ ?_
                      focus
                        apply Exists.intro
                        apply Exists.intro
                        refine ⟨fun wc hC hD => ?_, fun wc hC hD => ?_⟩
                        focus (clear hD; obtain ⟨x0, x1, x2⟩ := box3 (hC.blk _ List.mem_cons_self); obtain ⟨ad, ca, ea, -, c0, c1⟩ := HVK.out _ hC.bel; simp only [Value.slice.injEq, true_and] at ea; obtain ⟨e1, e2⟩ := ea; cases e1; clear e2; clear hC; go_simp; first | done | with_reducible exact ⟨rfl, rfl⟩)
                        clear hD
                        with_reducible refine (HT.out _ hC.bel).mono ?_
                        rintro e wx ⟨rfl, hb⟩
                        exact ⟨_, rfl, hb, rfl, trivial⟩
                      rintro _ rfl
                      try simp only [Act.put, List.setIfInBounds_toArray, List.set_cons_zero, List.set_cons_succ]
                      repeat (first
                        | (refine calm_skip (by rfl) ?_; try simp only [Act.put, List.setIfInBounds_toArray, List.set_cons_zero, List.set_cons_succ])
                        | (refine calm_plain (by rfl) (by rfl) ?_; apply Exists.intro; refine ⟨fun wc hC hD => ?_, ?_⟩; (focus (clear hD; obtain ⟨x0, x1, x2⟩ := box3 (hC.blk _ List.mem_cons_self); obtain ⟨ad, ca, ea, -, c0, c1⟩ := HVK.out _ hC.bel; simp only [Value.slice.injEq, true_and] at ea; obtain ⟨e1, e2⟩ := ea; cases e1; clear e2; clear hC; go_simp; first | done | with_reducible rfl)); try simp only [Act.put, List.setIfInBounds_toArray, List.set_cons_zero, List.set_cons_succ]))
                      refine calm_end ?_
                      intro w7 hL7 hF7
                      clear hF7
                      replace HL := Lib.hid hL7
                      clear hL7
                      go_wp2
                      go_ret
                      exact ⟨ret_bool HE.out.symm, HL.out.bel⟩
                    · have d2 : decide ((0 : Int) ≤ p) = false := decide_eq_false h2
                      have HE := Lib.hid (show HoleP d.X d.H k n from ⟨HII.out, fun j hj _ => by have := HK.out; omega, by rw [← HPP.out]; exact h2⟩)
                      go_upto_region 12 with fail
                      refine wp_region_calm_lg (told [(5, fun u => u = .bool true), (34, fun u => u = .int .i64 p)]) (by kernel_rfl) (by kernel_rfl) (told_mono _) HL.out ?_
                      repeat (first
                        | (refine calm_skip (by rfl) ?_; try simp only [Act.put, List.setIfInBounds_toArray, List.set_cons_zero, List.set_cons_succ])
                        | (refine calm_plain (by rfl) (by rfl) ?_; apply Exists.intro; refine ⟨fun wc hC hD => ?_, ?_⟩; (focus (clear hD; obtain ⟨x0, x1, x2⟩ := box3 (hC.blk _ List.mem_cons_self); obtain ⟨ad, ca, ea, -, c0, c1⟩ := HVK.out _ hC.bel; simp only [Value.slice.injEq, true_and] at ea; obtain ⟨e1, e2⟩ := ea; cases e1; clear e2; clear hC; go_simp; first | done | with_reducible rfl)); try simp only [Act.put, List.setIfInBounds_toArray, List.set_cons_zero, List.set_cons_succ]))
                      refine calm_call _ _ (by rfl) (by rfl) ?_ ?_
                      focus
                        apply Exists.intro
                        apply Exists.intro
                        refine ⟨fun wc hC hD => ?_, fun wc hC hD => ?_⟩
                        focus (clear hD; obtain ⟨x0, x1, x2⟩ := box3 (hC.blk _ List.mem_cons_self); obtain ⟨ad, ca, ea, -, c0, c1⟩ := HVK.out _ hC.bel; simp only [Value.slice.injEq, true_and] at ea; obtain ⟨e1, e2⟩ := ea; cases e1; clear e2; clear hC; go_simp; first | done | with_reducible exact ⟨rfl, rfl⟩)
                        clear hD
                        with_reducible refine (HI.out _).mono ?_
                        rintro e wx ⟨rfl, hb⟩
                        exact ⟨_, rfl, hb, rfl, trivial⟩
                      rintro _ rfl
                      try simp only [Act.put, List.setIfInBounds_toArray, List.set_cons_zero, List.set_cons_succ]
                      repeat (first
                        | (refine calm_skip (by rfl) ?_; try simp only [Act.put, List.setIfInBounds_toArray, List.set_cons_zero, List.set_cons_succ])
                        | (refine calm_plain (by rfl) (by rfl) ?_; apply Exists.intro; refine ⟨fun wc hC hD => ?_, ?_⟩; (focus (clear hD; obtain ⟨x0, x1, x2⟩ := box3 (hC.blk _ List.mem_cons_self); obtain ⟨ad, ca, ea, -, c0, c1⟩ := HVK.out _ hC.bel; simp only [Value.slice.injEq, true_and] at ea; obtain ⟨e1, e2⟩ := ea; cases e1; clear e2; clear hC; go_simp; first | done | with_reducible rfl)); try simp only [Act.put, List.setIfInBounds_toArray, List.set_cons_zero, List.set_cons_succ]))
                      refine calm_call _ _ (by rfl) (by rfl) ?_ ?_
                      focus
                        apply Exists.intro
                        apply Exists.intro
                        refine ⟨fun wc hC hD => ?_, fun wc hC hD => ?_⟩
                        focus (clear hD; obtain ⟨x0, x1, x2⟩ := box3 (hC.blk _ List.mem_cons_self); obtain ⟨ad, ca, ea, -, c0, c1⟩ := HVK.out _ hC.bel; simp only [Value.slice.injEq, true_and] at ea; obtain ⟨e1, e2⟩ := ea; cases e1; clear e2; clear hC; go_simp; first | done | with_reducible exact ⟨rfl, rfl⟩)
                        clear hD
                        with_reducible refine (HT.out _ hC.bel).mono ?_
                        rintro e wx ⟨rfl, hb⟩
                        exact ⟨_, rfl, hb, rfl, trivial⟩
                      rintro _ rfl
                      try simp only [Act.put, List.setIfInBounds_toArray, List.set_cons_zero, List.set_cons_succ]
                      repeat (first
                        | (refine calm_skip (by rfl) ?_; try simp only [Act.put, List.setIfInBounds_toArray, List.set_cons_zero, List.set_cons_succ])
                        | (refine calm_plain (by rfl) (by rfl) ?_; apply Exists.intro; refine ⟨fun wc hC hD => ?_, ?_⟩; (focus (clear hD; obtain ⟨x0, x1, x2⟩ := box3 (hC.blk _ List.mem_cons_self); obtain ⟨ad, ca, ea, -, c0, c1⟩ := HVK.out _ hC.bel; simp only [Value.slice.injEq, true_and] at ea; obtain ⟨e1, e2⟩ := ea; cases e1; clear e2; clear hC; go_simp; first | done | with_reducible rfl)); try simp only [Act.put, List.setIfInBounds_toArray, List.set_cons_zero, List.set_cons_succ]))
                      refine calm_end ?_
                      intro w7 hL7 hF7
                      clear hF7
                      replace HL := Lib.hid hL7
                      clear hL7
                      go_wp2
                      go_roundw
                      case rel => exact ⟨k + 1, by omega, by go_num, holesTo_step HN.out hlt (by rw [← HXX.out]; exact HE.out), HL.out⟩
                      case measure => simp [intOf]; omega
                  · obtain ⟨j, hj⟩ : ∃ j, k = j + 1 := ⟨k - 1, by omega⟩
                    have hjl : j < d.H.length := by omega
                    have dk : decide ((0 : Int) < (k : Int)) = true := by simp; omega
                    have dk' : decide (0 < k) = true := by simp; omega
                    have ek : (k : Int) - 1 = (j : Int) := by omega
                    have ew : IntKind.i64.wrap (j : Int) = (j : Int) := IntWalk.i64_in _ (by omega)
                    have HJ := Lib.hid hj; clear hj
                    obtain ⟨y, hy⟩ : ∃ y, y = d.H[j] := ⟨_, rfl⟩
                    have HVJ := Lib.hid (fun W (hb : Below w.heap.size w W) => (HVH.out.below hb).two j hjl)
                    rw [← hy] at HVJ
                    have HYY := Lib.hid hy; clear hy
                    cases hs : lessB y n with
                    | false =>
                      have HLe := Lib.hid (fun W => (spec_less y n W).mono fun _ _ h => Tell.to h hs)
                      have HE := Lib.hid (HNS.out (fun h => by have h' := h.2.1 j HJ.out hjl; rw [← HYY.out] at h'; rw [(lessB_iff _ _).2 h'] at hs; cases hs)); clear hs
                      go_upto_region 12 with fail
                      refine wp_region_calm_lg (told [(5, fun u => u = .bool true), (22, fun u => u = .bool false)]) (by kernel_rfl) (by kernel_rfl) (told_mono _) HL.out ?_
                      repeat (first
                        | (refine calm_skip (by rfl) ?_; try simp only [Act.put, List.setIfInBounds_toArray, List.set_cons_zero, List.set_cons_succ])
                        | (refine calm_plain (by rfl) (by rfl) ?_; apply Exists.intro; refine ⟨fun wc hC hD => ?_, ?_⟩; (focus (clear hD; obtain ⟨x0, x1, x2⟩ := box3 (hC.blk _ List.mem_cons_self); obtain ⟨ad, ca, ea, -, c0, c1⟩ := HVK.out _ hC.bel; simp only [Value.slice.injEq, true_and] at ea; obtain ⟨e1, e2⟩ := ea; cases e1; clear e2; obtain ⟨ad', c', e', -, y0, y1⟩ := HVJ.out _ hC.bel; simp only [Value.slice.injEq, true_and] at e'; obtain ⟨e1, e2⟩ := e'; cases e1; clear e2; clear hC; go_simp; first | done | with_reducible rfl)); try simp only [Act.put, List.setIfInBounds_toArray, List.set_cons_zero, List.set_cons_succ]))
                      refine calm_call _ _ (by rfl) (by rfl) ?_ ?_
                      focus
                        apply Exists.intro
                        apply Exists.intro
                        refine ⟨fun wc hC hD => ?_, fun wc hC hD => ?_⟩
                        focus (clear hD; obtain ⟨x0, x1, x2⟩ := box3 (hC.blk _ List.mem_cons_self); obtain ⟨ad, ca, ea, -, c0, c1⟩ := HVK.out _ hC.bel; simp only [Value.slice.injEq, true_and] at ea; obtain ⟨e1, e2⟩ := ea; cases e1; clear e2; obtain ⟨ad', c', e', -, y0, y1⟩ := HVJ.out _ hC.bel; simp only [Value.slice.injEq, true_and] at e'; obtain ⟨e1, e2⟩ := e'; cases e1; clear e2; clear hC; go_simp; first | done | with_reducible exact ⟨rfl, rfl⟩)
                        clear hD
                        with_reducible refine (HI.out _).mono ?_
                        rintro e wx ⟨rfl, hb⟩
                        exact ⟨_, rfl, hb, rfl, trivial⟩
                      rintro _ rfl
                      try simp only [Act.put, List.setIfInBounds_toArray, List.set_cons_zero, List.set_cons_succ]
                      repeat (first
                        | (refine calm_skip (by rfl) ?_; try simp only [Act.put, List.setIfInBounds_toArray, List.set_cons_zero, List.set_cons_succ])
                        | (refine calm_plain (by rfl) (by rfl) ?_; apply Exists.intro; refine ⟨fun wc hC hD => ?_, ?_⟩; (focus (clear hD; obtain ⟨x0, x1, x2⟩ := box3 (hC.blk _ List.mem_cons_self); obtain ⟨ad, ca, ea, -, c0, c1⟩ := HVK.out _ hC.bel; simp only [Value.slice.injEq, true_and] at ea; obtain ⟨e1, e2⟩ := ea; cases e1; clear e2; obtain ⟨ad', c', e', -, y0, y1⟩ := HVJ.out _ hC.bel; simp only [Value.slice.injEq, true_and] at e'; obtain ⟨e1, e2⟩ := e'; cases e1; clear e2; clear hC; go_simp; first | done | with_reducible rfl)); try simp only [Act.put, List.setIfInBounds_toArray, List.set_cons_zero, List.set_cons_succ]))
                      refine calm_call _ _ (by rfl) (by rfl) ?_ ?_
                      focus
                        apply Exists.intro
                        apply Exists.intro
                        refine ⟨fun wc hC hD => ?_, fun wc hC hD => ?_⟩
                        focus (clear hD; obtain ⟨x0, x1, x2⟩ := box3 (hC.blk _ List.mem_cons_self); obtain ⟨ad, ca, ea, -, c0, c1⟩ := HVK.out _ hC.bel; simp only [Value.slice.injEq, true_and] at ea; obtain ⟨e1, e2⟩ := ea; cases e1; clear e2; obtain ⟨ad', c', e', -, y0, y1⟩ := HVJ.out _ hC.bel; simp only [Value.slice.injEq, true_and] at e'; obtain ⟨e1, e2⟩ := e'; cases e1; clear e2; clear hC; go_simp; first | done | with_reducible exact ⟨rfl, rfl⟩)
                        clear hD
                        with_reducible refine (HLe.out _).mono ?_
                        rintro e wx ⟨rfl, hb⟩
                        exact ⟨_, rfl, hb, rfl, trivial⟩
                      rintro _ rfl
                      try simp only [Act.put, List.setIfInBounds_toArray, List.set_cons_zero, List.set_cons_succ]
                      repeat (first
                        | (refine calm_skip (by rfl) ?_; try simp only [Act.put, List.setIfInBounds_toArray, List.set_cons_zero, List.set_cons_succ])
                        | (refine calm_plain (by rfl) (by rfl) ?_; apply Exists.intro; refine ⟨fun wc hC hD => ?_, ?_⟩; (focus (clear hD; obtain ⟨x0, x1, x2⟩ := box3 (hC.blk _ List.mem_cons_self); obtain ⟨ad, ca, ea, -, c0, c1⟩ := HVK.out _ hC.bel; simp only [Value.slice.injEq, true_and] at ea; obtain ⟨e1, e2⟩ := ea; cases e1; clear e2; obtain ⟨ad', c', e', -, y0, y1⟩ := HVJ.out _ hC.bel; simp only [Value.slice.injEq, true_and] at e'; obtain ⟨e1, e2⟩ := e'; cases e1; clear e2; clear hC; go_simp; first | done | with_reducible rfl)); try simp only [Act.put, List.setIfInBounds_toArray, List.set_cons_zero, List.set_cons_succ]))
                      refine calm_end ?_
                      intro w7 hL7 hF7
                      clear hF7
                      replace HL := Lib.hid hL7
                      clear hL7
                      go_wp2
                      go_ret
                      exact ⟨ret_bool HE.out.symm, HL.out.bel⟩
                    | true =>
                      have HLe := Lib.hid (fun W => (spec_less y n W).mono fun _ _ h => Tell.to h hs)
                      have HSS := Lib.hid ((lessB_iff _ _).1 hs); clear hs
                      by_cases h2 : 0 ≤ p
                      · have d2 : decide ((0 : Int) ≤ p) = true := decide_eq_true h2
                        have HE := Lib.hid (HNS.out (fun h => h.2.2 (by rw [← HPP.out]; exact h2)))
                        go_upto_region 12 with fail
                        refine wp_region_calm_lg (told [(5, fun u => u = .bool true), (22, fun u => u = .bool true), (34, fun u => u = .int .i64 p)]) (by kernel_rfl) (by kernel_rfl) (told_mono _) HL.out ?_
                        repeat (first
                          | (refine calm_skip (by rfl) ?_; try simp only [Act.put, List.setIfInBounds_toArray, List.set_cons_zero, List.set_cons_succ])
                          | (refine calm_plain (by rfl) (by rfl) ?_; apply Exists.intro; refine ⟨fun wc hC hD => ?_, ?_⟩; (focus (clear hD; obtain ⟨x0, x1, x2⟩ := box3 (hC.blk _ List.mem_cons_self); obtain ⟨ad, ca, ea, -, c0, c1⟩ := HVK.out _ hC.bel; simp only [Value.slice.injEq, true_and] at ea; obtain ⟨e1, e2⟩ := ea; cases e1; clear e2; obtain ⟨ad', c', e', -, y0, y1⟩ := HVJ.out _ hC.bel; simp only [Value.slice.injEq, true_and] at e'; obtain ⟨e1, e2⟩ := e'; cases e1; clear e2; clear hC; go_simp; first | done | with_reducible rfl)); try simp only [Act.put, List.setIfInBounds_toArray, List.set_cons_zero, List.set_cons_succ]))
                        refine calm_call _ _ (by rfl) (by rfl) ?_ ?_
                        focus
                          apply Exists.intro
                          apply Exists.intro
                          refine ⟨fun wc hC hD => ?_, fun wc hC hD => ?_⟩
                          focus (clear hD; obtain ⟨x0, x1, x2⟩ := box3 (hC.blk _ List.mem_cons_self); obtain ⟨ad, ca, ea, -, c0, c1⟩ := HVK.out _ hC.bel; simp only [Value.slice.injEq, true_and] at ea; obtain ⟨e1, e2⟩ := ea; cases e1; clear e2; obtain ⟨ad', c', e', -, y0, y1⟩ := HVJ.out _ hC.bel; simp only [Value.slice.injEq, true_and] at e'; obtain ⟨e1, e2⟩ := e'; cases e1; clear e2; clear hC; go_simp; first | done | with_reducible exact ⟨rfl, rfl⟩)
                          clear hD
                          with_reducible refine (HI.out _).mono ?_
                          rintro e wx ⟨rfl, hb⟩
                          exact ⟨_, rfl, hb, rfl, trivial⟩
                        rintro _ rfl
                        try simp only [Act.put, List.setIfInBounds_toArray, List.set_cons_zero, List.set_cons_succ]
                        repeat (first
                          | (refine calm_skip (by rfl) ?_; try simp only [Act.put, List.setIfInBounds_toArray, List.set_cons_zero, List.set_cons_succ])
                          | (refine calm_plain (by rfl) (by rfl) ?_; apply Exists.intro; refine ⟨fun wc hC hD => ?_, ?_⟩; (focus (clear hD; obtain ⟨x0, x1, x2⟩ := box3 (hC.blk _ List.mem_cons_self); obtain ⟨ad, ca, ea, -, c0, c1⟩ := HVK.out _ hC.bel; simp only [Value.slice.injEq, true_and] at ea; obtain ⟨e1, e2⟩ := ea; cases e1; clear e2; obtain ⟨ad', c', e', -, y0, y1⟩ := HVJ.out _ hC.bel; simp only [Value.slice.injEq, true_and] at e'; obtain ⟨e1, e2⟩ := e'; cases e1; clear e2; clear hC; go_simp; first | done | with_reducible rfl)); try simp only [Act.put, List.setIfInBounds_toArray, List.set_cons_zero, List.set_cons_succ]))
                        refine calm_call _ _ (by rfl) (by rfl) ?_ ?_
                        focus
                          apply Exists.intro
                          apply Exists.intro
                          refine ⟨fun wc hC hD => ?_, fun wc hC hD => ?_⟩
                          focus (clear hD; obtain ⟨x0, x1, x2⟩ := box3 (hC.blk _ List.mem_cons_self); obtain ⟨ad, ca, ea, -, c0, c1⟩ := HVK.out _ hC.bel; simp only [Value.slice.injEq, true_and] at ea; obtain ⟨e1, e2⟩ := ea; cases e1; clear e2; obtain ⟨ad', c', e', -, y0, y1⟩ := HVJ.out _ hC.bel; simp only [Value.slice.injEq, true_and] at e'; obtain ⟨e1, e2⟩ := e'; cases e1; clear e2; clear hC; go_simp; first | done | with_reducible exact ⟨rfl, rfl⟩)
                          clear hD
                          with_reducible refine (HLe.out _).mono ?_
                          rintro e wx ⟨rfl, hb⟩
                          exact ⟨_, rfl, hb, rfl, trivial⟩
                        rintro _ rfl
                        try simp only [Act.put, List.setIfInBounds_toArray, List.set_cons_zero, List.set_cons_succ]
                        repeat (first
                          | (refine calm_skip (by rfl) ?_; try simp only [Act.put, List.setIfInBounds_toArray, List.set_cons_zero, List.set_cons_succ])
                          | (refine calm_plain (by rfl) (by rfl) ?_; apply Exists.intro; refine ⟨fun wc hC hD => ?_, ?_⟩; (focus (clear hD; obtain ⟨x0, x1, x2⟩ := box3 (hC.blk _ List.mem_cons_self); obtain ⟨ad, ca, ea, -, c0, c1⟩ := HVK.out _ hC.bel; simp only [Value.slice.injEq, true_and] at ea; obtain ⟨e1, e2⟩ := ea; cases e1; clear e2; obtain ⟨ad', c', e', -, y0, y1⟩ := HVJ.out _ hC.bel; simp only [Value.slice.injEq, true_and] at e'; obtain ⟨e1, e2⟩ := e'; cases e1; clear e2; clear hC; go_simp; first | done | with_reducible rfl)); try simp only [Act.put, List.setIfInBounds_toArray, List.set_cons_zero, List.set_cons_succ]))
                        refine calm_call _ _ (by rfl) (by rfl) ?_ ?_
                        focus
                          apply Exists.intro
                          apply Exists.intro
                          refine ⟨fun wc hC hD => ?_, fun wc hC hD => ?_⟩
                          focus (clear hD; obtain ⟨x0, x1, x2⟩ := box3 (hC.blk _ List.mem_cons_self); obtain ⟨ad, ca, ea, -, c0, c1⟩ := HVK.out _ hC.bel; simp only [Value.slice.injEq, true_and] at ea; obtain ⟨e1, e2⟩ := ea; cases e1; clear e2; obtain ⟨ad', c', e', -, y0, y1⟩ := HVJ.out _ hC.bel; simp only [Value.slice.injEq, true_and] at e'; obtain ⟨e1, e2⟩ := e'; cases e1; clear e2; clear hC; go_simp; first | done | with_reducible exact ⟨rfl, rfl⟩)
                          clear hD
                          with_reducible refine (HT.out _ hC.bel).mono ?_
                          rintro e wx ⟨rfl, hb⟩
                          exact ⟨_, rfl, hb, rfl, trivial⟩
                        rintro _ rfl
                        try simp only [Act.put, List.setIfInBounds_toArray, List.set_cons_zero, List.set_cons_succ]
                        repeat (first
                          | (refine calm_skip (by rfl) ?_; try simp only [Act.put, List.setIfInBounds_toArray, List.set_cons_zero, List.set_cons_succ])
                          | (refine calm_plain (by rfl) (by rfl) ?_; apply Exists.intro; refine ⟨fun wc hC hD => ?_, ?_⟩; (focus (clear hD; obtain ⟨x0, x1, x2⟩ := box3 (hC.blk _ List.mem_cons_self); obtain ⟨ad, ca, ea, -, c0, c1⟩ := HVK.out _ hC.bel; simp only [Value.slice.injEq, true_and] at ea; obtain ⟨e1, e2⟩ := ea; cases e1; clear e2; obtain ⟨ad', c', e', -, y0, y1⟩ := HVJ.out _ hC.bel; simp only [Value.slice.injEq, true_and] at e'; obtain ⟨e1, e2⟩ := e'; cases e1; clear e2; clear hC; go_simp; first | done | with_reducible rfl)); try simp only [Act.put, List.setIfInBounds_toArray, List.set_cons_zero, List.set_cons_succ]))
                        refine calm_end ?_
                        intro w7 hL7 hF7
                        clear hF7
                        replace HL := Lib.hid hL7
                        clear hL7
                        go_wp2
                        go_ret
                        exact ⟨ret_bool HE.out.symm, HL.out.bel⟩
                      · have d2 : decide ((0 : Int) ≤ p) = false := decide_eq_false h2
                        have HE := Lib.hid (show HoleP d.X d.H k n from ⟨HII.out, fun j' hj' h' => by
                          have e : j' = j := by have := HJ.out; omega
                          subst e; rw [← HYY.out]; exact HSS.out, by rw [← HPP.out]; exact h2⟩)
                        go_upto_region 12 with fail
                        refine wp_region_calm_lg (told [(5, fun u => u = .bool true), (22, fun u => u = .bool true), (34, fun u => u = .int .i64 p)]) (by kernel_rfl) (by kernel_rfl) (told_mono _) HL.out ?_
                        repeat (first
                          | (refine calm_skip (by rfl) ?_; try simp only [Act.put, List.setIfInBounds_toArray, List.set_cons_zero, List.set_cons_succ])
                          | (refine calm_plain (by rfl) (by rfl) ?_; apply Exists.intro; refine ⟨fun wc hC hD => ?_, ?_⟩; (focus (clear hD; obtain ⟨x0, x1, x2⟩ := box3 (hC.blk _ List.mem_cons_self); obtain ⟨ad, ca, ea, -, c0, c1⟩ := HVK.out _ hC.bel; simp only [Value.slice.injEq, true_and] at ea; obtain ⟨e1, e2⟩ := ea; cases e1; clear e2; obtain ⟨ad', c', e', -, y0, y1⟩ := HVJ.out _ hC.bel; simp only [Value.slice.injEq, true_and] at e'; obtain ⟨e1, e2⟩ := e'; cases e1; clear e2; clear hC; go_simp; first | done | with_reducible rfl)); try simp only [Act.put, List.setIfInBounds_toArray, List.set_cons_zero, List.set_cons_succ]))
                        refine calm_call _ _ (by rfl) (by rfl) ?_ ?_
                        focus
                          apply Exists.intro
                          apply Exists.intro
                          refine ⟨fun wc hC hD => ?_, fun wc hC hD => ?_⟩
                          focus (clear hD; obtain ⟨x0, x1, x2⟩ := box3 (hC.blk _ List.mem_cons_self); obtain ⟨ad, ca, ea, -, c0, c1⟩ := HVK.out _ hC.bel; simp only [Value.slice.injEq, true_and] at ea; obtain ⟨e1, e2⟩ := ea; cases e1; clear e2; obtain ⟨ad', c', e', -, y0, y1⟩ := HVJ.out _ hC.bel; simp only [Value.slice.injEq, true_and] at e'; obtain ⟨e1, e2⟩ := e'; cases e1; clear e2; clear hC; go_simp; first | done | with_reducible exact ⟨rfl, rfl⟩)
                          clear hD
                          with_reducible refine (HI.out _).mono ?_
                          rintro e wx ⟨rfl, hb⟩
                          exact ⟨_, rfl, hb, rfl, trivial⟩
                        rintro _ rfl
                        try simp only [Act.put, List.setIfInBounds_toArray, List.set_cons_zero, List.set_cons_succ]
                        repeat (first
                          | (refine calm_skip (by rfl) ?_; try simp only [Act.put, List.setIfInBounds_toArray, List.set_cons_zero, List.set_cons_succ])
                          | (refine calm_plain (by rfl) (by rfl) ?_; apply Exists.intro; refine ⟨fun wc hC hD => ?_, ?_⟩; (focus (clear hD; obtain ⟨x0, x1, x2⟩ := box3 (hC.blk _ List.mem_cons_self); obtain ⟨ad, ca, ea, -, c0, c1⟩ := HVK.out _ hC.bel; simp only [Value.slice.injEq, true_and] at ea; obtain ⟨e1, e2⟩ := ea; cases e1; clear e2; obtain ⟨ad', c', e', -, y0, y1⟩ := HVJ.out _ hC.bel; simp only [Value.slice.injEq, true_and] at e'; obtain ⟨e1, e2⟩ := e'; cases e1; clear e2; clear hC; go_simp; first | done | with_reducible rfl)); try simp only [Act.put, List.setIfInBounds_toArray, List.set_cons_zero, List.set_cons_succ]))
                        refine calm_call _ _ (by rfl) (by rfl) ?_ ?_
                        focus
                          apply Exists.intro
                          apply Exists.intro
                          refine ⟨fun wc hC hD => ?_, fun wc hC hD => ?_⟩
                          focus (clear hD; obtain ⟨x0, x1, x2⟩ := box3 (hC.blk _ List.mem_cons_self); obtain ⟨ad, ca, ea, -, c0, c1⟩ := HVK.out _ hC.bel; simp only [Value.slice.injEq, true_and] at ea; obtain ⟨e1, e2⟩ := ea; cases e1; clear e2; obtain ⟨ad', c', e', -, y0, y1⟩ := HVJ.out _ hC.bel; simp only [Value.slice.injEq, true_and] at e'; obtain ⟨e1, e2⟩ := e'; cases e1; clear e2; clear hC; go_simp; first | done | with_reducible exact ⟨rfl, rfl⟩)
                          clear hD
                          with_reducible refine (HLe.out _).mono ?_
                          rintro e wx ⟨rfl, hb⟩
                          exact ⟨_, rfl, hb, rfl, trivial⟩
                        rintro _ rfl
                        try simp only [Act.put, List.setIfInBounds_toArray, List.set_cons_zero, List.set_cons_succ]
                        repeat (first
                          | (refine calm_skip (by rfl) ?_; try simp only [Act.put, List.setIfInBounds_toArray, List.set_cons_zero, List.set_cons_succ])
                          | (refine calm_plain (by rfl) (by rfl) ?_; apply Exists.intro; refine ⟨fun wc hC hD => ?_, ?_⟩; (focus (clear hD; obtain ⟨x0, x1, x2⟩ := box3 (hC.blk _ List.mem_cons_self); obtain ⟨ad, ca, ea, -, c0, c1⟩ := HVK.out _ hC.bel; simp only [Value.slice.injEq, true_and] at ea; obtain ⟨e1, e2⟩ := ea; cases e1; clear e2; obtain ⟨ad', c', e', -, y0, y1⟩ := HVJ.out _ hC.bel; simp only [Value.slice.injEq, true_and] at e'; obtain ⟨e1, e2⟩ := e'; cases e1; clear e2; clear hC; go_simp; first | done | with_reducible rfl)); try simp only [Act.put, List.setIfInBounds_toArray, List.set_cons_zero, List.set_cons_succ]))
                        refine calm_call _ _ (by rfl) (by rfl) ?_ ?_
                        focus
                          apply Exists.intro
                          apply Exists.intro
                          refine ⟨fun wc hC hD => ?_, fun wc hC hD => ?_⟩
                          focus (clear hD; obtain ⟨x0, x1, x2⟩ := box3 (hC.blk _ List.mem_cons_self); obtain ⟨ad, ca, ea, -, c0, c1⟩ := HVK.out _ hC.bel; simp only [Value.slice.injEq, true_and] at ea; obtain ⟨e1, e2⟩ := ea; cases e1; clear e2; obtain ⟨ad', c', e', -, y0, y1⟩ := HVJ.out _ hC.bel; simp only [Value.slice.injEq, true_and] at e'; obtain ⟨e1, e2⟩ := e'; cases e1; clear e2; clear hC; go_simp; first | done | with_reducible exact ⟨rfl, rfl⟩)
                          clear hD
                          with_reducible refine (HT.out _ hC.bel).mono ?_
                          rintro e wx ⟨rfl, hb⟩
                          exact ⟨_, rfl, hb, rfl, trivial⟩
                        rintro _ rfl
                        try simp only [Act.put, List.setIfInBounds_toArray, List.set_cons_zero, List.set_cons_succ]
                        repeat (first
                          | (refine calm_skip (by rfl) ?_; try simp only [Act.put, List.setIfInBounds_toArray, List.set_cons_zero, List.set_cons_succ])
                          | (refine calm_plain (by rfl) (by rfl) ?_; apply Exists.intro; refine ⟨fun wc hC hD => ?_, ?_⟩; (focus (clear hD; obtain ⟨x0, x1, x2⟩ := box3 (hC.blk _ List.mem_cons_self); obtain ⟨ad, ca, ea, -, c0, c1⟩ := HVK.out _ hC.bel; simp only [Value.slice.injEq, true_and] at ea; obtain ⟨e1, e2⟩ := ea; cases e1; clear e2; obtain ⟨ad', c', e', -, y0, y1⟩ := HVJ.out _ hC.bel; simp only [Value.slice.injEq, true_and] at e'; obtain ⟨e1, e2⟩ := e'; cases e1; clear e2; clear hC; go_simp; first | done | with_reducible rfl)); try simp only [Act.put, List.setIfInBounds_toArray, List.set_cons_zero, List.set_cons_succ]))
                        refine calm_end ?_
                        intro w7 hL7 hF7
                        clear hF7
                        replace HL := Lib.hid hL7
                        clear hL7
                        go_wp2
                        go_roundw
                        case rel => exact ⟨k + 1, by omega, by go_num, holesTo_step HN.out hlt (by rw [← HXX.out]; exact HE.out), HL.out⟩
                        case measure => simp [intOf]; omega
              · have hks : k = d.H.length := by omega
                subst hks
                have HE := Lib.hid (docB_yes (d := d) ⟨HIP.out, by omega, by omega, HWT.out, HN.out⟩)
                go_wp2
                go_ret
                exact ⟨ret_bool HE.out.symm, HL.out.bel⟩

end Go.Proofs.Ytghiipoeedfkhaa
