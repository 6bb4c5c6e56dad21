/-
  Contracts of the model's test whether an item can be put in, whether items may stand so.
-/
import Derived.Test.YtghiipoeedfkhaaLst
import Derived.Deep.Cut
import Derived.Deep.CutBlock
namespace Go.Proofs.Ytghiipoeedfkhaa
set_option linter.unusedSimpArgs false
set_option linter.unusedVariables false
open Go.ChangeShapes Go.WideShapes Go.ChangeAt Go.RowKit

theorem Lg.of {w W : World} (h : Below w.heap.size w W) : Lg w W [] [] := ⟨h, fun _ h => absurd h (by simp), fun _ h => absurd h (by simp), fun _ h => absurd h (by simp)⟩
theorem readyB_of {l : List Im} {x : Im} {b : Bool} (h : ReadyP l x ↔ b = true) : readyB l x = b := by
  rw [Bool.eq_iff_iff, readyB_iff]; exact h

set_option maxRecDepth 100000 in
set_option maxHeartbeats 4000000 in
theorem spec_ready (v : Value) (l : List Im) (x : Im) (w : World) (hv : Sl w w.heap.size 8 encM v l) (hl : l.length ≤ 140737488351232) :
    Calls Try.prog 126 #[v, vM x] w (Tell (readyB l x) w) := by
  have HA := Lib.hid (fun W (hb : Below w.heap.size w W) => spec_left v l x.l W ((hv.below hb).more hb.size) hl)
  have HR := Lib.hid (fun W (hb : Below w.heap.size w W) => spec_rightOf v l x.r W ((hv.below hb).more hb.size) hl)
  have HX := Lib.hid (fun W (hb : Below w.heap.size w W) => spec_next v l x.i.c W ((hv.below hb).more hb.size) hl)
  have HN := Lib.hid (fun W => spec_none x.l W)
  obtain ⟨A, c, rfl⟩ := hv.form
  clear hv
  have hP : ReadyP l x ↔ (x.i.k = nextOf l x.i.c ∧ ¬ (leftOf l x.l < 0 ∧ ¬ x.l = no) ∧ ¬ rightOf l x.r < 0 ∧ leftOf l x.l < rightOf l x.r) := Iff.rfl
  have HP := Lib.hid hP; clear hP
  have ha0 := left_lo l x.l; have ha1 := left_hi l x.l; have hr0 := right_lo l x.r; have hr1 := right_hi l x.r
  obtain ⟨a, ha⟩ : ∃ a, a = leftOf l x.l := ⟨_, rfl⟩
  obtain ⟨b, hb⟩ : ∃ b, b = rightOf l x.r := ⟨_, rfl⟩
  obtain ⟨m, hm⟩ : ∃ m, m = nextOf l x.i.c := ⟨_, rfl⟩
  rw [← ha, ← hb, ← hm] at HP
  rw [← ha] at HA ha0 ha1; rw [← hb] at HR hr0 hr1; rw [← hm] at HX
  clear ha hb hm
  go_enter Try.func126, Try.ntmps126
  go_wp2_with fail
  refine (HA.out _ (by (repeat (first | with_reducible refine bset ?_ _ (by omega) | with_reducible refine ball ?_ _ (by first | exact Nat.le_refl _ | (simp only [World.size_alloc, World.size_setCell]; omega)) | with_reducible exact Below.refl _ _ | with_reducible refine Below.drew ?_)))).mono ?_
  rintro e w1 ⟨rfl, hb1⟩
  have HL := Lib.hid (((Lg.start w).alloc _).lift hb1)
  clear hb1
  obtain ⟨c0, c1, c2, c3, c4, c5, c6, c7⟩ := box8 (HL.out.blk _ List.mem_cons_self)
  go_wp2_with fail
  refine (HR.out _ HL.out.bel).mono ?_
  rintro e w2 ⟨rfl, hb2⟩
  replace HL := Lib.hid (HL.out.lift hb2)
  clear c0 c1 c2 c3 c4 c5 c6 c7 hb2
  by_cases h1 : x.i.k = m
  · have hk : (x.i.k != (m : Int)) = false := by simp [h1]
    have H1 := Lib.hid h1; clear h1
    by_cases h3 : b < 0
    · have db : decide (b < 0) = true := decide_eq_true h3
      have hE : readyB l x = false := readyB_of (by rw [HP.out]; exact ⟨fun h => absurd h3 (by have := h.2.2.1; omega), fun h => by cases h⟩)
      have HE := Lib.hid hE; clear hE
      by_cases h2 : a < 0
      · have da : decide (a < 0) = true := decide_eq_true h2
        cases hn : eqN x.l no with
        | true =>
          replace HN := Lib.hid (fun W => (HN.out W).mono fun _ _ h => Tell.to h hn)
          clear hn
          go_upto_region 3 with fail
          refine wp_region_calm_lg (told [(7, fun u => u = .int .i64 (m : Int)), (15, fun u => u = .bool true)]) (by kernel_rfl) (by kernel_rfl) (told_mono _) HL.out ?_
          repeat (first
            | (refine calm_skip (by rfl) ?_; try simp only [Act.put, List.setIfInBounds_toArray, List.set_cons_zero, List.set_cons_succ])
            | (refine calm_plain (by rfl) (by rfl) ?_; apply Exists.intro; refine ⟨fun wc hC hD => ?_, ?_⟩; (focus (clear hD; obtain ⟨c0, c1, c2, c3, c4, c5, c6, c7⟩ := box8 (hC.blk _ List.mem_cons_self); clear hC; go_simp; first | done | with_reducible rfl)); try simp only [Act.put, List.setIfInBounds_toArray, List.set_cons_zero, List.set_cons_succ]))
          refine calm_call _ _ (by rfl) (by rfl) ?_ ?_
          focus
            apply Exists.intro
            apply Exists.intro
            refine ⟨fun wc hC hD => ?_, fun wc hC hD => ?_⟩
            focus (clear hD; obtain ⟨c0, c1, c2, c3, c4, c5, c6, c7⟩ := box8 (hC.blk _ List.mem_cons_self); clear hC; go_simp; first | done | with_reducible exact ⟨rfl, rfl⟩)
            clear hD
            with_reducible refine (HX.out _ hC.bel).mono ?_
            rintro e wx ⟨rfl, hb⟩
            exact ⟨_, rfl, hb, rfl, trivial⟩
          rintro _ rfl
          try simp only [Act.put, List.setIfInBounds_toArray, List.set_cons_zero, List.set_cons_succ]
          repeat (first
            | (refine calm_skip (by rfl) ?_; try simp only [Act.put, List.setIfInBounds_toArray, List.set_cons_zero, List.set_cons_succ])
            | (refine calm_plain (by rfl) (by rfl) ?_; apply Exists.intro; refine ⟨fun wc hC hD => ?_, ?_⟩; (focus (clear hD; obtain ⟨c0, c1, c2, c3, c4, c5, c6, c7⟩ := box8 (hC.blk _ List.mem_cons_self); clear hC; go_simp; first | done | with_reducible rfl)); try simp only [Act.put, List.setIfInBounds_toArray, List.set_cons_zero, List.set_cons_succ]))
          refine calm_call _ _ (by rfl) (by rfl) ?_ ?_
          focus
            apply Exists.intro
            apply Exists.intro
            refine ⟨fun wc hC hD => ?_, fun wc hC hD => ?_⟩
            focus (clear hD; obtain ⟨c0, c1, c2, c3, c4, c5, c6, c7⟩ := box8 (hC.blk _ List.mem_cons_self); clear hC; go_simp; first | done | with_reducible exact ⟨rfl, rfl⟩)
            clear hD
            with_reducible refine (HN.out _).mono ?_
            rintro e wx ⟨rfl, hb⟩
            exact ⟨_, rfl, hb, rfl, trivial⟩
          rintro _ rfl
          try simp only [Act.put, List.setIfInBounds_toArray, List.set_cons_zero, List.set_cons_succ]
          repeat (first
            | (refine calm_skip (by rfl) ?_; try simp only [Act.put, List.setIfInBounds_toArray, List.set_cons_zero, List.set_cons_succ])
            | (refine calm_plain (by rfl) (by rfl) ?_; apply Exists.intro; refine ⟨fun wc hC hD => ?_, ?_⟩; (focus (clear hD; obtain ⟨c0, c1, c2, c3, c4, c5, c6, c7⟩ := box8 (hC.blk _ List.mem_cons_self); clear hC; go_simp; first | done | with_reducible rfl)); try simp only [Act.put, List.setIfInBounds_toArray, List.set_cons_zero, List.set_cons_succ]))
          refine calm_end ?_
          intro w7 hL7 hF7
          clear hF7
          replace HL := Lib.hid hL7
          clear hL7
          go_wp2
          go_ret
          exact ⟨ret_bool HE.out.symm, HL.out.bel⟩
        | false =>
          replace HN := Lib.hid (fun W => (HN.out W).mono fun _ _ h => Tell.to h hn)
          clear hn
          go_upto_region 3 with fail
          refine wp_region_calm_lg (told [(7, fun u => u = .int .i64 (m : Int)), (15, fun u => u = .bool false)]) (by kernel_rfl) (by kernel_rfl) (told_mono _) HL.out ?_
          repeat (first
            | (refine calm_skip (by rfl) ?_; try simp only [Act.put, List.setIfInBounds_toArray, List.set_cons_zero, List.set_cons_succ])
            | (refine calm_plain (by rfl) (by rfl) ?_; apply Exists.intro; refine ⟨fun wc hC hD => ?_, ?_⟩; (focus (clear hD; obtain ⟨c0, c1, c2, c3, c4, c5, c6, c7⟩ := box8 (hC.blk _ List.mem_cons_self); clear hC; go_simp; first | done | with_reducible rfl)); try simp only [Act.put, List.setIfInBounds_toArray, List.set_cons_zero, List.set_cons_succ]))
          refine calm_call _ _ (by rfl) (by rfl) ?_ ?_
          focus
            apply Exists.intro
            apply Exists.intro
            refine ⟨fun wc hC hD => ?_, fun wc hC hD => ?_⟩
            focus (clear hD; obtain ⟨c0, c1, c2, c3, c4, c5, c6, c7⟩ := box8 (hC.blk _ List.mem_cons_self); clear hC; go_simp; first | done | with_reducible exact ⟨rfl, rfl⟩)
            clear hD
            with_reducible refine (HX.out _ hC.bel).mono ?_
            rintro e wx ⟨rfl, hb⟩
            exact ⟨_, rfl, hb, rfl, trivial⟩
          rintro _ rfl
          try simp only [Act.put, List.setIfInBounds_toArray, List.set_cons_zero, List.set_cons_succ]
          repeat (first
            | (refine calm_skip (by rfl) ?_; try simp only [Act.put, List.setIfInBounds_toArray, List.set_cons_zero, List.set_cons_succ])
            | (refine calm_plain (by rfl) (by rfl) ?_; apply Exists.intro; refine ⟨fun wc hC hD => ?_, ?_⟩; (focus (clear hD; obtain ⟨c0, c1, c2, c3, c4, c5, c6, c7⟩ := box8 (hC.blk _ List.mem_cons_self); clear hC; go_simp; first | done | with_reducible rfl)); try simp only [Act.put, List.setIfInBounds_toArray, List.set_cons_zero, List.set_cons_succ]))
          refine calm_call _ _ (by rfl) (by rfl) ?_ ?_
          focus
            apply Exists.intro
            apply Exists.intro
            refine ⟨fun wc hC hD => ?_, fun wc hC hD => ?_⟩
            focus (clear hD; obtain ⟨c0, c1, c2, c3, c4, c5, c6, c7⟩ := box8 (hC.blk _ List.mem_cons_self); clear hC; go_simp; first | done | with_reducible exact ⟨rfl, rfl⟩)
            clear hD
            with_reducible refine (HN.out _).mono ?_
            rintro e wx ⟨rfl, hb⟩
            exact ⟨_, rfl, hb, rfl, trivial⟩
          rintro _ rfl
          try simp only [Act.put, List.setIfInBounds_toArray, List.set_cons_zero, List.set_cons_succ]
          repeat (first
            | (refine calm_skip (by rfl) ?_; try simp only [Act.put, List.setIfInBounds_toArray, List.set_cons_zero, List.set_cons_succ])
            | (refine calm_plain (by rfl) (by rfl) ?_; apply Exists.intro; refine ⟨fun wc hC hD => ?_, ?_⟩; (focus (clear hD; obtain ⟨c0, c1, c2, c3, c4, c5, c6, c7⟩ := box8 (hC.blk _ List.mem_cons_self); clear hC; go_simp; first | done | with_reducible rfl)); try simp only [Act.put, List.setIfInBounds_toArray, List.set_cons_zero, List.set_cons_succ]))
          refine calm_end ?_
          intro w7 hL7 hF7
          clear hF7
          replace HL := Lib.hid hL7
          clear hL7
          go_wp2
          go_ret
          exact ⟨ret_bool HE.out.symm, HL.out.bel⟩
      · have da : decide (a < 0) = false := decide_eq_false h2
        go_upto_region 3 with fail
        refine wp_region_calm_lg (told [(7, fun u => u = .int .i64 (m : Int))]) (by kernel_rfl) (by kernel_rfl) (told_mono _) HL.out ?_
        repeat (first
          | (refine calm_skip (by rfl) ?_; try simp only [Act.put, List.setIfInBounds_toArray, List.set_cons_zero, List.set_cons_succ])
          | (refine calm_plain (by rfl) (by rfl) ?_; apply Exists.intro; refine ⟨fun wc hC hD => ?_, ?_⟩; (focus (clear hD; obtain ⟨c0, c1, c2, c3, c4, c5, c6, c7⟩ := box8 (hC.blk _ List.mem_cons_self); clear hC; go_simp; first | done | with_reducible rfl)); try simp only [Act.put, List.setIfInBounds_toArray, List.set_cons_zero, List.set_cons_succ]))
        refine calm_call _ _ (by rfl) (by rfl) ?_ ?_
        focus
          apply Exists.intro
          apply Exists.intro
          refine ⟨fun wc hC hD => ?_, fun wc hC hD => ?_⟩
          focus (clear hD; obtain ⟨c0, c1, c2, c3, c4, c5, c6, c7⟩ := box8 (hC.blk _ List.mem_cons_self); clear hC; go_simp; first | done | with_reducible exact ⟨rfl, rfl⟩)
          clear hD
          with_reducible refine (HX.out _ hC.bel).mono ?_
          rintro e wx ⟨rfl, hb⟩
          exact ⟨_, rfl, hb, rfl, trivial⟩
        rintro _ rfl
        try simp only [Act.put, List.setIfInBounds_toArray, List.set_cons_zero, List.set_cons_succ]
        repeat (first
          | (refine calm_skip (by rfl) ?_; try simp only [Act.put, List.setIfInBounds_toArray, List.set_cons_zero, List.set_cons_succ])
          | (refine calm_plain (by rfl) (by rfl) ?_; apply Exists.intro; refine ⟨fun wc hC hD => ?_, ?_⟩; (focus (clear hD; obtain ⟨c0, c1, c2, c3, c4, c5, c6, c7⟩ := box8 (hC.blk _ List.mem_cons_self); clear hC; go_simp; first | done | with_reducible rfl)); try simp only [Act.put, List.setIfInBounds_toArray, List.set_cons_zero, List.set_cons_succ]))
        refine calm_end ?_
        intro w7 hL7 hF7
        clear hF7
        replace HL := Lib.hid hL7
        clear hL7
        go_wp2
        go_ret
        exact ⟨ret_bool HE.out.symm, HL.out.bel⟩
    · have db : decide (b < 0) = false := decide_eq_false h3
      by_cases h2 : a < 0
      · have da : decide (a < 0) = true := decide_eq_true h2
        cases hn : eqN x.l no with
        | true =>
          replace HN := Lib.hid (fun W => (HN.out W).mono fun _ _ h => Tell.to h hn)
          have hE : readyB l x = decide (a < b) := readyB_of (by rw [HP.out, decide_eq_true_eq]; exact ⟨fun h => h.2.2.2, fun h => ⟨H1.out, fun h' => h'.2 (eqN_t.1 hn), by omega, h⟩⟩)
          have HE := Lib.hid hE; clear hE hn
          go_upto_region 3 with fail
          refine wp_region_calm_lg (told [(7, fun u => u = .int .i64 (m : Int)), (15, fun u => u = .bool true)]) (by kernel_rfl) (by kernel_rfl) (told_mono _) HL.out ?_
          repeat (first
            | (refine calm_skip (by rfl) ?_; try simp only [Act.put, List.setIfInBounds_toArray, List.set_cons_zero, List.set_cons_succ])
            | (refine calm_plain (by rfl) (by rfl) ?_; apply Exists.intro; refine ⟨fun wc hC hD => ?_, ?_⟩; (focus (clear hD; obtain ⟨c0, c1, c2, c3, c4, c5, c6, c7⟩ := box8 (hC.blk _ List.mem_cons_self); clear hC; go_simp; first | done | with_reducible rfl)); try simp only [Act.put, List.setIfInBounds_toArray, List.set_cons_zero, List.set_cons_succ]))
          refine calm_call _ _ (by rfl) (by rfl) ?_ ?_
          focus
            apply Exists.intro
            apply Exists.intro
            refine ⟨fun wc hC hD => ?_, fun wc hC hD => ?_⟩
            focus (clear hD; obtain ⟨c0, c1, c2, c3, c4, c5, c6, c7⟩ := box8 (hC.blk _ List.mem_cons_self); clear hC; go_simp; first | done | with_reducible exact ⟨rfl, rfl⟩)
            clear hD
            with_reducible refine (HX.out _ hC.bel).mono ?_
            rintro e wx ⟨rfl, hb⟩
            exact ⟨_, rfl, hb, rfl, trivial⟩
          rintro _ rfl
          try simp only [Act.put, List.setIfInBounds_toArray, List.set_cons_zero, List.set_cons_succ]
          repeat (first
            | (refine calm_skip (by rfl) ?_; try simp only [Act.put, List.setIfInBounds_toArray, List.set_cons_zero, List.set_cons_succ])
            | (refine calm_plain (by rfl) (by rfl) ?_; apply Exists.intro; refine ⟨fun wc hC hD => ?_, ?_⟩; (focus (clear hD; obtain ⟨c0, c1, c2, c3, c4, c5, c6, c7⟩ := box8 (hC.blk _ List.mem_cons_self); clear hC; go_simp; first | done | with_reducible rfl)); try simp only [Act.put, List.setIfInBounds_toArray, List.set_cons_zero, List.set_cons_succ]))
          refine calm_call _ _ (by rfl) (by rfl) ?_ ?_
          focus
            apply Exists.intro
            apply Exists.intro
            refine ⟨fun wc hC hD => ?_, fun wc hC hD => ?_⟩
            focus (clear hD; obtain ⟨c0, c1, c2, c3, c4, c5, c6, c7⟩ := box8 (hC.blk _ List.mem_cons_self); clear hC; go_simp; first | done | with_reducible exact ⟨rfl, rfl⟩)
            clear hD
            with_reducible refine (HN.out _).mono ?_
            rintro e wx ⟨rfl, hb⟩
            exact ⟨_, rfl, hb, rfl, trivial⟩
          rintro _ rfl
          try simp only [Act.put, List.setIfInBounds_toArray, List.set_cons_zero, List.set_cons_succ]
          repeat (first
            | (refine calm_skip (by rfl) ?_; try simp only [Act.put, List.setIfInBounds_toArray, List.set_cons_zero, List.set_cons_succ])
            | (refine calm_plain (by rfl) (by rfl) ?_; apply Exists.intro; refine ⟨fun wc hC hD => ?_, ?_⟩; (focus (clear hD; obtain ⟨c0, c1, c2, c3, c4, c5, c6, c7⟩ := box8 (hC.blk _ List.mem_cons_self); clear hC; go_simp; first | done | with_reducible rfl)); try simp only [Act.put, List.setIfInBounds_toArray, List.set_cons_zero, List.set_cons_succ]))
          refine calm_end ?_
          intro w7 hL7 hF7
          clear hF7
          replace HL := Lib.hid hL7
          clear hL7
          go_wp2
          go_ret
          exact ⟨ret_bool HE.out.symm, HL.out.bel⟩
        | false =>
          replace HN := Lib.hid (fun W => (HN.out W).mono fun _ _ h => Tell.to h hn)
          have hE : readyB l x = false := readyB_of (by rw [HP.out]; exact ⟨fun h => absurd ⟨h2, eqN_f.1 hn⟩ h.2.1, fun h => by cases h⟩)
          have HE := Lib.hid hE; clear hE hn
          go_upto_region 3 with fail
          refine wp_region_calm_lg (told [(7, fun u => u = .int .i64 (m : Int)), (15, fun u => u = .bool false)]) (by kernel_rfl) (by kernel_rfl) (told_mono _) HL.out ?_
          repeat (first
            | (refine calm_skip (by rfl) ?_; try simp only [Act.put, List.setIfInBounds_toArray, List.set_cons_zero, List.set_cons_succ])
            | (refine calm_plain (by rfl) (by rfl) ?_; apply Exists.intro; refine ⟨fun wc hC hD => ?_, ?_⟩; (focus (clear hD; obtain ⟨c0, c1, c2, c3, c4, c5, c6, c7⟩ := box8 (hC.blk _ List.mem_cons_self); clear hC; go_simp; first | done | with_reducible rfl)); try simp only [Act.put, List.setIfInBounds_toArray, List.set_cons_zero, List.set_cons_succ]))
          refine calm_call _ _ (by rfl) (by rfl) ?_ ?_
          focus
            apply Exists.intro
            apply Exists.intro
            refine ⟨fun wc hC hD => ?_, fun wc hC hD => ?_⟩
            focus (clear hD; obtain ⟨c0, c1, c2, c3, c4, c5, c6, c7⟩ := box8 (hC.blk _ List.mem_cons_self); clear hC; go_simp; first | done | with_reducible exact ⟨rfl, rfl⟩)
            clear hD
            with_reducible refine (HX.out _ hC.bel).mono ?_
            rintro e wx ⟨rfl, hb⟩
            exact ⟨_, rfl, hb, rfl, trivial⟩
          rintro _ rfl
          try simp only [Act.put, List.setIfInBounds_toArray, List.set_cons_zero, List.set_cons_succ]
          repeat (first
            | (refine calm_skip (by rfl) ?_; try simp only [Act.put, List.setIfInBounds_toArray, List.set_cons_zero, List.set_cons_succ])
            | (refine calm_plain (by rfl) (by rfl) ?_; apply Exists.intro; refine ⟨fun wc hC hD => ?_, ?_⟩; (focus (clear hD; obtain ⟨c0, c1, c2, c3, c4, c5, c6, c7⟩ := box8 (hC.blk _ List.mem_cons_self); clear hC; go_simp; first | done | with_reducible rfl)); try simp only [Act.put, List.setIfInBounds_toArray, List.set_cons_zero, List.set_cons_succ]))
          refine calm_call _ _ (by rfl) (by rfl) ?_ ?_
          focus
            apply Exists.intro
            apply Exists.intro
            refine ⟨fun wc hC hD => ?_, fun wc hC hD => ?_⟩
            focus (clear hD; obtain ⟨c0, c1, c2, c3, c4, c5, c6, c7⟩ := box8 (hC.blk _ List.mem_cons_self); clear hC; go_simp; first | done | with_reducible exact ⟨rfl, rfl⟩)
            clear hD
            with_reducible refine (HN.out _).mono ?_
            rintro e wx ⟨rfl, hb⟩
            exact ⟨_, rfl, hb, rfl, trivial⟩
          rintro _ rfl
          try simp only [Act.put, List.setIfInBounds_toArray, List.set_cons_zero, List.set_cons_succ]
          repeat (first
            | (refine calm_skip (by rfl) ?_; try simp only [Act.put, List.setIfInBounds_toArray, List.set_cons_zero, List.set_cons_succ])
            | (refine calm_plain (by rfl) (by rfl) ?_; apply Exists.intro; refine ⟨fun wc hC hD => ?_, ?_⟩; (focus (clear hD; obtain ⟨c0, c1, c2, c3, c4, c5, c6, c7⟩ := box8 (hC.blk _ List.mem_cons_self); clear hC; go_simp; first | done | with_reducible rfl)); try simp only [Act.put, List.setIfInBounds_toArray, List.set_cons_zero, List.set_cons_succ]))
          refine calm_end ?_
          intro w7 hL7 hF7
          clear hF7
          replace HL := Lib.hid hL7
          clear hL7
          go_wp2
          go_ret
          exact ⟨ret_bool HE.out.symm, HL.out.bel⟩
      · have hE : readyB l x = decide (a < b) := readyB_of (by rw [HP.out, decide_eq_true_eq]; exact ⟨fun h => h.2.2.2, fun h => ⟨H1.out, fun h' => h2 h'.1, by omega, h⟩⟩)
        have HE := Lib.hid hE; clear hE
        have da : decide (a < 0) = false := decide_eq_false h2
        go_upto_region 3 with fail
        refine wp_region_calm_lg (told [(7, fun u => u = .int .i64 (m : Int))]) (by kernel_rfl) (by kernel_rfl) (told_mono _) HL.out ?_
        repeat (first
          | (refine calm_skip (by rfl) ?_; try simp only [Act.put, List.setIfInBounds_toArray, List.set_cons_zero, List.set_cons_succ])
          | (refine calm_plain (by rfl) (by rfl) ?_; apply Exists.intro; refine ⟨fun wc hC hD => ?_, ?_⟩; (focus (clear hD; obtain ⟨c0, c1, c2, c3, c4, c5, c6, c7⟩ := box8 (hC.blk _ List.mem_cons_self); clear hC; go_simp; first | done | with_reducible rfl)); try simp only [Act.put, List.setIfInBounds_toArray, List.set_cons_zero, List.set_cons_succ]))
        refine calm_call _ _ (by rfl) (by rfl) ?_ ?_
        focus
          apply Exists.intro
          apply Exists.intro
          refine ⟨fun wc hC hD => ?_, fun wc hC hD => ?_⟩
          focus (clear hD; obtain ⟨c0, c1, c2, c3, c4, c5, c6, c7⟩ := box8 (hC.blk _ List.mem_cons_self); clear hC; go_simp; first | done | with_reducible exact ⟨rfl, rfl⟩)
          clear hD
          with_reducible refine (HX.out _ hC.bel).mono ?_
          rintro e wx ⟨rfl, hb⟩
          exact ⟨_, rfl, hb, rfl, trivial⟩
        rintro _ rfl
        try simp only [Act.put, List.setIfInBounds_toArray, List.set_cons_zero, List.set_cons_succ]
        repeat (first
          | (refine calm_skip (by rfl) ?_; try simp only [Act.put, List.setIfInBounds_toArray, List.set_cons_zero, List.set_cons_succ])
          | (refine calm_plain (by rfl) (by rfl) ?_; apply Exists.intro; refine ⟨fun wc hC hD => ?_, ?_⟩; (focus (clear hD; obtain ⟨c0, c1, c2, c3, c4, c5, c6, c7⟩ := box8 (hC.blk _ List.mem_cons_self); clear hC; go_simp; first | done | with_reducible rfl)); try simp only [Act.put, List.setIfInBounds_toArray, List.set_cons_zero, List.set_cons_succ]))
        refine calm_end ?_
        intro w7 hL7 hF7
        clear hF7
        replace HL := Lib.hid hL7
        clear hL7
        go_wp2
        go_ret
        exact ⟨ret_bool HE.out.symm, HL.out.bel⟩
  · have hk : (x.i.k != (m : Int)) = true := by simp [h1]
    have hE : readyB l x = false := readyB_of (by rw [HP.out]; exact ⟨fun h => absurd h.1 h1, fun h => by cases h⟩)
    have HE := Lib.hid hE; clear hE h1
    go_upto_region 3 with fail
    refine wp_region_calm_lg (told [(7, fun u => u = .int .i64 (m : Int))]) (by kernel_rfl) (by kernel_rfl) (told_mono _) HL.out ?_
    repeat (first
      | (refine calm_skip (by rfl) ?_; try simp only [Act.put, List.setIfInBounds_toArray, List.set_cons_zero, List.set_cons_succ])
      | (refine calm_plain (by rfl) (by rfl) ?_; apply Exists.intro; refine ⟨fun wc hC hD => ?_, ?_⟩; (focus (clear hD; obtain ⟨c0, c1, c2, c3, c4, c5, c6, c7⟩ := box8 (hC.blk _ List.mem_cons_self); clear hC; go_simp; first | done | with_reducible rfl)); try simp only [Act.put, List.setIfInBounds_toArray, List.set_cons_zero, List.set_cons_succ]))
    refine calm_call _ _ (by rfl) (by rfl) ?_ ?_
    focus
      apply Exists.intro
      apply Exists.intro
      refine ⟨fun wc hC hD => ?_, fun wc hC hD => ?_⟩
      focus (clear hD; obtain ⟨c0, c1, c2, c3, c4, c5, c6, c7⟩ := box8 (hC.blk _ List.mem_cons_self); clear hC; go_simp; first | done | with_reducible exact ⟨rfl, rfl⟩)
      clear hD
      with_reducible refine (HX.out _ hC.bel).mono ?_
      rintro e wx ⟨rfl, hb⟩
      exact ⟨_, rfl, hb, rfl, trivial⟩
    rintro _ rfl
    try simp only [Act.put, List.setIfInBounds_toArray, List.set_cons_zero, List.set_cons_succ]
    repeat (first
      | (refine calm_skip (by rfl) ?_; try simp only [Act.put, List.setIfInBounds_toArray, List.set_cons_zero, List.set_cons_succ])
      | (refine calm_plain (by rfl) (by rfl) ?_; apply Exists.intro; refine ⟨fun wc hC hD => ?_, ?_⟩; (focus (clear hD; obtain ⟨c0, c1, c2, c3, c4, c5, c6, c7⟩ := box8 (hC.blk _ List.mem_cons_self); clear hC; go_simp; first | done | with_reducible rfl)); try simp only [Act.put, List.setIfInBounds_toArray, List.set_cons_zero, List.set_cons_succ]))
    refine calm_end ?_
    intro w7 hL7 hF7
    clear hF7
    replace HL := Lib.hid hL7
    clear hL7
    go_wp2
    go_ret
    exact ⟨ret_bool HE.out.symm, HL.out.bel⟩

end Go.Proofs.Ytghiipoeedfkhaa
