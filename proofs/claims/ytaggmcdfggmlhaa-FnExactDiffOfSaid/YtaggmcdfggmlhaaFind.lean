/-
  Where a name stands in a row in order: contracts of the program's search, for marks, items, names.
-/
import Derived.Test.YtaggmcdfggmlhaaRowN
namespace Go.Proofs.Ytaggmcdfggmlhaa
set_option linter.unusedSimpArgs false
set_option linter.unusedVariables false
open Go.ChangeShapes Go.WideShapes Go.ChangeAt Go.RowKit

theorem cmpN_zero (a b : Nm) : cmpN a b = 0 ↔ a = b := by
  cases a; cases b
  unfold cmpN cmpI
  simp only [Nm.mk.injEq]
  constructor
  · intro h
    repeat' split at h
    all_goals omega
  · rintro ⟨rfl, rfl⟩
    simp
/-- From b on none is of a lesser name. -/
def HighFrom {α : Type} (f : α → Nm) (l : List α) (n : Nm) (b : Nat) : Prop := ∀ i (h : i < l.length), b ≤ i → ¬ LessP (f l[i]) n
theorem high_end {α : Type} (f : α → Nm) (l : List α) (n : Nm) : HighFrom f l n l.length := fun i h hb => by omega
theorem high_at {α : Type} {f : α → Nm} {l : List α} {n : Nm} (hr : Rise f l) {b h : Nat} (hb : HighFrom f l n b) (hh : h < l.length) (hn : ¬ LessP (f l[h]) n) : HighFrom f l n h := fun i hi hle => by
  by_cases e : i = h
  · subst e; exact hn
  · exact fun hc => hn (less_trans (rise_lt hr hi (by omega)) hc)
theorem low_at {α : Type} {f : α → Nm} {l : List α} {n : Nm} (hr : Rise f l) {h : Nat} (hh : h < l.length) (hn : LessP (f l[h]) n) : LowTo f l n (h + 1) := fun i hi hle => by
  by_cases e : i = h
  · subst e; exact hn
  · exact less_trans (rise_lt hr hh (by omega)) hn

set_option maxRecDepth 100000 in
set_option maxHeartbeats 4000000 in
/-- The comparison that the search makes. -/
theorem impl_cmpK (x : Nm) (n : Nm) (w : World) : Calls Try.prog 184 #[vN x, vN n] w (Back (.int .i64 (cmpN (nmK x) n)) w) := by
  have hL := ((Lg.start w).alloc (.cells #[.int .i64 x.c, .int .i64 x.k] 113)).alloc (.cells #[.int .i64 n.c, .int .i64 n.k] 89)
  simp only [World.size_alloc] at hL
  have HL := Lib.hid hL; clear hL
  go_enter Try.func184, Try.ntmps184
  go_upto_region 1 with fail
  refine wp_region_calm_lg (told [(2, fun u => u = vN (nmK x)), (4, fun u => u = .int .i64 (cmpN (nmK x) n))]) (by kernel_rfl) (by kernel_rfl) (told_mono _) HL.out ?_
  repeat (first
    | (refine calm_skip (by rfl) ?_; try simp only [Act.put, List.setIfInBounds_toArray, List.set_cons_zero, List.set_cons_succ])
    | (refine calm_plain (by rfl) (by rfl) ?_; apply Exists.intro; refine ⟨fun wc hC hD => ?_, ?_⟩; (focus (clear hD; obtain ⟨b0, b1⟩ := box2 (hC.blk _ List.mem_cons_self); obtain ⟨c0, c1⟩ := box2 (hC.blk _ (List.mem_cons_of_mem _ List.mem_cons_self)); clear hC; go_simp; first | done | with_reducible rfl)); try simp only [Act.put, List.setIfInBounds_toArray, List.set_cons_zero, List.set_cons_succ]))
  refine calm_call _ _ (by rfl) (by rfl) ?_ ?_
  focus
    apply Exists.intro
    apply Exists.intro
    refine ⟨fun wc hC hD => ?_, fun wc hC hD => ?_⟩
    focus (clear hD; obtain ⟨b0, b1⟩ := box2 (hC.blk _ List.mem_cons_self); obtain ⟨c0, c1⟩ := box2 (hC.blk _ (List.mem_cons_of_mem _ List.mem_cons_self)); clear hC; go_simp; first | done | with_reducible exact ⟨rfl, rfl⟩ | with_reducible rfl)
    clear hD
    with_reducible refine (impl_nmK x _).mono ?_
    rintro e wx ⟨rfl, hb⟩
    exact ⟨_, rfl, hb, rfl, trivial⟩
  rintro _ rfl
  try simp only [Act.put, List.setIfInBounds_toArray, List.set_cons_zero, List.set_cons_succ]
  repeat (first
    | (refine calm_skip (by rfl) ?_; try simp only [Act.put, List.setIfInBounds_toArray, List.set_cons_zero, List.set_cons_succ])
    | (refine calm_plain (by rfl) (by rfl) ?_; apply Exists.intro; refine ⟨fun wc hC hD => ?_, ?_⟩; (focus (clear hD; obtain ⟨b0, b1⟩ := box2 (hC.blk _ List.mem_cons_self); obtain ⟨c0, c1⟩ := box2 (hC.blk _ (List.mem_cons_of_mem _ List.mem_cons_self)); clear hC; go_simp; first | done | with_reducible rfl)); try simp only [Act.put, List.setIfInBounds_toArray, List.set_cons_zero, List.set_cons_succ]))
  refine calm_call _ _ (by rfl) (by rfl) ?_ ?_
  focus
    apply Exists.intro
    apply Exists.intro
    refine ⟨fun wc hC hD => ?_, fun wc hC hD => ?_⟩
    focus (clear hD; obtain ⟨b0, b1⟩ := box2 (hC.blk _ List.mem_cons_self); obtain ⟨c0, c1⟩ := box2 (hC.blk _ (List.mem_cons_of_mem _ List.mem_cons_self)); clear hC; go_simp; first | done | with_reducible exact ⟨rfl, rfl⟩ | with_reducible rfl)
    clear hD
    with_reducible refine (impl_compare _ _ _).mono ?_
    rintro e wx ⟨rfl, hb⟩
    exact ⟨_, rfl, hb, rfl, trivial⟩
  rintro _ rfl
  try simp only [Act.put, List.setIfInBounds_toArray, List.set_cons_zero, List.set_cons_succ]
  repeat (first
    | (refine calm_skip (by rfl) ?_; try simp only [Act.put, List.setIfInBounds_toArray, List.set_cons_zero, List.set_cons_succ])
    | (refine calm_plain (by rfl) (by rfl) ?_; apply Exists.intro; refine ⟨fun wc hC hD => ?_, ?_⟩; (focus (clear hD; obtain ⟨b0, b1⟩ := box2 (hC.blk _ List.mem_cons_self); obtain ⟨c0, c1⟩ := box2 (hC.blk _ (List.mem_cons_of_mem _ List.mem_cons_self)); clear hC; go_simp; first | done | with_reducible rfl)); try simp only [Act.put, List.setIfInBounds_toArray, List.set_cons_zero, List.set_cons_succ]))
  refine calm_end ?_
  intro w7 hL7 hF7
  clear hF7
  replace HL := Lib.hid hL7
  clear hL7
  go_wp2
  go_ret
  exact ⟨rfl, HL.out.bel⟩

set_option maxRecDepth 100000 in
set_option maxHeartbeats 8000000 in
theorem impl_searchK (v : Value) (l : List Nm) (n : Nm) (w : World) (hv : Sl w w.heap.size 2 encN v l) (hl : l.length ≤ 140737488351232) (hr : Rise nmK l) :
    Calls Try.prog 183 #[v, vN n, .func (.func 184) #[] #[]] w (Back (.tuple #[.int .i64 (spot nmK l n), .bool (thereB nmK l n)]) w) := by
  obtain ⟨A, c, rfl⟩ := hv.form
  have HV := Lib.hid hv; have HR := Lib.hid hr; clear hv hr
  have HL0 := Lib.hid ((Lg.start w).alloc (.cells #[.int .i64 n.c, .int .i64 n.k] 89))
  go_enter Try.func183, Try.ntmps183
  go_wp2
  go_loopw [9, 10] (fun i j wr => ∃ a b : Nat, a ≤ b ∧ b ≤ l.length ∧ i = .int .i64 a ∧ j = .int .i64 b ∧ LowTo nmK l n a ∧ HighFrom nmK l n b ∧ Lg w wr [(w.heap.size, .cells #[.int .i64 n.c, .int .i64 n.k] 89)] []) (fun i j _ => (intOf j).toNat - (intOf i).toNat)
  case atStart => exact ⟨0, l.length, by omega, by omega, rfl, rfl, lowTo_zero _ _ _, high_end _ _ _, HL0.out⟩
  case round =>
    obtain ⟨a, b, hab, hbl, rfl, rfl, hlo, hhi, hL⟩ := hrel
    have HLO := Lib.hid hlo; have HHI := Lib.hid hhi; have HL := Lib.hid hL; clear hlo hhi hL
    by_cases hlt : a < b
    · obtain ⟨h, hh⟩ : ∃ h, h = (a + b) / 2 := ⟨_, rfl⟩
      have hha : a ≤ h := by omega
      have hhb : h < b := by omega
      have hhl : h < l.length := by omega
      have eh : ((a : Int) + (b : Int)) / 2 = (h : Int) := by omega
      obtain ⟨x, hx⟩ : ∃ x, x = l[h] := ⟨_, rfl⟩
      have HV1 := Lib.hid (fun W (hb : Below w.heap.size w W) => (HV.out.below hb).two h hhl)
      rw [← hx] at HV1
      have HXX := Lib.hid hx; clear hx
      have HH := Lib.hid hh; clear hh
      have HCM := Lib.hid (fun W => impl_cmpK x n W)
      have HCL := Lib.hid (cmpN_less (nmK x) n)
      obtain ⟨q, hq⟩ : ∃ q, q = cmpN (nmK x) n := ⟨_, rfl⟩
      rw [← hq] at HCM HCL
      clear hq
      obtain ⟨a1, c1, e5, -, -, -⟩ := HV1.out _ HL.out.bel
      simp only [Value.slice.injEq, true_and] at e5
      obtain ⟨rfl, rfl⟩ := e5
      by_cases h3 : q < 0
      · have d3 : decide (q < 0) = true := decide_eq_true h3
        have HE := Lib.hid (show LessP (nmK l[h]) n from by rw [← HXX.out]; exact Classical.byContradiction (fun hc => by have := HCL.out.2 hc; omega))
        go_upto_region 5 with fail
        try rw [eh]
        refine wp_region_calm_lg (told [(6, fun u => u = .int .i64 q)]) (by kernel_rfl) (by kernel_rfl) (told_mono _) HL.out ?_
        repeat (first
          | (refine calm_skip (by rfl) ?_; try simp only [Act.put, List.setIfInBounds_toArray, List.set_cons_zero, List.set_cons_succ])
          | (refine calm_plain (by rfl) (by rfl) ?_; apply Exists.intro; refine ⟨fun wc hC hD => ?_, ?_⟩; (focus (clear hD; obtain ⟨b0, b1⟩ := box2 (hC.blk _ List.mem_cons_self); obtain ⟨p1, q1, e1, -, c0, c1⟩ := HV1.out _ hC.bel; simp only [Value.slice.injEq, true_and] at e1; obtain ⟨e1, e3⟩ := e1; cases e1; clear e3; clear hC; go_simp; first | done | with_reducible rfl)); try simp only [Act.put, List.setIfInBounds_toArray, List.set_cons_zero, List.set_cons_succ]))
        refine calm_call _ _ (by rfl) (by rfl) ?_ ?_
        focus
          apply Exists.intro
          apply Exists.intro
          refine ⟨fun wc hC hD => ?_, fun wc hC hD => ?_⟩
          focus (clear hD; obtain ⟨b0, b1⟩ := box2 (hC.blk _ List.mem_cons_self); obtain ⟨p1, q1, e1, -, c0, c1⟩ := HV1.out _ hC.bel; simp only [Value.slice.injEq, true_and] at e1; obtain ⟨e1, e3⟩ := e1; cases e1; clear e3; clear hC; go_simp; first | done | with_reducible exact ⟨rfl, rfl⟩ | with_reducible rfl)
          clear hD
          with_reducible refine (HCM.out _).mono ?_
          rintro e wx ⟨rfl, hb⟩
          exact ⟨_, rfl, hb, rfl, trivial⟩
        rintro _ rfl
        try simp only [Act.put, List.setIfInBounds_toArray, List.set_cons_zero, List.set_cons_succ]
        repeat (first
          | (refine calm_skip (by rfl) ?_; try simp only [Act.put, List.setIfInBounds_toArray, List.set_cons_zero, List.set_cons_succ])
          | (refine calm_plain (by rfl) (by rfl) ?_; apply Exists.intro; refine ⟨fun wc hC hD => ?_, ?_⟩; (focus (clear hD; obtain ⟨b0, b1⟩ := box2 (hC.blk _ List.mem_cons_self); obtain ⟨p1, q1, e1, -, c0, c1⟩ := HV1.out _ hC.bel; simp only [Value.slice.injEq, true_and] at e1; obtain ⟨e1, e3⟩ := e1; cases e1; clear e3; clear hC; go_simp; first | done | with_reducible rfl)); try simp only [Act.put, List.setIfInBounds_toArray, List.set_cons_zero, List.set_cons_succ]))
        refine calm_end ?_
        intro w7 hL7 hF7
        clear hF7
        replace HL := Lib.hid hL7
        clear hL7
        go_wp2
        go_roundw
        case rel => exact ⟨h + 1, b, by omega, by omega, by go_num, rfl, low_at HR.out hhl HE.out, HHI.out, HL.out⟩
        case measure => simp [intOf]; omega
      · have d3 : decide (q < 0) = false := decide_eq_false h3
        have HE := Lib.hid (show ¬ LessP (nmK l[h]) n from by rw [← HXX.out]; exact HCL.out.1 (by omega))
        go_upto_region 5 with fail
        try rw [eh]
        refine wp_region_calm_lg (told [(6, fun u => u = .int .i64 q)]) (by kernel_rfl) (by kernel_rfl) (told_mono _) HL.out ?_
        repeat (first
          | (refine calm_skip (by rfl) ?_; try simp only [Act.put, List.setIfInBounds_toArray, List.set_cons_zero, List.set_cons_succ])
          | (refine calm_plain (by rfl) (by rfl) ?_; apply Exists.intro; refine ⟨fun wc hC hD => ?_, ?_⟩; (focus (clear hD; obtain ⟨b0, b1⟩ := box2 (hC.blk _ List.mem_cons_self); obtain ⟨p1, q1, e1, -, c0, c1⟩ := HV1.out _ hC.bel; simp only [Value.slice.injEq, true_and] at e1; obtain ⟨e1, e3⟩ := e1; cases e1; clear e3; clear hC; go_simp; first | done | with_reducible rfl)); try simp only [Act.put, List.setIfInBounds_toArray, List.set_cons_zero, List.set_cons_succ]))
        refine calm_call _ _ (by rfl) (by rfl) ?_ ?_
        focus
          apply Exists.intro
          apply Exists.intro
          refine ⟨fun wc hC hD => ?_, fun wc hC hD => ?_⟩
          focus (clear hD; obtain ⟨b0, b1⟩ := box2 (hC.blk _ List.mem_cons_self); obtain ⟨p1, q1, e1, -, c0, c1⟩ := HV1.out _ hC.bel; simp only [Value.slice.injEq, true_and] at e1; obtain ⟨e1, e3⟩ := e1; cases e1; clear e3; clear hC; go_simp; first | done | with_reducible exact ⟨rfl, rfl⟩ | with_reducible rfl)
          clear hD
          with_reducible refine (HCM.out _).mono ?_
          rintro e wx ⟨rfl, hb⟩
          exact ⟨_, rfl, hb, rfl, trivial⟩
        rintro _ rfl
        try simp only [Act.put, List.setIfInBounds_toArray, List.set_cons_zero, List.set_cons_succ]
        repeat (first
          | (refine calm_skip (by rfl) ?_; try simp only [Act.put, List.setIfInBounds_toArray, List.set_cons_zero, List.set_cons_succ])
          | (refine calm_plain (by rfl) (by rfl) ?_; apply Exists.intro; refine ⟨fun wc hC hD => ?_, ?_⟩; (focus (clear hD; obtain ⟨b0, b1⟩ := box2 (hC.blk _ List.mem_cons_self); obtain ⟨p1, q1, e1, -, c0, c1⟩ := HV1.out _ hC.bel; simp only [Value.slice.injEq, true_and] at e1; obtain ⟨e1, e3⟩ := e1; cases e1; clear e3; clear hC; go_simp; first | done | with_reducible rfl)); try simp only [Act.put, List.setIfInBounds_toArray, List.set_cons_zero, List.set_cons_succ]))
        refine calm_end ?_
        intro w7 hL7 hF7
        clear hF7
        replace HL := Lib.hid hL7
        clear hL7
        go_wp2
        go_roundw
        case rel => exact ⟨a, h, by omega, by omega, rfl, by go_num, HLO.out, high_at HR.out HHI.out hhl HE.out, HL.out⟩
        case measure => simp [intOf]; omega
    · obtain rfl : a = b := by omega
      have HS := Lib.hid (spot_is hbl HLO.out (fun hk => HHI.out a hk (Nat.le_refl _)))
      by_cases hal : a < l.length
      · obtain ⟨x, hx⟩ : ∃ x, x = l[a] := ⟨_, rfl⟩
        have HV1 := Lib.hid (fun W (hb : Below w.heap.size w W) => (HV.out.below hb).two a hal)
        rw [← hx] at HV1
        have HXX := Lib.hid hx; clear hx
        have HCM := Lib.hid (fun W => impl_cmpK x n W)
        have HCZ := Lib.hid (cmpN_zero (nmK x) n)
        obtain ⟨q, hq⟩ : ∃ q, q = cmpN (nmK x) n := ⟨_, rfl⟩
        rw [← hq] at HCM HCZ
        clear hq
        obtain ⟨a1, c1, e5, -, -, -⟩ := HV1.out _ HL.out.bel
        simp only [Value.slice.injEq, true_and] at e5
        obtain ⟨rfl, rfl⟩ := e5
        have dl : decide ((a : Int) < (l.length : Int)) = true := by simp; omega
        have dl' : decide (a < l.length) = true := by simp; omega
        have HT := Lib.hid (show thereB nmK l n = (q == 0) from by
          rw [Bool.eq_iff_iff, thereB_iff, beq_iff_eq, HCZ.out, HXX.out]
          unfold ThereP
          constructor
          · rintro ⟨h1, h2⟩; simpa only [HS.out] using h2
          · intro h1; exact ⟨by rw [HS.out]; exact hal, by simpa only [HS.out] using h1⟩)
        go_upto_region 8 with fail
        refine wp_region_calm_lg (told [(11, fun u => u = .int .i64 q)]) (by kernel_rfl) (by kernel_rfl) (told_mono _) HL.out ?_
        repeat (first
          | (refine calm_skip (by rfl) ?_; try simp only [Act.put, List.setIfInBounds_toArray, List.set_cons_zero, List.set_cons_succ])
          | (refine calm_plain (by rfl) (by rfl) ?_; apply Exists.intro; refine ⟨fun wc hC hD => ?_, ?_⟩; (focus (clear hD; obtain ⟨b0, b1⟩ := box2 (hC.blk _ List.mem_cons_self); obtain ⟨p1, q1, e1, -, c0, c1⟩ := HV1.out _ hC.bel; simp only [Value.slice.injEq, true_and] at e1; obtain ⟨e1, e3⟩ := e1; cases e1; clear e3; clear hC; go_simp; first | done | with_reducible rfl)); try simp only [Act.put, List.setIfInBounds_toArray, List.set_cons_zero, List.set_cons_succ]))
        refine calm_call _ _ (by rfl) (by rfl) ?_ ?_
        focus
          apply Exists.intro
          apply Exists.intro
          refine ⟨fun wc hC hD => ?_, fun wc hC hD => ?_⟩
          focus (clear hD; obtain ⟨b0, b1⟩ := box2 (hC.blk _ List.mem_cons_self); obtain ⟨p1, q1, e1, -, c0, c1⟩ := HV1.out _ hC.bel; simp only [Value.slice.injEq, true_and] at e1; obtain ⟨e1, e3⟩ := e1; cases e1; clear e3; clear hC; go_simp; first | done | with_reducible exact ⟨rfl, rfl⟩ | with_reducible rfl)
          clear hD
          with_reducible refine (HCM.out _).mono ?_
          rintro e wx ⟨rfl, hb⟩
          exact ⟨_, rfl, hb, rfl, trivial⟩
        rintro _ rfl
        try simp only [Act.put, List.setIfInBounds_toArray, List.set_cons_zero, List.set_cons_succ]
        repeat (first
          | (refine calm_skip (by rfl) ?_; try simp only [Act.put, List.setIfInBounds_toArray, List.set_cons_zero, List.set_cons_succ])
          | (refine calm_plain (by rfl) (by rfl) ?_; apply Exists.intro; refine ⟨fun wc hC hD => ?_, ?_⟩; (focus (clear hD; obtain ⟨b0, b1⟩ := box2 (hC.blk _ List.mem_cons_self); obtain ⟨p1, q1, e1, -, c0, c1⟩ := HV1.out _ hC.bel; simp only [Value.slice.injEq, true_and] at e1; obtain ⟨e1, e3⟩ := e1; cases e1; clear e3; clear hC; go_simp; first | done | with_reducible rfl)); try simp only [Act.put, List.setIfInBounds_toArray, List.set_cons_zero, List.set_cons_succ]))
        refine calm_end ?_
        intro w7 hL7 hF7
        clear hF7
        replace HL := Lib.hid hL7
        clear hL7
        go_wp2
        go_ret2
        refine ⟨?_, HL.out.bel⟩
        rw [HS.out, HT.out]
        rfl
      · have HT := Lib.hid (show thereB nmK l n = false from there_no (fun ⟨h1, _⟩ => hal (by rw [← HS.out]; exact h1)))
        have dl : decide ((a : Int) < (l.length : Int)) = false := by simp; omega
        have dl' : decide (a < l.length) = false := by simp; omega
        go_upto_region 8 with fail
        refine wp_region_calm_lg (told []) (by kernel_rfl) (by kernel_rfl) (told_mono _) HL.out ?_
        repeat (first
          | (refine calm_skip (by rfl) ?_; try simp only [Act.put, List.setIfInBounds_toArray, List.set_cons_zero, List.set_cons_succ])
          | (refine calm_plain (by rfl) (by rfl) ?_; apply Exists.intro; refine ⟨fun wc hC hD => ?_, ?_⟩; (focus (clear hD; obtain ⟨b0, b1⟩ := box2 (hC.blk _ List.mem_cons_self); clear hC; go_simp; first | done | with_reducible rfl)); try simp only [Act.put, List.setIfInBounds_toArray, List.set_cons_zero, List.set_cons_succ]))
        refine calm_end ?_
        intro w7 hL7 hF7
        clear hF7
        replace HL := Lib.hid hL7
        clear hL7
        go_wp2
        go_ret2
        refine ⟨?_, HL.out.bel⟩
        rw [HS.out, HT.out]
        rfl

set_option maxRecDepth 100000 in
theorem impl_findK (v : Value) (l : List Nm) (n : Nm) (w : World) (hv : Sl w w.heap.size 2 encN v l) (hl : l.length ≤ 140737488351232) (hr : Rise nmK l) :
    Calls Try.prog 137 #[v, vN n] w (Back (.tuple #[.int .i64 (spot nmK l n), .bool (thereB nmK l n)]) w) := by
  have HS := Lib.hid (fun W (hb : Below w.heap.size w W) => impl_searchK v l n W ((hv.below hb).more hb.size) hl hr)
  obtain ⟨A, c, rfl⟩ := hv.form
  clear hv
  have HL := Lib.hid ((Lg.start w).alloc (.cells #[.int .i64 n.c, .int .i64 n.k] 89))
  go_enter Try.func137, Try.ntmps137
  go_wp2_with fail
  refine (HS.out _ HL.out.bel).mono ?_
  rintro e w1 ⟨rfl, hb⟩
  replace HL := Lib.hid (HL.out.lift hb); clear hb
  go_wp2
  go_ret2
  exact ⟨rfl, HL.out.bel⟩

set_option maxRecDepth 100000 in
set_option maxHeartbeats 4000000 in
/-- The comparison that the search makes. -/
theorem impl_cmpM (x : Im) (n : Nm) (w : World) : Calls Try.prog 186 #[vM x, vN n] w (Back (.int .i64 (cmpN x.i n)) w) := by
  have hL := ((Lg.start w).alloc (.cells #[.int .i64 x.i.c, .int .i64 x.i.k, .int .i64 x.l.c, .int .i64 x.l.k, .int .i64 x.r.c, .int .i64 x.r.k, .string x.t, .bool x.g] 91)).alloc (.cells #[.int .i64 n.c, .int .i64 n.k] 89)
  simp only [World.size_alloc] at hL
  have HL := Lib.hid hL; clear hL
  go_enter Try.func186, Try.ntmps186
  go_upto_region 1 with fail
  refine wp_region_calm_lg (told [(2, fun u => u = vN x.i), (4, fun u => u = .int .i64 (cmpN x.i n))]) (by kernel_rfl) (by kernel_rfl) (told_mono _) HL.out ?_
  repeat (first
    | (refine calm_skip (by rfl) ?_; try simp only [Act.put, List.setIfInBounds_toArray, List.set_cons_zero, List.set_cons_succ])
    | (refine calm_plain (by rfl) (by rfl) ?_; apply Exists.intro; refine ⟨fun wc hC hD => ?_, ?_⟩; (focus (clear hD; obtain ⟨b0, b1⟩ := box2 (hC.blk _ List.mem_cons_self); obtain ⟨c0, c1, c2, c3, c4, c5, c6, c7⟩ := box8 (hC.blk _ (List.mem_cons_of_mem _ List.mem_cons_self)); clear hC; go_simp; first | done | with_reducible rfl)); try simp only [Act.put, List.setIfInBounds_toArray, List.set_cons_zero, List.set_cons_succ]))
  refine calm_call _ _ (by rfl) (by rfl) ?_ ?_
  focus
    apply Exists.intro
    apply Exists.intro
    refine ⟨fun wc hC hD => ?_, fun wc hC hD => ?_⟩
    focus (clear hD; obtain ⟨b0, b1⟩ := box2 (hC.blk _ List.mem_cons_self); obtain ⟨c0, c1, c2, c3, c4, c5, c6, c7⟩ := box8 (hC.blk _ (List.mem_cons_of_mem _ List.mem_cons_self)); clear hC; go_simp; first | done | with_reducible exact ⟨rfl, rfl⟩ | with_reducible rfl)
    clear hD
    with_reducible refine (impl_nmM x _).mono ?_
    rintro e wx ⟨rfl, hb⟩
    exact ⟨_, rfl, hb, rfl, trivial⟩
  rintro _ rfl
  try simp only [Act.put, List.setIfInBounds_toArray, List.set_cons_zero, List.set_cons_succ]
  repeat (first
    | (refine calm_skip (by rfl) ?_; try simp only [Act.put, List.setIfInBounds_toArray, List.set_cons_zero, List.set_cons_succ])
    | (refine calm_plain (by rfl) (by rfl) ?_; apply Exists.intro; refine ⟨fun wc hC hD => ?_, ?_⟩; (focus (clear hD; obtain ⟨b0, b1⟩ := box2 (hC.blk _ List.mem_cons_self); obtain ⟨c0, c1, c2, c3, c4, c5, c6, c7⟩ := box8 (hC.blk _ (List.mem_cons_of_mem _ List.mem_cons_self)); clear hC; go_simp; first | done | with_reducible rfl)); try simp only [Act.put, List.setIfInBounds_toArray, List.set_cons_zero, List.set_cons_succ]))
  refine calm_call _ _ (by rfl) (by rfl) ?_ ?_
  focus
    apply Exists.intro
    apply Exists.intro
    refine ⟨fun wc hC hD => ?_, fun wc hC hD => ?_⟩
    focus (clear hD; obtain ⟨b0, b1⟩ := box2 (hC.blk _ List.mem_cons_self); obtain ⟨c0, c1, c2, c3, c4, c5, c6, c7⟩ := box8 (hC.blk _ (List.mem_cons_of_mem _ List.mem_cons_self)); clear hC; go_simp; first | done | with_reducible exact ⟨rfl, rfl⟩ | with_reducible rfl)
    clear hD
    with_reducible refine (impl_compare _ _ _).mono ?_
    rintro e wx ⟨rfl, hb⟩
    exact ⟨_, rfl, hb, rfl, trivial⟩
  rintro _ rfl
  try simp only [Act.put, List.setIfInBounds_toArray, List.set_cons_zero, List.set_cons_succ]
  repeat (first
    | (refine calm_skip (by rfl) ?_; try simp only [Act.put, List.setIfInBounds_toArray, List.set_cons_zero, List.set_cons_succ])
    | (refine calm_plain (by rfl) (by rfl) ?_; apply Exists.intro; refine ⟨fun wc hC hD => ?_, ?_⟩; (focus (clear hD; obtain ⟨b0, b1⟩ := box2 (hC.blk _ List.mem_cons_self); obtain ⟨c0, c1, c2, c3, c4, c5, c6, c7⟩ := box8 (hC.blk _ (List.mem_cons_of_mem _ List.mem_cons_self)); clear hC; go_simp; first | done | with_reducible rfl)); try simp only [Act.put, List.setIfInBounds_toArray, List.set_cons_zero, List.set_cons_succ]))
  refine calm_end ?_
  intro w7 hL7 hF7
  clear hF7
  replace HL := Lib.hid hL7
  clear hL7
  go_wp2
  go_ret
  exact ⟨rfl, HL.out.bel⟩

set_option maxRecDepth 100000 in
set_option maxHeartbeats 8000000 in
theorem impl_searchM (v : Value) (l : List Im) (n : Nm) (w : World) (hv : Sl w w.heap.size 8 encM v l) (hl : l.length ≤ 140737488351232) (hr : Rise Im.i l) :
    Calls Try.prog 185 #[v, vN n, .func (.func 186) #[] #[]] w (Back (.tuple #[.int .i64 (spot Im.i l n), .bool (thereB Im.i l n)]) w) := by
  obtain ⟨A, c, rfl⟩ := hv.form
  have HV := Lib.hid hv; have HR := Lib.hid hr; clear hv hr
  have HL0 := Lib.hid ((Lg.start w).alloc (.cells #[.int .i64 n.c, .int .i64 n.k] 89))
  go_enter Try.func185, Try.ntmps185
  go_wp2
  go_loopw [9, 10] (fun i j wr => ∃ a b : Nat, a ≤ b ∧ b ≤ l.length ∧ i = .int .i64 a ∧ j = .int .i64 b ∧ LowTo Im.i l n a ∧ HighFrom Im.i l n b ∧ Lg w wr [(w.heap.size, .cells #[.int .i64 n.c, .int .i64 n.k] 89)] []) (fun i j _ => (intOf j).toNat - (intOf i).toNat)
  case atStart => exact ⟨0, l.length, by omega, by omega, rfl, rfl, lowTo_zero _ _ _, high_end _ _ _, HL0.out⟩
  case round =>
    obtain ⟨a, b, hab, hbl, rfl, rfl, hlo, hhi, hL⟩ := hrel
    have HLO := Lib.hid hlo; have HHI := Lib.hid hhi; have HL := Lib.hid hL; clear hlo hhi hL
    by_cases hlt : a < b
    · obtain ⟨h, hh⟩ : ∃ h, h = (a + b) / 2 := ⟨_, rfl⟩
      have hha : a ≤ h := by omega
      have hhb : h < b := by omega
      have hhl : h < l.length := by omega
      have eh : ((a : Int) + (b : Int)) / 2 = (h : Int) := by omega
      obtain ⟨x, hx⟩ : ∃ x, x = l[h] := ⟨_, rfl⟩
      have HV1 := Lib.hid (fun W (hb : Below w.heap.size w W) => (HV.out.below hb).item h hhl)
      rw [← hx] at HV1
      have HXX := Lib.hid hx; clear hx
      have HH := Lib.hid hh; clear hh
      have HCM := Lib.hid (fun W => impl_cmpM x n W)
      have HCL := Lib.hid (cmpN_less x.i n)
      obtain ⟨q, hq⟩ : ∃ q, q = cmpN x.i n := ⟨_, rfl⟩
      rw [← hq] at HCM HCL
      clear hq
      obtain ⟨a1, c1, e5, -, -, -, -, -, -, -, -, -⟩ := HV1.out _ HL.out.bel
      simp only [Value.slice.injEq, true_and] at e5
      obtain ⟨rfl, rfl⟩ := e5
      by_cases h3 : q < 0
      · have d3 : decide (q < 0) = true := decide_eq_true h3
        have HE := Lib.hid (show LessP (Im.i l[h]) n from by rw [← HXX.out]; exact Classical.byContradiction (fun hc => by have := HCL.out.2 hc; omega))
        go_upto_region 5 with fail
        try rw [eh]
        refine wp_region_calm_lg (told [(6, fun u => u = .int .i64 q)]) (by kernel_rfl) (by kernel_rfl) (told_mono _) HL.out ?_
        repeat (first
          | (refine calm_skip (by rfl) ?_; try simp only [Act.put, List.setIfInBounds_toArray, List.set_cons_zero, List.set_cons_succ])
          | (refine calm_plain (by rfl) (by rfl) ?_; apply Exists.intro; refine ⟨fun wc hC hD => ?_, ?_⟩; (focus (clear hD; obtain ⟨b0, b1⟩ := box2 (hC.blk _ List.mem_cons_self); obtain ⟨p1, q1, e1, -, c0, c1, c2, c3, c4, c5, c6, c7⟩ := HV1.out _ hC.bel; simp only [Value.slice.injEq, true_and] at e1; obtain ⟨e1, e3⟩ := e1; cases e1; clear e3; clear hC; go_simp; first | done | with_reducible rfl)); try simp only [Act.put, List.setIfInBounds_toArray, List.set_cons_zero, List.set_cons_succ]))
        refine calm_call _ _ (by rfl) (by rfl) ?_ ?_
        focus
          apply Exists.intro
          apply Exists.intro
          refine ⟨fun wc hC hD => ?_, fun wc hC hD => ?_⟩
          focus (clear hD; obtain ⟨b0, b1⟩ := box2 (hC.blk _ List.mem_cons_self); obtain ⟨p1, q1, e1, -, c0, c1, c2, c3, c4, c5, c6, c7⟩ := HV1.out _ hC.bel; simp only [Value.slice.injEq, true_and] at e1; obtain ⟨e1, e3⟩ := e1; cases e1; clear e3; clear hC; go_simp; first | done | with_reducible exact ⟨rfl, rfl⟩ | with_reducible rfl)
          clear hD
          with_reducible refine (HCM.out _).mono ?_
          rintro e wx ⟨rfl, hb⟩
          exact ⟨_, rfl, hb, rfl, trivial⟩
        rintro _ rfl
        try simp only [Act.put, List.setIfInBounds_toArray, List.set_cons_zero, List.set_cons_succ]
        repeat (first
          | (refine calm_skip (by rfl) ?_; try simp only [Act.put, List.setIfInBounds_toArray, List.set_cons_zero, List.set_cons_succ])
          | (refine calm_plain (by rfl) (by rfl) ?_; apply Exists.intro; refine ⟨fun wc hC hD => ?_, ?_⟩; (focus (clear hD; obtain ⟨b0, b1⟩ := box2 (hC.blk _ List.mem_cons_self); obtain ⟨p1, q1, e1, -, c0, c1, c2, c3, c4, c5, c6, c7⟩ := HV1.out _ hC.bel; simp only [Value.slice.injEq, true_and] at e1; obtain ⟨e1, e3⟩ := e1; cases e1; clear e3; clear hC; go_simp; first | done | with_reducible rfl)); try simp only [Act.put, List.setIfInBounds_toArray, List.set_cons_zero, List.set_cons_succ]))
        refine calm_end ?_
        intro w7 hL7 hF7
        clear hF7
        replace HL := Lib.hid hL7
        clear hL7
        go_wp2
        go_roundw
        case rel => exact ⟨h + 1, b, by omega, by omega, by go_num, rfl, low_at HR.out hhl HE.out, HHI.out, HL.out⟩
        case measure => simp [intOf]; omega
      · have d3 : decide (q < 0) = false := decide_eq_false h3
        have HE := Lib.hid (show ¬ LessP (Im.i l[h]) n from by rw [← HXX.out]; exact HCL.out.1 (by omega))
        go_upto_region 5 with fail
        try rw [eh]
        refine wp_region_calm_lg (told [(6, fun u => u = .int .i64 q)]) (by kernel_rfl) (by kernel_rfl) (told_mono _) HL.out ?_
        repeat (first
          | (refine calm_skip (by rfl) ?_; try simp only [Act.put, List.setIfInBounds_toArray, List.set_cons_zero, List.set_cons_succ])
          | (refine calm_plain (by rfl) (by rfl) ?_; apply Exists.intro; refine ⟨fun wc hC hD => ?_, ?_⟩; (focus (clear hD; obtain ⟨b0, b1⟩ := box2 (hC.blk _ List.mem_cons_self); obtain ⟨p1, q1, e1, -, c0, c1, c2, c3, c4, c5, c6, c7⟩ := HV1.out _ hC.bel; simp only [Value.slice.injEq, true_and] at e1; obtain ⟨e1, e3⟩ := e1; cases e1; clear e3; clear hC; go_simp; first | done | with_reducible rfl)); try simp only [Act.put, List.setIfInBounds_toArray, List.set_cons_zero, List.set_cons_succ]))
        refine calm_call _ _ (by rfl) (by rfl) ?_ ?_
        focus
          apply Exists.intro
          apply Exists.intro
          refine ⟨fun wc hC hD => ?_, fun wc hC hD => ?_⟩
          focus (clear hD; obtain ⟨b0, b1⟩ := box2 (hC.blk _ List.mem_cons_self); obtain ⟨p1, q1, e1, -, c0, c1, c2, c3, c4, c5, c6, c7⟩ := HV1.out _ hC.bel; simp only [Value.slice.injEq, true_and] at e1; obtain ⟨e1, e3⟩ := e1; cases e1; clear e3; clear hC; go_simp; first | done | with_reducible exact ⟨rfl, rfl⟩ | with_reducible rfl)
          clear hD
          with_reducible refine (HCM.out _).mono ?_
          rintro e wx ⟨rfl, hb⟩
          exact ⟨_, rfl, hb, rfl, trivial⟩
        rintro _ rfl
        try simp only [Act.put, List.setIfInBounds_toArray, List.set_cons_zero, List.set_cons_succ]
        repeat (first
          | (refine calm_skip (by rfl) ?_; try simp only [Act.put, List.setIfInBounds_toArray, List.set_cons_zero, List.set_cons_succ])
          | (refine calm_plain (by rfl) (by rfl) ?_; apply Exists.intro; refine ⟨fun wc hC hD => ?_, ?_⟩; (focus (clear hD; obtain ⟨b0, b1⟩ := box2 (hC.blk _ List.mem_cons_self); obtain ⟨p1, q1, e1, -, c0, c1, c2, c3, c4, c5, c6, c7⟩ := HV1.out _ hC.bel; simp only [Value.slice.injEq, true_and] at e1; obtain ⟨e1, e3⟩ := e1; cases e1; clear e3; clear hC; go_simp; first | done | with_reducible rfl)); try simp only [Act.put, List.setIfInBounds_toArray, List.set_cons_zero, List.set_cons_succ]))
        refine calm_end ?_
        intro w7 hL7 hF7
        clear hF7
        replace HL := Lib.hid hL7
        clear hL7
        go_wp2
        go_roundw
        case rel => exact ⟨a, h, by omega, by omega, rfl, by go_num, HLO.out, high_at HR.out HHI.out hhl HE.out, HL.out⟩
        case measure => simp [intOf]; omega
    · obtain rfl : a = b := by omega
      have HS := Lib.hid (spot_is hbl HLO.out (fun hk => HHI.out a hk (Nat.le_refl _)))
      by_cases hal : a < l.length
      · obtain ⟨x, hx⟩ : ∃ x, x = l[a] := ⟨_, rfl⟩
        have HV1 := Lib.hid (fun W (hb : Below w.heap.size w W) => (HV.out.below hb).item a hal)
        rw [← hx] at HV1
        have HXX := Lib.hid hx; clear hx
        have HCM := Lib.hid (fun W => impl_cmpM x n W)
        have HCZ := Lib.hid (cmpN_zero x.i n)
        obtain ⟨q, hq⟩ : ∃ q, q = cmpN x.i n := ⟨_, rfl⟩
        rw [← hq] at HCM HCZ
        clear hq
        obtain ⟨a1, c1, e5, -, -, -, -, -, -, -, -, -⟩ := HV1.out _ HL.out.bel
        simp only [Value.slice.injEq, true_and] at e5
        obtain ⟨rfl, rfl⟩ := e5
        have dl : decide ((a : Int) < (l.length : Int)) = true := by simp; omega
        have dl' : decide (a < l.length) = true := by simp; omega
        have HT := Lib.hid (show thereB Im.i l n = (q == 0) from by
          rw [Bool.eq_iff_iff, thereB_iff, beq_iff_eq, HCZ.out, HXX.out]
          unfold ThereP
          constructor
          · rintro ⟨h1, h2⟩; simpa only [HS.out] using h2
          · intro h1; exact ⟨by rw [HS.out]; exact hal, by simpa only [HS.out] using h1⟩)
        go_upto_region 8 with fail
        refine wp_region_calm_lg (told [(11, fun u => u = .int .i64 q)]) (by kernel_rfl) (by kernel_rfl) (told_mono _) HL.out ?_
        repeat (first
          | (refine calm_skip (by rfl) ?_; try simp only [Act.put, List.setIfInBounds_toArray, List.set_cons_zero, List.set_cons_succ])
          | (refine calm_plain (by rfl) (by rfl) ?_; apply Exists.intro; refine ⟨fun wc hC hD => ?_, ?_⟩; (focus (clear hD; obtain ⟨b0, b1⟩ := box2 (hC.blk _ List.mem_cons_self); obtain ⟨p1, q1, e1, -, c0, c1, c2, c3, c4, c5, c6, c7⟩ := HV1.out _ hC.bel; simp only [Value.slice.injEq, true_and] at e1; obtain ⟨e1, e3⟩ := e1; cases e1; clear e3; clear hC; go_simp; first | done | with_reducible rfl)); try simp only [Act.put, List.setIfInBounds_toArray, List.set_cons_zero, List.set_cons_succ]))
        refine calm_call _ _ (by rfl) (by rfl) ?_ ?_
        focus
          apply Exists.intro
          apply Exists.intro
          refine ⟨fun wc hC hD => ?_, fun wc hC hD => ?_⟩
          focus (clear hD; obtain ⟨b0, b1⟩ := box2 (hC.blk _ List.mem_cons_self); obtain ⟨p1, q1, e1, -, c0, c1, c2, c3, c4, c5, c6, c7⟩ := HV1.out _ hC.bel; simp only [Value.slice.injEq, true_and] at e1; obtain ⟨e1, e3⟩ := e1; cases e1; clear e3; clear hC; go_simp; first | done | with_reducible exact ⟨rfl, rfl⟩ | with_reducible rfl)
          clear hD
          with_reducible refine (HCM.out _).mono ?_
          rintro e wx ⟨rfl, hb⟩
          exact ⟨_, rfl, hb, rfl, trivial⟩
        rintro _ rfl
        try simp only [Act.put, List.setIfInBounds_toArray, List.set_cons_zero, List.set_cons_succ]
        repeat (first
          | (refine calm_skip (by rfl) ?_; try simp only [Act.put, List.setIfInBounds_toArray, List.set_cons_zero, List.set_cons_succ])
          | (refine calm_plain (by rfl) (by rfl) ?_; apply Exists.intro; refine ⟨fun wc hC hD => ?_, ?_⟩; (focus (clear hD; obtain ⟨b0, b1⟩ := box2 (hC.blk _ List.mem_cons_self); obtain ⟨p1, q1, e1, -, c0, c1, c2, c3, c4, c5, c6, c7⟩ := HV1.out _ hC.bel; simp only [Value.slice.injEq, true_and] at e1; obtain ⟨e1, e3⟩ := e1; cases e1; clear e3; clear hC; go_simp; first | done | with_reducible rfl)); try simp only [Act.put, List.setIfInBounds_toArray, List.set_cons_zero, List.set_cons_succ]))
        refine calm_end ?_
        intro w7 hL7 hF7
        clear hF7
        replace HL := Lib.hid hL7
        clear hL7
        go_wp2
        go_ret2
        refine ⟨?_, HL.out.bel⟩
        rw [HS.out, HT.out]
        rfl
      · have HT := Lib.hid (show thereB Im.i l n = false from there_no (fun ⟨h1, _⟩ => hal (by rw [← HS.out]; exact h1)))
        have dl : decide ((a : Int) < (l.length : Int)) = false := by simp; omega
        have dl' : decide (a < l.length) = false := by simp; omega
        go_upto_region 8 with fail
        refine wp_region_calm_lg (told []) (by kernel_rfl) (by kernel_rfl) (told_mono _) HL.out ?_
        repeat (first
          | (refine calm_skip (by rfl) ?_; try simp only [Act.put, List.setIfInBounds_toArray, List.set_cons_zero, List.set_cons_succ])
          | (refine calm_plain (by rfl) (by rfl) ?_; apply Exists.intro; refine ⟨fun wc hC hD => ?_, ?_⟩; (focus (clear hD; obtain ⟨b0, b1⟩ := box2 (hC.blk _ List.mem_cons_self); clear hC; go_simp; first | done | with_reducible rfl)); try simp only [Act.put, List.setIfInBounds_toArray, List.set_cons_zero, List.set_cons_succ]))
        refine calm_end ?_
        intro w7 hL7 hF7
        clear hF7
        replace HL := Lib.hid hL7
        clear hL7
        go_wp2
        go_ret2
        refine ⟨?_, HL.out.bel⟩
        rw [HS.out, HT.out]
        rfl

set_option maxRecDepth 100000 in
theorem impl_findM (v : Value) (l : List Im) (n : Nm) (w : World) (hv : Sl w w.heap.size 8 encM v l) (hl : l.length ≤ 140737488351232) (hr : Rise Im.i l) :
    Calls Try.prog 139 #[v, vN n] w (Back (.tuple #[.int .i64 (spot Im.i l n), .bool (thereB Im.i l n)]) w) := by
  have HS := Lib.hid (fun W (hb : Below w.heap.size w W) => impl_searchM v l n W ((hv.below hb).more hb.size) hl hr)
  obtain ⟨A, c, rfl⟩ := hv.form
  clear hv
  have HL := Lib.hid ((Lg.start w).alloc (.cells #[.int .i64 n.c, .int .i64 n.k] 89))
  go_enter Try.func139, Try.ntmps139
  go_wp2_with fail
  refine (HS.out _ HL.out.bel).mono ?_
  rintro e w1 ⟨rfl, hb⟩
  replace HL := Lib.hid (HL.out.lift hb); clear hb
  go_wp2
  go_ret2
  exact ⟨rfl, HL.out.bel⟩

set_option maxRecDepth 100000 in
set_option maxHeartbeats 4000000 in
/-- The comparison that the search makes. -/
theorem impl_cmpI (x : Nm) (n : Nm) (w : World) : Calls Try.prog 182 #[vN x, vN n] w (Back (.int .i64 (cmpN (nmI x) n)) w) := by
  have hL := ((Lg.start w).alloc (.cells #[.int .i64 x.c, .int .i64 x.k] 89)).alloc (.cells #[.int .i64 n.c, .int .i64 n.k] 89)
  simp only [World.size_alloc] at hL
  have HL := Lib.hid hL; clear hL
  go_enter Try.func182, Try.ntmps182
  go_upto_region 1 with fail
  refine wp_region_calm_lg (told [(2, fun u => u = vN (nmI x)), (4, fun u => u = .int .i64 (cmpN (nmI x) n))]) (by kernel_rfl) (by kernel_rfl) (told_mono _) HL.out ?_
  repeat (first
    | (refine calm_skip (by rfl) ?_; try simp only [Act.put, List.setIfInBounds_toArray, List.set_cons_zero, List.set_cons_succ])
    | (refine calm_plain (by rfl) (by rfl) ?_; apply Exists.intro; refine ⟨fun wc hC hD => ?_, ?_⟩; (focus (clear hD; obtain ⟨b0, b1⟩ := box2 (hC.blk _ List.mem_cons_self); obtain ⟨c0, c1⟩ := box2 (hC.blk _ (List.mem_cons_of_mem _ List.mem_cons_self)); clear hC; go_simp; first | done | with_reducible rfl)); try simp only [Act.put, List.setIfInBounds_toArray, List.set_cons_zero, List.set_cons_succ]))
  refine calm_call _ _ (by rfl) (by rfl) ?_ ?_
  focus
    apply Exists.intro
    apply Exists.intro
    refine ⟨fun wc hC hD => ?_, fun wc hC hD => ?_⟩
    focus (clear hD; obtain ⟨b0, b1⟩ := box2 (hC.blk _ List.mem_cons_self); obtain ⟨c0, c1⟩ := box2 (hC.blk _ (List.mem_cons_of_mem _ List.mem_cons_self)); clear hC; go_simp; first | done | with_reducible exact ⟨rfl, rfl⟩ | with_reducible rfl)
    clear hD
    with_reducible refine (impl_nmI x _).mono ?_
    rintro e wx ⟨rfl, hb⟩
    exact ⟨_, rfl, hb, rfl, trivial⟩
  rintro _ rfl
  try simp only [Act.put, List.setIfInBounds_toArray, List.set_cons_zero, List.set_cons_succ]
  repeat (first
    | (refine calm_skip (by rfl) ?_; try simp only [Act.put, List.setIfInBounds_toArray, List.set_cons_zero, List.set_cons_succ])
    | (refine calm_plain (by rfl) (by rfl) ?_; apply Exists.intro; refine ⟨fun wc hC hD => ?_, ?_⟩; (focus (clear hD; obtain ⟨b0, b1⟩ := box2 (hC.blk _ List.mem_cons_self); obtain ⟨c0, c1⟩ := box2 (hC.blk _ (List.mem_cons_of_mem _ List.mem_cons_self)); clear hC; go_simp; first | done | with_reducible rfl)); try simp only [Act.put, List.setIfInBounds_toArray, List.set_cons_zero, List.set_cons_succ]))
  refine calm_call _ _ (by rfl) (by rfl) ?_ ?_
  focus
    apply Exists.intro
    apply Exists.intro
    refine ⟨fun wc hC hD => ?_, fun wc hC hD => ?_⟩
    focus (clear hD; obtain ⟨b0, b1⟩ := box2 (hC.blk _ List.mem_cons_self); obtain ⟨c0, c1⟩ := box2 (hC.blk _ (List.mem_cons_of_mem _ List.mem_cons_self)); clear hC; go_simp; first | done | with_reducible exact ⟨rfl, rfl⟩ | with_reducible rfl)
    clear hD
    with_reducible refine (impl_compare _ _ _).mono ?_
    rintro e wx ⟨rfl, hb⟩
    exact ⟨_, rfl, hb, rfl, trivial⟩
  rintro _ rfl
  try simp only [Act.put, List.setIfInBounds_toArray, List.set_cons_zero, List.set_cons_succ]
  repeat (first
    | (refine calm_skip (by rfl) ?_; try simp only [Act.put, List.setIfInBounds_toArray, List.set_cons_zero, List.set_cons_succ])
    | (refine calm_plain (by rfl) (by rfl) ?_; apply Exists.intro; refine ⟨fun wc hC hD => ?_, ?_⟩; (focus (clear hD; obtain ⟨b0, b1⟩ := box2 (hC.blk _ List.mem_cons_self); obtain ⟨c0, c1⟩ := box2 (hC.blk _ (List.mem_cons_of_mem _ List.mem_cons_self)); clear hC; go_simp; first | done | with_reducible rfl)); try simp only [Act.put, List.setIfInBounds_toArray, List.set_cons_zero, List.set_cons_succ]))
  refine calm_end ?_
  intro w7 hL7 hF7
  clear hF7
  replace HL := Lib.hid hL7
  clear hL7
  go_wp2
  go_ret
  exact ⟨rfl, HL.out.bel⟩

set_option maxRecDepth 100000 in
set_option maxHeartbeats 8000000 in
theorem impl_searchI (v : Value) (l : List Nm) (n : Nm) (w : World) (hv : Sl w w.heap.size 2 encN v l) (hl : l.length ≤ 140737488351232) (hr : Rise nmI l) :
    Calls Try.prog 181 #[v, vN n, .func (.func 182) #[] #[]] w (Back (.tuple #[.int .i64 (spot nmI l n), .bool (thereB nmI l n)]) w) := by
  obtain ⟨A, c, rfl⟩ := hv.form
  have HV := Lib.hid hv; have HR := Lib.hid hr; clear hv hr
  have HL0 := Lib.hid ((Lg.start w).alloc (.cells #[.int .i64 n.c, .int .i64 n.k] 89))
  go_enter Try.func181, Try.ntmps181
  go_wp2
  go_loopw [9, 10] (fun i j wr => ∃ a b : Nat, a ≤ b ∧ b ≤ l.length ∧ i = .int .i64 a ∧ j = .int .i64 b ∧ LowTo nmI l n a ∧ HighFrom nmI l n b ∧ Lg w wr [(w.heap.size, .cells #[.int .i64 n.c, .int .i64 n.k] 89)] []) (fun i j _ => (intOf j).toNat - (intOf i).toNat)
  case atStart => exact ⟨0, l.length, by omega, by omega, rfl, rfl, lowTo_zero _ _ _, high_end _ _ _, HL0.out⟩
  case round =>
    obtain ⟨a, b, hab, hbl, rfl, rfl, hlo, hhi, hL⟩ := hrel
    have HLO := Lib.hid hlo; have HHI := Lib.hid hhi; have HL := Lib.hid hL; clear hlo hhi hL
    by_cases hlt : a < b
    · obtain ⟨h, hh⟩ : ∃ h, h = (a + b) / 2 := ⟨_, rfl⟩
      have hha : a ≤ h := by omega
      have hhb : h < b := by omega
      have hhl : h < l.length := by omega
      have eh : ((a : Int) + (b : Int)) / 2 = (h : Int) := by omega
      obtain ⟨x, hx⟩ : ∃ x, x = l[h] := ⟨_, rfl⟩
      have HV1 := Lib.hid (fun W (hb : Below w.heap.size w W) => (HV.out.below hb).two h hhl)
      rw [← hx] at HV1
      have HXX := Lib.hid hx; clear hx
      have HH := Lib.hid hh; clear hh
      have HCM := Lib.hid (fun W => impl_cmpI x n W)
      have HCL := Lib.hid (cmpN_less (nmI x) n)
      obtain ⟨q, hq⟩ : ∃ q, q = cmpN (nmI x) n := ⟨_, rfl⟩
      rw [← hq] at HCM HCL
      clear hq
      obtain ⟨a1, c1, e5, -, -, -⟩ := HV1.out _ HL.out.bel
      simp only [Value.slice.injEq, true_and] at e5
      obtain ⟨rfl, rfl⟩ := e5
      by_cases h3 : q < 0
      · have d3 : decide (q < 0) = true := decide_eq_true h3
        have HE := Lib.hid (show LessP (nmI l[h]) n from by rw [← HXX.out]; exact Classical.byContradiction (fun hc => by have := HCL.out.2 hc; omega))
        go_upto_region 5 with fail
        try rw [eh]
        refine wp_region_calm_lg (told [(6, fun u => u = .int .i64 q)]) (by kernel_rfl) (by kernel_rfl) (told_mono _) HL.out ?_
        repeat (first
          | (refine calm_skip (by rfl) ?_; try simp only [Act.put, List.setIfInBounds_toArray, List.set_cons_zero, List.set_cons_succ])
          | (refine calm_plain (by rfl) (by rfl) ?_; apply Exists.intro; refine ⟨fun wc hC hD => ?_, ?_⟩; (focus (clear hD; obtain ⟨b0, b1⟩ := box2 (hC.blk _ List.mem_cons_self); obtain ⟨p1, q1, e1, -, c0, c1⟩ := HV1.out _ hC.bel; simp only [Value.slice.injEq, true_and] at e1; obtain ⟨e1, e3⟩ := e1; cases e1; clear e3; clear hC; go_simp; first | done | with_reducible rfl)); try simp only [Act.put, List.setIfInBounds_toArray, List.set_cons_zero, List.set_cons_succ]))
        refine calm_call _ _ (by rfl) (by rfl) ?_ ?_
        focus
          apply Exists.intro
          apply Exists.intro
          refine ⟨fun wc hC hD => ?_, fun wc hC hD => ?_⟩
          focus (clear hD; obtain ⟨b0, b1⟩ := box2 (hC.blk _ List.mem_cons_self); obtain ⟨p1, q1, e1, -, c0, c1⟩ := HV1.out _ hC.bel; simp only [Value.slice.injEq, true_and] at e1; obtain ⟨e1, e3⟩ := e1; cases e1; clear e3; clear hC; go_simp; first | done | with_reducible exact ⟨rfl, rfl⟩ | with_reducible rfl)
          clear hD
          with_reducible refine (HCM.out _).mono ?_
          rintro e wx ⟨rfl, hb⟩
          exact ⟨_, rfl, hb, rfl, trivial⟩
        rintro _ rfl
        try simp only [Act.put, List.setIfInBounds_toArray, List.set_cons_zero, List.set_cons_succ]
        repeat (first
          | (refine calm_skip (by rfl) ?_; try simp only [Act.put, List.setIfInBounds_toArray, List.set_cons_zero, List.set_cons_succ])
          | (refine calm_plain (by rfl) (by rfl) ?_; apply Exists.intro; refine ⟨fun wc hC hD => ?_, ?_⟩; (focus (clear hD; obtain ⟨b0, b1⟩ := box2 (hC.blk _ List.mem_cons_self); obtain ⟨p1, q1, e1, -, c0, c1⟩ := HV1.out _ hC.bel; simp only [Value.slice.injEq, true_and] at e1; obtain ⟨e1, e3⟩ := e1; cases e1; clear e3; clear hC; go_simp; first | done | with_reducible rfl)); try simp only [Act.put, List.setIfInBounds_toArray, List.set_cons_zero, List.set_cons_succ]))
        refine calm_end ?_
        intro w7 hL7 hF7
        clear hF7
        replace HL := Lib.hid hL7
        clear hL7
        go_wp2
        go_roundw
        case rel => exact ⟨h + 1, b, by omega, by omega, by go_num, rfl, low_at HR.out hhl HE.out, HHI.out, HL.out⟩
        case measure => simp [intOf]; omega
      · have d3 : decide (q < 0) = false := decide_eq_false h3
        have HE := Lib.hid (show ¬ LessP (nmI l[h]) n from by rw [← HXX.out]; exact HCL.out.1 (by omega))
        go_upto_region 5 with fail
        try rw [eh]
        refine wp_region_calm_lg (told [(6, fun u => u = .int .i64 q)]) (by kernel_rfl) (by kernel_rfl) (told_mono _) HL.out ?_
        repeat (first
          | (refine calm_skip (by rfl) ?_; try simp only [Act.put, List.setIfInBounds_toArray, List.set_cons_zero, List.set_cons_succ])
          | (refine calm_plain (by rfl) (by rfl) ?_; apply Exists.intro; refine ⟨fun wc hC hD => ?_, ?_⟩; (focus (clear hD; obtain ⟨b0, b1⟩ := box2 (hC.blk _ List.mem_cons_self); obtain ⟨p1, q1, e1, -, c0, c1⟩ := HV1.out _ hC.bel; simp only [Value.slice.injEq, true_and] at e1; obtain ⟨e1, e3⟩ := e1; cases e1; clear e3; clear hC; go_simp; first | done | with_reducible rfl)); try simp only [Act.put, List.setIfInBounds_toArray, List.set_cons_zero, List.set_cons_succ]))
        refine calm_call _ _ (by rfl) (by rfl) ?_ ?_
        focus
          apply Exists.intro
          apply Exists.intro
          refine ⟨fun wc hC hD => ?_, fun wc hC hD => ?_⟩
          focus (clear hD; obtain ⟨b0, b1⟩ := box2 (hC.blk _ List.mem_cons_self); obtain ⟨p1, q1, e1, -, c0, c1⟩ := HV1.out _ hC.bel; simp only [Value.slice.injEq, true_and] at e1; obtain ⟨e1, e3⟩ := e1; cases e1; clear e3; clear hC; go_simp; first | done | with_reducible exact ⟨rfl, rfl⟩ | with_reducible rfl)
          clear hD
          with_reducible refine (HCM.out _).mono ?_
          rintro e wx ⟨rfl, hb⟩
          exact ⟨_, rfl, hb, rfl, trivial⟩
        rintro _ rfl
        try simp only [Act.put, List.setIfInBounds_toArray, List.set_cons_zero, List.set_cons_succ]
        repeat (first
          | (refine calm_skip (by rfl) ?_; try simp only [Act.put, List.setIfInBounds_toArray, List.set_cons_zero, List.set_cons_succ])
          | (refine calm_plain (by rfl) (by rfl) ?_; apply Exists.intro; refine ⟨fun wc hC hD => ?_, ?_⟩; (focus (clear hD; obtain ⟨b0, b1⟩ := box2 (hC.blk _ List.mem_cons_self); obtain ⟨p1, q1, e1, -, c0, c1⟩ := HV1.out _ hC.bel; simp only [Value.slice.injEq, true_and] at e1; obtain ⟨e1, e3⟩ := e1; cases e1; clear e3; clear hC; go_simp; first | done | with_reducible rfl)); try simp only [Act.put, List.setIfInBounds_toArray, List.set_cons_zero, List.set_cons_succ]))
        refine calm_end ?_
        intro w7 hL7 hF7
        clear hF7
        replace HL := Lib.hid hL7
        clear hL7
        go_wp2
        go_roundw
        case rel => exact ⟨a, h, by omega, by omega, rfl, by go_num, HLO.out, high_at HR.out HHI.out hhl HE.out, HL.out⟩
        case measure => simp [intOf]; omega
    · obtain rfl : a = b := by omega
      have HS := Lib.hid (spot_is hbl HLO.out (fun hk => HHI.out a hk (Nat.le_refl _)))
      by_cases hal : a < l.length
      · obtain ⟨x, hx⟩ : ∃ x, x = l[a] := ⟨_, rfl⟩
        have HV1 := Lib.hid (fun W (hb : Below w.heap.size w W) => (HV.out.below hb).two a hal)
        rw [← hx] at HV1
        have HXX := Lib.hid hx; clear hx
        have HCM := Lib.hid (fun W => impl_cmpI x n W)
        have HCZ := Lib.hid (cmpN_zero (nmI x) n)
        obtain ⟨q, hq⟩ : ∃ q, q = cmpN (nmI x) n := ⟨_, rfl⟩
        rw [← hq] at HCM HCZ
        clear hq
        obtain ⟨a1, c1, e5, -, -, -⟩ := HV1.out _ HL.out.bel
        simp only [Value.slice.injEq, true_and] at e5
        obtain ⟨rfl, rfl⟩ := e5
        have dl : decide ((a : Int) < (l.length : Int)) = true := by simp; omega
        have dl' : decide (a < l.length) = true := by simp; omega
        have HT := Lib.hid (show thereB nmI l n = (q == 0) from by
          rw [Bool.eq_iff_iff, thereB_iff, beq_iff_eq, HCZ.out, HXX.out]
          unfold ThereP
          constructor
          · rintro ⟨h1, h2⟩; simpa only [HS.out] using h2
          · intro h1; exact ⟨by rw [HS.out]; exact hal, by simpa only [HS.out] using h1⟩)
        go_upto_region 8 with fail
        refine wp_region_calm_lg (told [(11, fun u => u = .int .i64 q)]) (by kernel_rfl) (by kernel_rfl) (told_mono _) HL.out ?_
        repeat (first
          | (refine calm_skip (by rfl) ?_; try simp only [Act.put, List.setIfInBounds_toArray, List.set_cons_zero, List.set_cons_succ])
          | (refine calm_plain (by rfl) (by rfl) ?_; apply Exists.intro; refine ⟨fun wc hC hD => ?_, ?_⟩; (focus (clear hD; obtain ⟨b0, b1⟩ := box2 (hC.blk _ List.mem_cons_self); obtain ⟨p1, q1, e1, -, c0, c1⟩ := HV1.out _ hC.bel; simp only [Value.slice.injEq, true_and] at e1; obtain ⟨e1, e3⟩ := e1; cases e1; clear e3; clear hC; go_simp; first | done | with_reducible rfl)); try simp only [Act.put, List.setIfInBounds_toArray, List.set_cons_zero, List.set_cons_succ]))
        refine calm_call _ _ (by rfl) (by rfl) ?_ ?_
        focus
          apply Exists.intro
          apply Exists.intro
          refine ⟨fun wc hC hD => ?_, fun wc hC hD => ?_⟩
          focus (clear hD; obtain ⟨b0, b1⟩ := box2 (hC.blk _ List.mem_cons_self); obtain ⟨p1, q1, e1, -, c0, c1⟩ := HV1.out _ hC.bel; simp only [Value.slice.injEq, true_and] at e1; obtain ⟨e1, e3⟩ := e1; cases e1; clear e3; clear hC; go_simp; first | done | with_reducible exact ⟨rfl, rfl⟩ | with_reducible rfl)
          clear hD
          with_reducible refine (HCM.out _).mono ?_
          rintro e wx ⟨rfl, hb⟩
          exact ⟨_, rfl, hb, rfl, trivial⟩
        rintro _ rfl
        try simp only [Act.put, List.setIfInBounds_toArray, List.set_cons_zero, List.set_cons_succ]
        repeat (first
          | (refine calm_skip (by rfl) ?_; try simp only [Act.put, List.setIfInBounds_toArray, List.set_cons_zero, List.set_cons_succ])
          | (refine calm_plain (by rfl) (by rfl) ?_; apply Exists.intro; refine ⟨fun wc hC hD => ?_, ?_⟩; (focus (clear hD; obtain ⟨b0, b1⟩ := box2 (hC.blk _ List.mem_cons_self); obtain ⟨p1, q1, e1, -, c0, c1⟩ := HV1.out _ hC.bel; simp only [Value.slice.injEq, true_and] at e1; obtain ⟨e1, e3⟩ := e1; cases e1; clear e3; clear hC; go_simp; first | done | with_reducible rfl)); try simp only [Act.put, List.setIfInBounds_toArray, List.set_cons_zero, List.set_cons_succ]))
        refine calm_end ?_
        intro w7 hL7 hF7
        clear hF7
        replace HL := Lib.hid hL7
        clear hL7
        go_wp2
        go_ret2
        refine ⟨?_, HL.out.bel⟩
        rw [HS.out, HT.out]
        rfl
      · have HT := Lib.hid (show thereB nmI l n = false from there_no (fun ⟨h1, _⟩ => hal (by rw [← HS.out]; exact h1)))
        have dl : decide ((a : Int) < (l.length : Int)) = false := by simp; omega
        have dl' : decide (a < l.length) = false := by simp; omega
        go_upto_region 8 with fail
        refine wp_region_calm_lg (told []) (by kernel_rfl) (by kernel_rfl) (told_mono _) HL.out ?_
        repeat (first
          | (refine calm_skip (by rfl) ?_; try simp only [Act.put, List.setIfInBounds_toArray, List.set_cons_zero, List.set_cons_succ])
          | (refine calm_plain (by rfl) (by rfl) ?_; apply Exists.intro; refine ⟨fun wc hC hD => ?_, ?_⟩; (focus (clear hD; obtain ⟨b0, b1⟩ := box2 (hC.blk _ List.mem_cons_self); clear hC; go_simp; first | done | with_reducible rfl)); try simp only [Act.put, List.setIfInBounds_toArray, List.set_cons_zero, List.set_cons_succ]))
        refine calm_end ?_
        intro w7 hL7 hF7
        clear hF7
        replace HL := Lib.hid hL7
        clear hL7
        go_wp2
        go_ret2
        refine ⟨?_, HL.out.bel⟩
        rw [HS.out, HT.out]
        rfl

set_option maxRecDepth 100000 in
theorem impl_findI (v : Value) (l : List Nm) (n : Nm) (w : World) (hv : Sl w w.heap.size 2 encN v l) (hl : l.length ≤ 140737488351232) (hr : Rise nmI l) :
    Calls Try.prog 136 #[v, vN n] w (Back (.tuple #[.int .i64 (spot nmI l n), .bool (thereB nmI l n)]) w) := by
  have HS := Lib.hid (fun W (hb : Below w.heap.size w W) => impl_searchI v l n W ((hv.below hb).more hb.size) hl hr)
  obtain ⟨A, c, rfl⟩ := hv.form
  clear hv
  have HL := Lib.hid ((Lg.start w).alloc (.cells #[.int .i64 n.c, .int .i64 n.k] 89))
  go_enter Try.func136, Try.ntmps136
  go_wp2_with fail
  refine (HS.out _ HL.out.bel).mono ?_
  rintro e w1 ⟨rfl, hb⟩
  replace HL := Lib.hid (HL.out.lift hb); clear hb
  go_wp2
  go_ret2
  exact ⟨rfl, HL.out.bel⟩

end Go.Proofs.Ytaggmcdfggmlhaa
