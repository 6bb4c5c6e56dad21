/-
  Contracts of the program's isReady, and of names in order.
-/
import Derived.Test.YtghiipoeedfkhaaSpan
namespace Go.Proofs.Ytghiipoeedfkhaa
set_option linter.unusedSimpArgs false
set_option linter.unusedVariables false
open Go.ChangeShapes Go.WideShapes Go.ChangeAt Go.RowKit

set_option maxRecDepth 100000 in
set_option maxHeartbeats 8000000 in
theorem impl_ready (v : Value) (l : List Im) (x : Im) (w : World) (hv : Sl w w.heap.size 8 encM v l) (hl : l.length ≤ 140737488351232) :
    Calls Try.prog 105 #[v, vM x] w (Tell (readyB l x) w) := by
  have HA := Lib.hid (fun W (hb : Below w.heap.size w W) => impl_span v l x W ((hv.below hb).more hb.size) hl)
  have HX := Lib.hid (fun W (hb : Below w.heap.size w W) => impl_count v l x.i.c W ((hv.below hb).more hb.size) hl)
  obtain ⟨A, c, rfl⟩ := hv.form
  clear hv
  have HP := Lib.hid (show ReadyP l x ↔ (x.i.k = nextOf l x.i.c ∧ ¬ (leftOf l x.l < 0 ∧ ¬ x.l = no) ∧ ¬ rightOf l x.r < 0 ∧ leftOf l x.l < rightOf l x.r) from Iff.rfl)
  have ha0 := left_lo l x.l; have ha1 := left_hi l x.l; have hr0 := right_lo l x.r; have hr1 := right_hi l x.r
  cases hok : spanOk l x with
  | false =>
    have hno : ¬ (¬ (leftOf l x.l < 0 ∧ ¬ x.l = no) ∧ ¬ rightOf l x.r < 0) := fun h => by have := (spanOk_iff l x).2 h; rw [hok] at this; cases this
    rw [spanV_no hno] at HA
    have HE := Lib.hid (show readyB l x = false from readyB_of (by rw [HP.out]; exact ⟨fun h => (hno ⟨h.2.1, h.2.2.1⟩).elim, fun h => by cases h⟩))
    clear hno hok
    go_enter Try.func105, Try.ntmps105
    go_wp2_with fail
    refine (HA.out _ (by (repeat (first | with_reducible refine bset ?_ _ (by omega) | with_reducible refine ball ?_ _ (by first | exact Nat.le_refl _ | (simp only [World.size_alloc, World.size_setCell]; omega)) | with_reducible exact Below.refl _ _ | with_reducible refine Below.drew ?_)))).mono ?_
    rintro e w1 ⟨rfl, hb1⟩
    have HL := Lib.hid ((((Lg.start w).alloc _).lift hb1).alloc (.cells #[.int .i64 0, .int .i64 0] 186))
    clear hb1
    go_upto_region 2 with fail
    refine wp_region_calm_lg (told []) (by kernel_rfl) (by kernel_rfl) (told_mono _) HL.out ?_
    repeat (first
      | (refine calm_skip (by rfl) ?_; try simp only [Act.put, List.setIfInBounds_toArray, List.set_cons_zero, List.set_cons_succ])
      | (refine calm_plain (by rfl) (by rfl) ?_; apply Exists.intro; refine ⟨fun wc hC hD => ?_, ?_⟩; (focus (clear hD; obtain ⟨s0, s1⟩ := box2 (hC.blk _ List.mem_cons_self); obtain ⟨c0, c1, c2, c3, c4, c5, c6, c7⟩ := box8 (hC.blk _ (List.mem_cons_of_mem _ List.mem_cons_self)); clear hC; go_simp; first | done | with_reducible rfl)); try simp only [Act.put, List.setIfInBounds_toArray, List.set_cons_zero, List.set_cons_succ]))
    refine calm_end ?_
    intro w7 hL7 hF7
    clear hF7
    replace HL := Lib.hid hL7
    clear hL7
    go_wp2
    go_ret
    exact ⟨ret_bool HE.out.symm, HL.out.bel⟩
  | true =>
    have hy := (spanOk_iff l x).1 hok; clear hok
    rw [spanV_yes hy] at HA
    obtain ⟨a, ha⟩ : ∃ a, a = leftOf l x.l := ⟨_, rfl⟩
    obtain ⟨b, hb⟩ : ∃ b, b = rightOf l x.r := ⟨_, rfl⟩
    obtain ⟨m, hm⟩ : ∃ m, m = nextOf l x.i.c := ⟨_, rfl⟩
    rw [← ha, ← hb, ← hm] at HP
    rw [← ha, ← hb] at HA hy
    rw [← ha] at ha0 ha1; rw [← hb] at hr0 hr1; rw [← hm] at HX
    clear ha hb hm
    by_cases h1 : a < b
    · have d1 : decide (a < b) = true := decide_eq_true h1
      have HE := Lib.hid (show readyB l x = (x.i.k == (m : Int)) from readyB_of (by rw [HP.out, beq_iff_eq]; exact ⟨fun h => h.1, fun h => ⟨h, hy.1, hy.2, h1⟩⟩))
      clear hy
      go_enter Try.func105, Try.ntmps105
      go_wp2_with fail
      refine (HA.out _ (by (repeat (first | with_reducible refine bset ?_ _ (by omega) | with_reducible refine ball ?_ _ (by first | exact Nat.le_refl _ | (simp only [World.size_alloc, World.size_setCell]; omega)) | with_reducible exact Below.refl _ _ | with_reducible refine Below.drew ?_)))).mono ?_
      rintro e w1 ⟨rfl, hb1⟩
      have HL := Lib.hid ((((Lg.start w).alloc _).lift hb1).alloc (.cells #[.int .i64 a, .int .i64 b] 186))
      clear hb1
      go_upto_region 2 with fail
      refine wp_region_calm_lg (told [(16, fun u => u = .int .i64 (m : Int))]) (by kernel_rfl) (by kernel_rfl) (told_mono _) HL.out ?_
      repeat (first
        | (refine calm_skip (by rfl) ?_; try simp only [Act.put, List.setIfInBounds_toArray, List.set_cons_zero, List.set_cons_succ])
        | (refine calm_plain (by rfl) (by rfl) ?_; apply Exists.intro; refine ⟨fun wc hC hD => ?_, ?_⟩; (focus (clear hD; obtain ⟨s0, s1⟩ := box2 (hC.blk _ List.mem_cons_self); obtain ⟨c0, c1, c2, c3, c4, c5, c6, c7⟩ := box8 (hC.blk _ (List.mem_cons_of_mem _ List.mem_cons_self)); clear hC; go_simp; first | done | with_reducible rfl)); try simp only [Act.put, List.setIfInBounds_toArray, List.set_cons_zero, List.set_cons_succ]))
      refine calm_call _ _ (by rfl) (by rfl) ?_ ?_
      focus
        apply Exists.intro
        apply Exists.intro
        refine ⟨fun wc hC hD => ?_, fun wc hC hD => ?_⟩
        focus (clear hD; obtain ⟨s0, s1⟩ := box2 (hC.blk _ List.mem_cons_self); obtain ⟨c0, c1, c2, c3, c4, c5, c6, c7⟩ := box8 (hC.blk _ (List.mem_cons_of_mem _ List.mem_cons_self)); clear hC; go_simp; first | done | with_reducible exact ⟨rfl, rfl⟩)
        clear hD
        with_reducible refine (HX.out _ hC.bel).mono ?_
        rintro e wx ⟨rfl, hb⟩
        exact ⟨_, rfl, hb, rfl, trivial⟩
      rintro _ rfl
      try simp only [Act.put, List.setIfInBounds_toArray, List.set_cons_zero, List.set_cons_succ]
      repeat (first
        | (refine calm_skip (by rfl) ?_; try simp only [Act.put, List.setIfInBounds_toArray, List.set_cons_zero, List.set_cons_succ])
        | (refine calm_plain (by rfl) (by rfl) ?_; apply Exists.intro; refine ⟨fun wc hC hD => ?_, ?_⟩; (focus (clear hD; obtain ⟨s0, s1⟩ := box2 (hC.blk _ List.mem_cons_self); obtain ⟨c0, c1, c2, c3, c4, c5, c6, c7⟩ := box8 (hC.blk _ (List.mem_cons_of_mem _ List.mem_cons_self)); clear hC; go_simp; first | done | with_reducible rfl)); try simp only [Act.put, List.setIfInBounds_toArray, List.set_cons_zero, List.set_cons_succ]))
      refine calm_end ?_
      intro w7 hL7 hF7
      clear hF7
      replace HL := Lib.hid hL7
      clear hL7
      go_wp2
      go_ret
      exact ⟨ret_bool HE.out.symm, HL.out.bel⟩
    · have d1 : decide (a < b) = false := decide_eq_false h1
      have HE := Lib.hid (show readyB l x = false from readyB_of (by rw [HP.out]; exact ⟨fun h => absurd h.2.2.2 h1, fun h => by cases h⟩))
      clear hy
      go_enter Try.func105, Try.ntmps105
      go_wp2_with fail
      refine (HA.out _ (by (repeat (first | with_reducible refine bset ?_ _ (by omega) | with_reducible refine ball ?_ _ (by first | exact Nat.le_refl _ | (simp only [World.size_alloc, World.size_setCell]; omega)) | with_reducible exact Below.refl _ _ | with_reducible refine Below.drew ?_)))).mono ?_
      rintro e w1 ⟨rfl, hb1⟩
      have HL := Lib.hid ((((Lg.start w).alloc _).lift hb1).alloc (.cells #[.int .i64 a, .int .i64 b] 186))
      clear hb1
      go_upto_region 2 with fail
      refine wp_region_calm_lg (told []) (by kernel_rfl) (by kernel_rfl) (told_mono _) HL.out ?_
      repeat (first
        | (refine calm_skip (by rfl) ?_; try simp only [Act.put, List.setIfInBounds_toArray, List.set_cons_zero, List.set_cons_succ])
        | (refine calm_plain (by rfl) (by rfl) ?_; apply Exists.intro; refine ⟨fun wc hC hD => ?_, ?_⟩; (focus (clear hD; obtain ⟨s0, s1⟩ := box2 (hC.blk _ List.mem_cons_self); obtain ⟨c0, c1, c2, c3, c4, c5, c6, c7⟩ := box8 (hC.blk _ (List.mem_cons_of_mem _ List.mem_cons_self)); clear hC; go_simp; first | done | with_reducible rfl)); try simp only [Act.put, List.setIfInBounds_toArray, List.set_cons_zero, List.set_cons_succ]))
      refine calm_end ?_
      intro w7 hL7 hF7
      clear hF7
      replace HL := Lib.hid hL7
      clear hL7
      go_wp2
      go_ret
      exact ⟨ret_bool HE.out.symm, HL.out.bel⟩

/-! Names in order. -/
def cmpI (x y : Int) : Int := if x < y then -1 else if y < x then 1 else 0
def cmpN (a b : Nm) : Int := if cmpI a.c b.c ≠ 0 then cmpI a.c b.c else cmpI a.k b.k
theorem cmpN_less (a b : Nm) : 0 ≤ cmpN a b ↔ ¬ LessP a b := by
  unfold cmpN cmpI LessP
  split <;> split <;> (try split) <;> (try split) <;> omega
theorem cmpI_bd (x y : Int) : -1 ≤ cmpI x y ∧ cmpI x y ≤ 1 := by unfold cmpI; split <;> (try split) <;> omega

theorem impl_nan (x : Int) (w : World) : Calls Try.prog 190 #[.int .i64 x] w (Tell false w) := by
  have h : (x != x) = false := by simp
  go_enter Try.func190, Try.ntmps190
  go_wp2
  go_ret
  exact ⟨rfl, by (repeat (first | with_reducible refine bset ?_ _ (by omega) | with_reducible refine ball ?_ _ (by first | exact Nat.le_refl _ | (simp only [World.size_alloc, World.size_setCell]; omega)) | with_reducible exact Below.refl _ _ | with_reducible refine Below.drew ?_))⟩

theorem impl_cmp (x y : Int) (w : World) : Calls Try.prog 185 #[.int .i64 x, .int .i64 y] w (Back (.int .i64 (cmpI x y)) w) := by
  by_cases h1 : x < y
  · have HE := Lib.hid (show cmpI x y = -1 from if_pos h1)
    go_enter Try.func185, Try.ntmps185
    go_wp2_with fail
    refine (impl_nan _ _).mono ?_
    rintro e w1 ⟨rfl, hb1⟩
    go_wp2_with fail
    refine (impl_nan _ _).mono ?_
    rintro e w2 ⟨rfl, hb2⟩
    have HB := Lib.hid (below_call hb1 hb1.size hb2); clear hb1 hb2
    go_wp2
    go_ret
    exact ⟨ret_i64 HE.out.symm, HB.out⟩
  · by_cases h2 : y < x
    · have HE := Lib.hid (show cmpI x y = 1 from (if_neg h1).trans (if_pos h2))
      go_enter Try.func185, Try.ntmps185
      go_wp2_with fail
      refine (impl_nan _ _).mono ?_
      rintro e w1 ⟨rfl, hb1⟩
      go_wp2_with fail
      refine (impl_nan _ _).mono ?_
      rintro e w2 ⟨rfl, hb2⟩
      have HB := Lib.hid (below_call hb1 hb1.size hb2); clear hb1 hb2
      go_wp2
      go_ret
      exact ⟨ret_i64 HE.out.symm, HB.out⟩
    · have HE := Lib.hid (show cmpI x y = 0 from (if_neg h1).trans (if_neg h2))
      go_enter Try.func185, Try.ntmps185
      go_wp2_with fail
      refine (impl_nan _ _).mono ?_
      rintro e w1 ⟨rfl, hb1⟩
      go_wp2_with fail
      refine (impl_nan _ _).mono ?_
      rintro e w2 ⟨rfl, hb2⟩
      have HB := Lib.hid (below_call hb1 hb1.size hb2); clear hb1 hb2
      go_wp2
      go_ret
      exact ⟨ret_i64 HE.out.symm, HB.out⟩

theorem impl_or (p q r : Int) (hr : r = if p ≠ 0 then p else q) (g : Nat) (w : World) (hg : w.heap[g]? = some (.cells #[.int .i64 p, .int .i64 q] 3 (0, 0))) :
    Calls Try.prog 184 #[.slice (some ⟨g, 0, none⟩) 2 2] w (Back (.int .i64 r) w) := by
  obtain ⟨c0, c1⟩ := box2 hg
  clear hg
  by_cases hp : p = 0
  · have hb : (p != 0) = false := by simp [hp]
    have HE := Lib.hid (show r = q from hr.trans (if_neg (fun h => h hp))); clear hp hr
    by_cases hq : q = 0
    · have hb2 : (q != 0) = false := by simp [hq]
      have HQ := Lib.hid hq; clear hq
      go_enter Try.func184, Try.ntmps184
      go_wp2
      refine wp_loop_rounds 3 ?_
      rw [rounds_succ]
      go_wp2
      rw [rounds_succ]
      go_wp2
      rw [rounds_succ]
      go_wp2
      go_ret
      exact ⟨ret_i64 (by rw [HE.out, HQ.out]), Below.refl _ _⟩
    · have hb2 : (q != 0) = true := by simp [hq]
      have HQ := Lib.hid hq; clear hq
      go_enter Try.func184, Try.ntmps184
      go_wp2
      refine wp_loop_rounds 3 ?_
      rw [rounds_succ]
      go_wp2
      rw [rounds_succ]
      go_wp2
      go_ret
      exact ⟨ret_i64 (by rw [HE.out]), Below.refl _ _⟩
  · have hb : (p != 0) = true := by simp [hp]
    have HE := Lib.hid (show r = p from hr.trans (if_pos hp)); clear hp hr
    go_enter Try.func184, Try.ntmps184
    go_wp2
    refine wp_loop_rounds 3 ?_
    rw [rounds_succ]
    go_wp2
    go_ret
    exact ⟨ret_i64 (by rw [HE.out]), Below.refl _ _⟩

set_option maxRecDepth 100000 in
set_option maxHeartbeats 4000000 in
theorem impl_compare (a b : Nm) (w : World) : Calls Try.prog 155 #[vN a, vN b] w (Back (.int .i64 (cmpN a b)) w) := by
  have HC := Lib.hid (fun W => impl_cmp a.c b.c W)
  have HK := Lib.hid (fun W => impl_cmp a.k b.k W)
  have HE := Lib.hid (show cmpN a b = if cmpI a.c b.c ≠ 0 then cmpI a.c b.c else cmpI a.k b.k from rfl)
  obtain ⟨p, hp⟩ : ∃ p, p = cmpI a.c b.c := ⟨_, rfl⟩
  obtain ⟨q, hq⟩ : ∃ q, q = cmpI a.k b.k := ⟨_, rfl⟩
  rw [← hp] at HC; rw [← hq] at HK; rw [← hp, ← hq] at HE
  clear hp hq
  obtain ⟨r, hr⟩ : ∃ r, r = cmpN a b := ⟨_, rfl⟩
  rw [← hr] at HE
  have HRR := Lib.hid hr; clear hr
  have hL := ((Lg.start w).alloc (.cells #[.int .i64 a.c, .int .i64 a.k] 66)).alloc (.cells #[.int .i64 b.c, .int .i64 b.k] 66)
  simp only [World.size_alloc] at hL
  have HL := Lib.hid hL; clear hL
  go_enter Try.func155, Try.ntmps155
  go_upto_region 1 with fail
  refine wp_region_calm_lg [(4, (fun u => u = .int .i64 p), fun _ _ => True), (9, (fun u => u = .int .i64 q), fun _ _ => True), (10, (fun u => ∃ g, u = .slice (some ⟨g, 0, none⟩) 2 2), fun u W => ∃ g, u = .slice (some ⟨g, 0, none⟩) 2 2 ∧ W.heap[g]? = some (.cells #[.int .i64 p, .int .i64 q] 3 (0, 0))), (11, (fun u => u = .int .i64 r), fun _ _ => True)] (by kernel_rfl) (by kernel_rfl) (by intro x hx v; simp only [List.mem_cons, List.not_mem_nil, or_false] at hx; rcases hx with rfl | rfl | rfl | rfl; exact fun _ _ _ h => h; exact fun _ _ _ h => h; exact fun W W' hb h => (match h with | ⟨g, e, hg⟩ => ⟨g, e, keep_blk hb hg⟩); exact fun _ _ _ h => h) HL.out ?_
  repeat (first
    | (refine calm_skip (by rfl) ?_; try simp only [Act.put, List.setIfInBounds_toArray, List.set_cons_zero, List.set_cons_succ])
    | (refine calm_plain (by rfl) (by rfl) ?_; apply Exists.intro; refine ⟨fun wc hC hD => ?_, ?_⟩; (focus (clear hD; obtain ⟨s0, s1⟩ := box2 (hC.blk _ List.mem_cons_self); obtain ⟨c0, c1⟩ := box2 (hC.blk _ (List.mem_cons_of_mem _ List.mem_cons_self)); clear hC; go_simp; first | done | with_reducible rfl)); try simp only [Act.put, List.setIfInBounds_toArray, List.set_cons_zero, List.set_cons_succ]))
  refine calm_call _ _ (by rfl) (by rfl) ?_ ?_
  focus
    apply Exists.intro
    apply Exists.intro
    refine ⟨fun wc hC hD => ?_, fun wc hC hD => ?_⟩
    focus (clear hD; obtain ⟨s0, s1⟩ := box2 (hC.blk _ List.mem_cons_self); obtain ⟨c0, c1⟩ := box2 (hC.blk _ (List.mem_cons_of_mem _ List.mem_cons_self)); clear hC; go_simp; first | done | with_reducible exact ⟨rfl, rfl⟩)
    clear hD
    with_reducible refine (HC.out _).mono ?_
    rintro e wx ⟨rfl, hb⟩
    exact ⟨_, rfl, hb, rfl, trivial⟩
  rintro _ rfl
  try simp only [Act.put, List.setIfInBounds_toArray, List.set_cons_zero, List.set_cons_succ]
  repeat (first
    | (refine calm_skip (by rfl) ?_; try simp only [Act.put, List.setIfInBounds_toArray, List.set_cons_zero, List.set_cons_succ])
    | (refine calm_plain (by rfl) (by rfl) ?_; apply Exists.intro; refine ⟨fun wc hC hD => ?_, ?_⟩; (focus (clear hD; obtain ⟨s0, s1⟩ := box2 (hC.blk _ List.mem_cons_self); obtain ⟨c0, c1⟩ := box2 (hC.blk _ (List.mem_cons_of_mem _ List.mem_cons_self)); clear hC; go_simp; first | done | with_reducible rfl)); try simp only [Act.put, List.setIfInBounds_toArray, List.set_cons_zero, List.set_cons_succ]))
  refine calm_call _ _ (by rfl) (by rfl) ?_ ?_
  focus
    apply Exists.intro
    apply Exists.intro
    refine ⟨fun wc hC hD => ?_, fun wc hC hD => ?_⟩
    focus (clear hD; obtain ⟨s0, s1⟩ := box2 (hC.blk _ List.mem_cons_self); obtain ⟨c0, c1⟩ := box2 (hC.blk _ (List.mem_cons_of_mem _ List.mem_cons_self)); clear hC; go_simp; first | done | with_reducible exact ⟨rfl, rfl⟩)
    clear hD
    with_reducible refine (HK.out _).mono ?_
    rintro e wx ⟨rfl, hb⟩
    exact ⟨_, rfl, hb, rfl, trivial⟩
  rintro _ rfl
  try simp only [Act.put, List.setIfInBounds_toArray, List.set_cons_zero, List.set_cons_succ]
  repeat (first
    | (refine calm_skip (by rfl) ?_; try simp only [Act.put, List.setIfInBounds_toArray, List.set_cons_zero, List.set_cons_succ])
    | (refine calm_plain (by rfl) (by rfl) ?_; apply Exists.intro; refine ⟨fun wc hC hD => ?_, ?_⟩; (focus (clear hD; obtain ⟨s0, s1⟩ := box2 (hC.blk _ List.mem_cons_self); obtain ⟨c0, c1⟩ := box2 (hC.blk _ (List.mem_cons_of_mem _ List.mem_cons_self)); clear hC; go_simp; first | done | with_reducible rfl)); try simp only [Act.put, List.setIfInBounds_toArray, List.set_cons_zero, List.set_cons_succ]))
  refine calm_make _ _ (by rfl) (by rfl) ?_ ?_
  focus
    intro wc hC hD
    clear hD hC
    exact ⟨.slice (some ⟨wc.heap.size, 0, none⟩) 2 2, wc.alloc (.cells #[.int .i64 p, .int .i64 q] 3), (by go_simp), (Below.refl _ _).alloc (Nat.le_refl _) _, ⟨_, rfl⟩, _, rfl, heap_alloc_new _ _⟩
  rintro _ ⟨g, rfl⟩
  try simp only [Act.put, List.setIfInBounds_toArray, List.set_cons_zero, List.set_cons_succ]
  repeat (first
    | (refine calm_skip (by rfl) ?_; try simp only [Act.put, List.setIfInBounds_toArray, List.set_cons_zero, List.set_cons_succ])
    | (refine calm_plain (by rfl) (by rfl) ?_; apply Exists.intro; refine ⟨fun wc hC hD => ?_, ?_⟩; (focus (clear hD; obtain ⟨s0, s1⟩ := box2 (hC.blk _ List.mem_cons_self); obtain ⟨c0, c1⟩ := box2 (hC.blk _ (List.mem_cons_of_mem _ List.mem_cons_self)); clear hC; go_simp; first | done | with_reducible rfl)); try simp only [Act.put, List.setIfInBounds_toArray, List.set_cons_zero, List.set_cons_succ]))
  refine calm_call _ _ (by rfl) (by rfl) ?_ ?_
  focus
    apply Exists.intro
    apply Exists.intro
    refine ⟨fun wc hC hD => ?_, fun wc hC hD => ?_⟩
    focus (clear hD; obtain ⟨s0, s1⟩ := box2 (hC.blk _ List.mem_cons_self); obtain ⟨c0, c1⟩ := box2 (hC.blk _ (List.mem_cons_of_mem _ List.mem_cons_self)); clear hC; go_simp; first | done | with_reducible exact ⟨rfl, rfl⟩)
    have ha := Deps.get hD 10 (by kernel_rfl)
    simp [upd, noF] at ha
    clear hD
    with_reducible refine (impl_or p q r HE.out g _ ha).mono ?_
    rintro e wx ⟨rfl, hb⟩
    exact ⟨_, rfl, hb, rfl, trivial⟩
  rintro _ rfl
  try simp only [Act.put, List.setIfInBounds_toArray, List.set_cons_zero, List.set_cons_succ]
  repeat (first
    | (refine calm_skip (by rfl) ?_; try simp only [Act.put, List.setIfInBounds_toArray, List.set_cons_zero, List.set_cons_succ])
    | (refine calm_plain (by rfl) (by rfl) ?_; apply Exists.intro; refine ⟨fun wc hC hD => ?_, ?_⟩; (focus (clear hD; obtain ⟨s0, s1⟩ := box2 (hC.blk _ List.mem_cons_self); obtain ⟨c0, c1⟩ := box2 (hC.blk _ (List.mem_cons_of_mem _ List.mem_cons_self)); clear hC; go_simp; first | done | with_reducible rfl)); try simp only [Act.put, List.setIfInBounds_toArray, List.set_cons_zero, List.set_cons_succ]))
  refine calm_end ?_
  intro w7 hL7 hF7
  clear hF7
  replace HL := Lib.hid hL7
  clear hL7
  go_wp2
  go_ret
  exact ⟨ret_i64 HRR.out, HL.out.bel⟩

end Go.Proofs.Ytghiipoeedfkhaa
