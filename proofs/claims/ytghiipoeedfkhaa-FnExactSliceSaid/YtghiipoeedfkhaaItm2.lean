/-
  Contracts of both ItemRight.
-/
import Derived.Test.YtghiipoeedfkhaaItm
namespace Go.Proofs.Ytghiipoeedfkhaa
set_option linter.unusedSimpArgs false
set_option linter.unusedVariables false
open Go.ChangeShapes Go.WideShapes Go.ChangeAt Go.RowKit

set_option maxRecDepth 100000 in
set_option maxHeartbeats 4000000 in
theorem spec_item (x : Im) (w : World) (hx : x.t.size ≤ maxLen) :
    Calls Try.prog 123 #[vM x] w (Tell (itemB x) w) := by
  go_enter Try.func123, Try.ntmps123
  go_wp2_with fail
  refine (spec_id _ _).mono ?_
  rintro e w1 ⟨rfl, hb1⟩
  obtain ⟨hc, hf⟩ := bcell hb1
  have hz := hb1.size
  simp only [World.size_alloc] at hz
  have hz0 : w.heap.size < w1.heap.size := by omega
  have HB := Lib.hid (below_alloc_call (Below.refl w.heap.size w) (Nat.le_refl _) hb1)
  clear hb1
  go_wp2_with (first
    | (go_at_call 127; refine (spec_id _ _).mono ?_; rintro e w2 ⟨rfl, hb2⟩; obtain ⟨hc2, hf2⟩ := bcell hb2; have hz2 := hb2.size; have hz20 : w.heap.size < w2.heap.size := (by omega); have HB2 := Lib.hid (show Below w.heap.size w w2 from below_call HB.out HB.out.size hb2); clear HB hb2; have HB := HB2; clear HB2)
    | (go_at_call 171; refine (spec_none _ _).mono ?_; rintro e w2 ⟨rfl, hb2⟩; obtain ⟨hc2, hf2⟩ := bcell hb2; have hz2 := hb2.size; have hz20 : w.heap.size < w2.heap.size := (by omega); have HB2 := Lib.hid (show Below w.heap.size w w2 from below_call HB.out HB.out.size hb2); clear HB hb2; have HB := HB2; clear HB2)
    | (go_at_call 172; refine (spec_char _ _ hx).mono ?_; rintro e w2 ⟨rfl, hb2⟩; obtain ⟨hc2, hf2⟩ := bcell hb2; have hz2 := hb2.size; have hz20 : w.heap.size < w2.heap.size := (by omega); have HB2 := Lib.hid (show Below w.heap.size w w2 from below_call HB.out HB.out.size hb2); clear HB hb2; have HB := HB2; clear HB2))
  all_goals
    go_ret
    refine ⟨ret_bool ?_, HB.out⟩
    rw [eq_comm, item_mid, Bool.eq_iff_iff]
    simp only [Bool.and_eq_true, midB_iff]
    unfold Mid
    simp_all [eqN_iff, eqN_ff, idB_iff]

set_option maxRecDepth 100000 in
set_option maxHeartbeats 4000000 in
theorem impl_item (x : Im) (w : World) (hx : x.t.size ≤ maxLen) :
    Calls Try.prog 111 #[vM x] w (Tell (itemB x) w) := by
  unfold maxLen at hx
  have H : itemB x = (idB x.i && midB x && charB x.t) := item_mid x
  by_cases h : x.t.size = 1
  · have hs : ((x.t.size : Int) == 1) = true := by simp; omega
    have hlt : 0 < x.t.size := by omega
    have hc1 : (0 : Int) ≤ (x.t[0].toNat : Int) := by omega
    have hc2 : (x.t[0].toNat : Int) < 256 := by have := x.t[0].toNat_lt; omega
    have HC := Lib.hid (show charB x.t = decide (32 ≤ (x.t[0].toNat : Int) ∧ (x.t[0].toNat : Int) ≤ 126) by
      rw [Bool.eq_iff_iff, charB_iff]; simp only [decide_eq_true_eq]
      exact ⟨fun ⟨_, a, b⟩ => by omega, fun ⟨a, b⟩ => ⟨h, by omega, by omega⟩⟩)
    have HH := Lib.hid H; clear H h
    go_enter Try.func111, Try.ntmps111
    go_wp2_with (first
      | (go_at_call 112; refine (impl_id _ _).mono ?_; rintro e w1 ⟨rfl, hb1⟩; obtain ⟨hc, hf⟩ := bcell hb1; have hz := hb1.size; simp only [World.size_alloc] at hz; have hz0 : w.heap.size < w1.heap.size := (by omega); have HB := Lib.hid (below_alloc_call (Below.refl w.heap.size w) (Nat.le_refl _) hb1); clear hb1)
      | (go_at_call 160; refine (impl_between _ _).mono ?_; rintro e w2 ⟨rfl, hb2⟩; obtain ⟨hc2, hf2⟩ := bcell hb2; have hz2 := hb2.size; have hz20 : w.heap.size < w2.heap.size := (by omega); have HB2 := Lib.hid (show Below w.heap.size w w2 from below_call HB.out HB.out.size hb2); clear HB hb2; have HB := HB2; clear HB2)
      | (go_at_call 101; refine (impl_printed _ _).mono ?_; rintro e w2 ⟨rfl, hb2⟩; have HB2 := Lib.hid (show Below w.heap.size w w2 from below_call HB.out HB.out.size hb2); clear HB hb2; have HB := HB2; clear HB2))
    all_goals
      go_ret
      exact ⟨ret_bool (by rw [HH.out, HC.out]; simp_all), HB.out⟩
  · have hs : ((x.t.size : Int) == 1) = false := by simp; omega
    have HC := Lib.hid (char_no x.t h)
    have HH := Lib.hid H; clear H h
    go_enter Try.func111, Try.ntmps111
    go_wp2_with (first
      | (go_at_call 112; refine (impl_id _ _).mono ?_; rintro e w1 ⟨rfl, hb1⟩; obtain ⟨hc, hf⟩ := bcell hb1; have hz := hb1.size; simp only [World.size_alloc] at hz; have hz0 : w.heap.size < w1.heap.size := (by omega); have HB := Lib.hid (below_alloc_call (Below.refl w.heap.size w) (Nat.le_refl _) hb1); clear hb1)
      | (go_at_call 160; refine (impl_between _ _).mono ?_; rintro e w2 ⟨rfl, hb2⟩; obtain ⟨hc2, hf2⟩ := bcell hb2; have hz2 := hb2.size; have hz20 : w.heap.size < w2.heap.size := (by omega); have HB2 := Lib.hid (show Below w.heap.size w w2 from below_call HB.out HB.out.size hb2); clear HB hb2; have HB := HB2; clear HB2))
    all_goals
      go_ret
      exact ⟨ret_bool (by rw [HH.out, HC.out]; simp_all), HB.out⟩

end Go.Proofs.Ytghiipoeedfkhaa
