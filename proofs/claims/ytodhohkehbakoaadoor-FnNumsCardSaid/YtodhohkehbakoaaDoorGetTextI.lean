/-
  The contract of the program's GetText.
-/
import Derived.Test.YtodhohkehbakoaaDoorGetNum
import Derived.Test.YtodhohkehbakoaaDoorClone
import Derived.WalkSmall
namespace Go.Proofs.YtodhohkehbakoaaDoor
open Go.ChangeShapes Go.WideShapes Go.ChangeAt Go.RowKit

/-- An error of the program's own. -/
def faultV (c : Int) : Value := .iface 46 (.agg #[.int .i64 c])

set_option maxRecDepth 100000 in
theorem impl_textat_ok (s : ByteArray) (a : Int) (w : World) (n p : Nat) (hm : s.size ≤ 8000) (hg : getNum s a = ((n : Int), (p : Int), 0)) (hn : n ≤ 8000) (hp : p + n ≤ s.size) :
    Calls Tryd.prog 22 #[.string s, .int .i64 a] w fun e w' => e = .returned (.tuple #[.string (s.extract p (p + n)), .int .i64 ((p : Int) + n), .nilIface]) ∧ Below w.heap.size w w' := by
  have H1 := Lib.hid (fun W => impl_numat s a W (by unfold maxLen; omega))
  rw [hg] at H1
  unfold numAtOut at H1
  simp only [if_true] at H1
  clear hg
  have h1 : ¬ (n : Int) < 0 := by omega
  have h2 : ¬ 8000 < (n : Int) := by omega
  have h3 : ¬ (s.size : Int) - p < n := by omega
  have hsl : ∀ W, (Instr.slice 9 (.string s) (some (.int .i64 (p : Int))) (some (.int .i64 ((p : Int) + n))) none).run Tryd.prog W = .ok (.string (s.extract p (p + n))) W := fun W => by
    have h := run_slice_string (P := Tryd.prog) W 9 s .i64 .i64 (p : Int) ((p : Int) + n) Tryd.underlying9 (by omega) (by omega) (by omega)
    rw [h]
    have e3 : ((p : Int) + n).toNat = p + n := by omega
    rw [e3, Int.toNat_natCast]
  go_enter Tryd.func22, Tryd.ntmps22
  go_wp2_with fail
  refine (H1.out _).mono ?_
  rintro e w1 ⟨rfl, rfl⟩
  go_wp2_with fail
  refine (strings_clone (s.extract p (p + n)) _ (by rw [ByteArray.size_extract]; omega)).mono ?_
  rintro e w2 ⟨rfl, hb⟩
  go_wp2
  go_ret3
  exact ⟨rfl, hb⟩

set_option maxRecDepth 100000 in
theorem impl_textat_code (s : ByteArray) (a : Int) (w : World) (c : Int) (hm : s.size ≤ maxLen) (hg : getNum s a = (0, 0, c)) (hc : c ≠ 0) :
    Calls Tryd.prog 22 #[.string s, .int .i64 a] w fun e w' => e = .returned (.tuple #[.string ⟨#[]⟩, .int .i64 0, faultV c]) ∧ Below w.heap.size w w' := by
  have H1 := Lib.hid (fun W => impl_numat s a W hm)
  rw [hg] at H1
  unfold numAtOut at H1
  simp only [if_neg hc] at H1
  clear hg hc
  go_enter Tryd.func22, Tryd.ntmps22
  go_wp2_with fail
  refine (H1.out _).mono ?_
  rintro e w1 ⟨rfl, rfl⟩
  go_wp2
  go_ret3
  exact ⟨rfl, Below.refl _ _⟩

set_option maxRecDepth 100000 in
theorem impl_textat_syntax (s : ByteArray) (a : Int) (w : World) (n p : Int) (hm : s.size ≤ maxLen) (hg : getNum s a = (n, p, 0)) (hn : n < 0 ∨ 8000 < n) :
    Calls Tryd.prog 22 #[.string s, .int .i64 a] w fun e w' => e = .returned (.tuple #[.string ⟨#[]⟩, .int .i64 0, faultV 3]) ∧ Below w.heap.size w w' := by
  have H1 := Lib.hid (fun W => impl_numat s a W hm)
  rw [hg] at H1
  unfold numAtOut at H1
  simp only [if_true] at H1
  clear hg
  by_cases h1 : n < 0
  all_goals
    try (have h2 : 8000 < n := by omega)
    clear hn
    go_enter Tryd.func22, Tryd.ntmps22
    go_wp2_with fail
    refine (H1.out _).mono ?_
    rintro e w1 ⟨rfl, rfl⟩
    go_wp2
    go_ret3
    exact ⟨rfl, Below.refl _ _⟩

set_option maxRecDepth 100000 in
theorem impl_textat_short (s : ByteArray) (a : Int) (w : World) (n p : Int) (hm : s.size ≤ 8000) (hg : getNum s a = (n, p, 0)) (hn : ¬ (n < 0 ∨ 8000 < n)) (hp1 : p ≤ s.size) (hp : (s.size : Int) < p + n) :
    Calls Tryd.prog 22 #[.string s, .int .i64 a] w fun e w' => e = .returned (.tuple #[.string ⟨#[]⟩, .int .i64 0, faultV 4]) ∧ Below w.heap.size w w' := by
  have H1 := Lib.hid (fun W => impl_numat s a W (by unfold maxLen; omega))
  rw [hg] at H1
  unfold numAtOut at H1
  simp only [if_true] at H1
  clear hg
  have h1 : ¬ n < 0 := by omega
  have h2 : ¬ 8000 < n := by omega
  have h3 : (s.size : Int) - p < n := by omega
  clear hn
  go_enter Tryd.func22, Tryd.ntmps22
  go_wp2_with fail
  refine (H1.out _).mono ?_
  rintro e w1 ⟨rfl, rfl⟩
  go_wp2
  go_ret3
  exact ⟨rfl, Below.refl _ _⟩

theorem errVar_on {w w1 : World} (hv : ErrVar w) (hb : Below w.heap.size w w1) : ErrVar w1 := by
  have hv0 : 0 < w.heap.size := by
    rcases Nat.eq_zero_or_pos w.heap.size with h0 | h
    · simp [ErrVar, World.cell?, h0] at hv
    · exact h
  unfold ErrVar
  rw [hb.cell hv0]
  exact hv
theorem errVar_alloc {w : World} (hv : ErrVar w) (o : Obj) : ErrVar (w.alloc o) := errVar_on hv ((Below.refl _ _).alloc (Nat.le_refl _) _)

set_option maxRecDepth 100000 in
theorem impl_gettext_ok (s : ByteArray) (a : Int) (w : World) (t : ByteArray) (p : Int)
    (ht : ∀ W, Calls Tryd.prog 22 #[.string s, .int .i64 a] W fun e w' => e = .returned (.tuple #[.string t, .int .i64 p, .nilIface]) ∧ Below W.heap.size W w') :
    Calls Tryd.prog 11 #[.string s, .int .i64 a] w fun e w' => e = .returned (.agg #[.string t, .int .i64 p, .int .i64 0]) ∧ Below w.heap.size w w' := by
  have HT := Lib.hid ht; clear ht
  go_enter Tryd.func11, Tryd.ntmps11
  go_wp2_with fail
  refine (HT.out _).mono ?_
  rintro e w1 ⟨rfl, hb⟩
  obtain ⟨hc, hf⟩ := bcell hb
  have hz : w.heap.size < w1.heap.size := by have := hb.size; simp at this; omega
  go_wp2_with fail
  refine (as_nil _ _).mono ?_
  rintro e w' ⟨rfl, rfl⟩
  go_wp2
  exact bodyPost_ret (v := .agg #[.string t, .int .i64 p, .int .i64 0]) (by simp [results, Tryd.results11, go_sem, hc, hz]) rfl ⟨rfl, (((((((Below.refl _ _).alloc (Nat.le_refl _) _).trans (hb.mono (by simp))).setCell (by simp) _).setCell (by simp) _).setCell (by simp) _).alloc (by simp [World.size_setCell]; omega) _)⟩

set_option maxRecDepth 100000 in
theorem impl_gettext_bad (s : ByteArray) (a : Int) (w : World) (c : Int) (hv : ErrVar w)
    (ht : ∀ W, Calls Tryd.prog 22 #[.string s, .int .i64 a] W fun e w' => e = .returned (.tuple #[.string ⟨#[]⟩, .int .i64 0, faultV c]) ∧ Below W.heap.size W w') :
    Calls Tryd.prog 11 #[.string s, .int .i64 a] w fun e w' => e = .returned (.agg #[.string ⟨#[]⟩, .int .i64 0, .int .i64 c]) ∧ Below w.heap.size w w' := by
  have HT := Lib.hid ht; clear ht
  unfold faultV at HT
  go_enter Tryd.func11, Tryd.ntmps11
  go_wp2_with fail
  refine (HT.out _).mono ?_
  rintro e w1 ⟨rfl, hb⟩
  obtain ⟨hc, hf⟩ := bcell hb
  have hz : w.heap.size < w1.heap.size := by have := hb.size; simp at this; omega
  have hz1 : w.heap.size < w1.heap.size + 1 := by omega
  have hz2 : w.heap.size < w1.heap.size + 1 + 1 := by omega
  have hz3 : w.heap.size < w1.heap.size + 1 + 1 + 1 := by omega
  have hz4 : w.heap.size < w1.heap.size + 1 + 1 + 1 + 1 := by omega
  have hz5 : w.heap.size < w1.heap.size + 1 + 1 + 1 + 1 + 1 := by omega
  have hv1 := errVar_on (errVar_alloc hv _) hb
  go_wp2_with fail
  refine (as_hit c ⟨w1.heap.size, 0, none⟩ (.int .i64 0) _ (errVar_alloc hv1 _) ?_ ?_).mono ?_
  · rw [World.cell?_alloc_at _ _ _ _ rfl]; rfl
  · exact World.frozen?_alloc_at _ _ _ _ rfl
  rintro e w' ⟨rfl, rfl⟩
  go_wp2
  refine bodyPost_ret (v := .agg #[.string ⟨#[]⟩, .int .i64 0, .int .i64 c]) (by simp [results, Tryd.results11, go_sem, hc, hz, hz1, hz2, hz3, hz4]) rfl ⟨rfl, ?_⟩
  repeat (refine Below.alloc ?_ (by simp only [World.size_alloc, World.size_setCell]; omega) _)
  exact ((((Below.refl _ _).alloc (Nat.le_refl _) _).trans (hb.mono (by simp))).setCell (by simp) _).setCell (by simp) _ |>.setCell (by simp) _

end Go.Proofs.YtodhohkehbakoaaDoor
