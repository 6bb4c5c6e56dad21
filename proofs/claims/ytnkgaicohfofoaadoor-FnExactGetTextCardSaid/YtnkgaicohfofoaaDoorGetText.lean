/-
  The contracts of both GetText.
-/
import Derived.Test.YtnkgaicohfofoaaDoorGetNum
import Derived.Test.YtnkgaicohfofoaaDoorClone
import Derived.BigQuiet
import Derived.IntWalk
import Derived.Deep.QuietTactic
import Derived.StillTailTactics
import Derived.RegionTactic
import Derived.BigRegion
import Derived.WalkSmall
namespace Go.Proofs.YtnkgaicohfofoaaDoor
open Go.ChangeShapes Go.WideShapes Go.ChangeAt Go.RowKit

/-- What GetText tells: the text, the place behind it, the code. -/
def getText (s : ByteArray) (a : Int) : ByteArray × Int × Int :=
  if (getNum s a).2.2 ≠ 0 then (⟨#[]⟩, 0, (getNum s a).2.2)
  else if (getNum s a).1 < 0 ∨ 8000 < (getNum s a).1 then (⟨#[]⟩, 0, 3)
  else if (s.size : Int) < (getNum s a).2.1 + (getNum s a).1 then (⟨#[]⟩, 0, 4)
  else (s.extract (getNum s a).2.1.toNat ((getNum s a).2.1 + (getNum s a).1).toNat, (getNum s a).2.1 + (getNum s a).1, 0)
theorem getText_code {s : ByteArray} {a c : Int} (h : getNum s a = (0, 0, c)) (hc : c ≠ 0) : getText s a = (⟨#[]⟩, 0, c) := by
  unfold getText; rw [h]; exact if_pos hc
theorem getText_syntax {s : ByteArray} {a n p : Int} (h : getNum s a = (n, p, 0)) (hn : n < 0 ∨ 8000 < n) : getText s a = (⟨#[]⟩, 0, 3) := by
  unfold getText; rw [h, if_neg (by simp), if_pos hn]
theorem getText_short {s : ByteArray} {a n p : Int} (h : getNum s a = (n, p, 0)) (hn : ¬ (n < 0 ∨ 8000 < n)) (hp : (s.size : Int) < p + n) : getText s a = (⟨#[]⟩, 0, 4) := by
  unfold getText; rw [h, if_neg (by simp), if_neg hn, if_pos hp]
theorem getText_ok {s : ByteArray} {a : Int} {n p : Nat} (h : getNum s a = ((n : Int), (p : Int), 0)) (hn : n ≤ 8000) (hp : p + n ≤ s.size) : getText s a = (s.extract p (p + n), ((p + n : Nat) : Int), 0) := by
  unfold getText; rw [h, if_neg (by simp), if_neg (by simp; omega), if_neg (by simp; omega)]
  have e : ((p : Int) + (n : Int)).toNat = p + n := by omega
  simp only [e, Int.toNat_natCast]
  rfl

/-- A TextOut. -/
def textOut3 (r : ByteArray × Int × Int) : Value := .agg #[.string r.1, .int .i64 r.2.1, .int .i64 r.2.2]

set_option maxRecDepth 100000 in
set_option maxHeartbeats 2000000 in
theorem spec_gettext_ok (s : ByteArray) (a : Int) (w : World) (n p : Nat) (hm : s.size ≤ maxLen) (ha1 : -9223372036854775808 ≤ a) (ha2 : a ≤ 9223372036854775807) (hg : getNum s a = ((n : Int), (p : Int), 0)) (hn : n ≤ 8000) (hp : p + n ≤ s.size) :
    Calls Tryd.prog 8 #[.string s, .int .i64 a] w fun e w' => e = .returned (textOut3 (s.extract p (p + n), ((p + n : Nat) : Int), 0)) ∧ Below w.heap.size w w' := by
  have H1 := Lib.hid (fun W => spec_getnum s a W hm ha1 ha2)
  rw [hg] at H1
  unfold numOut at H1
  clear hg
  unfold maxLen at hm
  go_enter Tryd.func8, Tryd.ntmps8
  go_wp2_with fail
  refine (H1.out _).mono ?_
  rintro e w1 ⟨rfl, hb1⟩
  obtain ⟨hc, hf⟩ := bcell hb1
  have hz : w.heap.size < w1.heap.size := by have := hb1.size; simp at this; omega
  have hpn : ¬ (s.size : Int) - n < p := by omega
  have hn1 : ¬ (n : Int) < 0 := by omega
  have hn2 : ¬ 8000 < (n : Int) := by omega
  go_wp2
  have hsl : ∀ W, (Instr.slice 9 (.string s) (some (.int .i64 (p : Int))) (some (.int .i64 ((p : Int) + n))) none).run Tryd.prog W = .ok (.string (s.extract p (p + n))) W := fun W => by
    have h := run_slice_string (P := Tryd.prog) W 9 s .i64 .i64 (p : Int) ((p : Int) + n) Tryd.underlying9 (by omega) (by omega) (by omega)
    rw [h]
    have e3 : ((p : Int) + n).toNat = p + n := by omega
    rw [e3, Int.toNat_natCast]
  go_region
  go_wp2
  exact bodyPost_ret (v := .agg #[.string (s.extract p (p + n)), .int .i64 ((p : Int) + n), .int .i64 0]) (by simp [results, Tryd.results8, go_sem, hc, hz]) rfl ⟨rfl, ((((((((Below.refl _ _).alloc (Nat.le_refl _) _).trans (hb1.mono (by simp))).setCell (by simp) _).setCell (by simp) _).setCell (by simp) _).alloc (by simp [World.size_setCell]; omega) _).drew)⟩

/-- Behind a GetNum that told a code, or a number: the three ways out with a code. -/
theorem spec_gettext_code (s : ByteArray) (a : Int) (w : World) (c : Int) (hm : s.size ≤ maxLen) (ha1 : -9223372036854775808 ≤ a) (ha2 : a ≤ 9223372036854775807) (hg : getNum s a = (0, 0, c)) (hc0 : c ≠ 0) :
    Calls Tryd.prog 8 #[.string s, .int .i64 a] w fun e w' => e = .returned (textOut3 (⟨#[]⟩, 0, c)) ∧ Below w.heap.size w w' := by
  have H1 := Lib.hid (fun W => spec_getnum s a W hm ha1 ha2)
  rw [hg] at H1
  unfold numOut at H1
  clear hg
  unfold maxLen at hm
  have hc0' : (c != 0) = true := by simpa using hc0
  clear hc0
  go_enter Tryd.func8, Tryd.ntmps8
  go_wp2_with fail
  refine (H1.out _).mono ?_
  rintro e w1 ⟨rfl, hb1⟩
  obtain ⟨hc, hf⟩ := bcell hb1
  have hz : w.heap.size < w1.heap.size := by have := hb1.size; simp at this; omega
  go_wp2
  exact bodyPost_ret (v := .agg #[.string ⟨#[]⟩, .int .i64 0, .int .i64 c]) (by simp [results, Tryd.results8, go_sem, hc, hz]) rfl ⟨rfl, (((((((Below.refl _ _).alloc (Nat.le_refl _) _).trans (hb1.mono (by simp))).setCell (by simp) _).setCell (by simp) _).setCell (by simp) _).alloc (by simp [World.size_setCell]; omega) _)⟩

theorem spec_gettext_syntax (s : ByteArray) (a : Int) (w : World) (n p : Int) (hm : s.size ≤ maxLen) (ha1 : -9223372036854775808 ≤ a) (ha2 : a ≤ 9223372036854775807) (hg : getNum s a = (n, p, 0)) (hn : n < 0 ∨ 8000 < n) :
    Calls Tryd.prog 8 #[.string s, .int .i64 a] w fun e w' => e = .returned (textOut3 (⟨#[]⟩, 0, 3)) ∧ Below w.heap.size w w' := by
  have H1 := Lib.hid (fun W => spec_getnum s a W hm ha1 ha2)
  rw [hg] at H1
  unfold numOut at H1
  clear hg
  unfold maxLen at hm
  by_cases h1 : n < 0
  all_goals
    try (have h2 : 8000 < n := by omega)
    clear hn
    go_enter Tryd.func8, Tryd.ntmps8
    go_wp2_with fail
    refine (H1.out _).mono ?_
    rintro e w1 ⟨rfl, hb1⟩
    obtain ⟨hc, hf⟩ := bcell hb1
    have hz : w.heap.size < w1.heap.size := by have := hb1.size; simp at this; omega
    go_wp2
    exact bodyPost_ret (v := .agg #[.string ⟨#[]⟩, .int .i64 0, .int .i64 3]) (by simp [results, Tryd.results8, go_sem, hc, hz]) rfl ⟨rfl, (((((((Below.refl _ _).alloc (Nat.le_refl _) _).trans (hb1.mono (by simp))).setCell (by simp) _).setCell (by simp) _).setCell (by simp) _).alloc (by simp [World.size_setCell]; omega) _)⟩

theorem spec_gettext_short (s : ByteArray) (a : Int) (w : World) (n p : Int) (hm : s.size ≤ 8000) (ha1 : -9223372036854775808 ≤ a) (ha2 : a ≤ 9223372036854775807) (hg : getNum s a = (n, p, 0)) (hn : ¬ (n < 0 ∨ 8000 < n)) (hp : (s.size : Int) < p + n) :
    Calls Tryd.prog 8 #[.string s, .int .i64 a] w fun e w' => e = .returned (textOut3 (⟨#[]⟩, 0, 4)) ∧ Below w.heap.size w w' := by
  have H1 := Lib.hid (fun W => spec_getnum s a W (by unfold maxLen; omega) ha1 ha2)
  rw [hg] at H1
  unfold numOut at H1
  clear hg
  have h1 : ¬ n < 0 := by omega
  have h2 : ¬ 8000 < n := by omega
  have h3 : (s.size : Int) - n < p := by omega
  clear hn
  go_enter Tryd.func8, Tryd.ntmps8
  go_wp2_with fail
  refine (H1.out _).mono ?_
  rintro e w1 ⟨rfl, hb1⟩
  obtain ⟨hc, hf⟩ := bcell hb1
  have hz : w.heap.size < w1.heap.size := by have := hb1.size; simp at this; omega
  go_wp2
  exact bodyPost_ret (v := .agg #[.string ⟨#[]⟩, .int .i64 0, .int .i64 4]) (by simp [results, Tryd.results8, go_sem, hc, hz]) rfl ⟨rfl, (((((((Below.refl _ _).alloc (Nat.le_refl _) _).trans (hb1.mono (by simp))).setCell (by simp) _).setCell (by simp) _).setCell (by simp) _).alloc (by simp [World.size_setCell]; omega) _)⟩

end Go.Proofs.YtnkgaicohfofoaaDoor
