/-
  Contracts of both DiskNew.
-/
import Derived.Test.YtdllbnlimnahaaaRight
import Derived.Test.YtdllbnlimnahaaaTo
namespace Go.Proofs.Ytdllbnlimnahaaa
open Go.ChangeShapes Go.WideShapes Go.ChangeAt Go.RowKit

theorem heap_new2 (w : World) (o o' : Obj) : ((w.alloc o).alloc o').heap[w.heap.size + 1]? = some o' := by
  have h := heap_alloc_new (w.alloc o) o'
  rwa [World.size_alloc] at h
/-- A new disk. -/
def newDk (n : Int) : Dk := if 1 ≤ n ∧ n ≤ 64 then ⟨List.replicate n.toNat ⟨#[]⟩, []⟩ else ⟨[], []⟩
theorem newDk_yes (n : Int) (h : 1 ≤ n ∧ n ≤ 64) : newDk n = ⟨List.replicate n.toNat ⟨#[]⟩, []⟩ := if_pos h
theorem newDk_no (n : Int) (h : ¬ (1 ≤ n ∧ n ≤ 64)) : newDk n = ⟨[], []⟩ := if_neg h
theorem newDk_S (n : Int) : (newDk n).S.length ≤ 64 := by
  unfold newDk
  split
  · simp; omega
  · simp
theorem newDk_P (n : Int) : (newDk n).P = [] := by
  unfold newDk
  split <;> rfl
theorem own_none {α : Type} (w : World) (base : Nat) (E : TypeId) (k : Nat) (enc : α → List Value) : Ow w base E k enc (.slice none 0 0) ([] : List α) := World.ownsRow_nil w base E k
theorem made_texts (n : Nat) : (madeCells (Value.string ⟨#[]⟩).cells (n * 1)).toList = (List.replicate n (⟨#[]⟩ : ByteArray)).flatMap encS := by
  have e : (Value.string ⟨#[]⟩).cells = #[.string ⟨#[]⟩] := rfl
  rw [Nat.mul_one, e, toList_madeCells_one, flat_one Value.string, List.map_replicate]

set_option maxRecDepth 100000 in
theorem spec_disknew (n : Int) (w : World) : Calls Try.prog 18 #[.int .i64 n] w (OwnsDk w (newDk n)) := by
  by_cases h : 1 ≤ n ∧ n ≤ 64
  · have HE := Lib.hid (newDk_yes n h)
    obtain ⟨h1, h2⟩ := h
    obtain ⟨m, rfl⟩ := Int.eq_ofNat_of_zero_le (show 0 ≤ n by omega)
    obtain ⟨M, hM, hMs, hmk⟩ := make_row 23 9 _ 1 16 Try.underlying23 infoStr m (by omega) (by omega)
    have HM := Lib.hid hM; have HMs := Lib.hid hMs; clear hM hMs
    go_enter Try.func18, Try.ntmps18
    go_wp2_with (go_at_call 43; refine (spec_is_yes _ _ _ _ (by omega) (by omega)).mono ?_; rintro e w' ⟨rfl, rfl⟩)
    refine bodyPost_ret (v := .agg #[.slice (some ⟨w.heap.size + 1, 0, none⟩) m m, .slice none 0 0]) (by simp [results, Try.results18, go_sem]) rfl ⟨_, rfl, ⟨_, _, rfl, ?_, ?_⟩, ?_⟩
    · rw [HE.out]
      unfold Ow
      simp only [Int.toNat_natCast, List.length_replicate]
      exact row_lit (g := w.heap.size + 1) (cs := M) (heap_new2 _ _ _) _ _ 1 (by omega) (by unfold maxLen; omega) HMs.out (by rw [HM.out, made_texts])
    · rw [HE.out]; exact own_none _ _ _ _ _
    · exact ((Below.refl _ _).alloc (Nat.le_refl _) _).alloc (by simp) _
  · have HE := Lib.hid (newDk_no n h)
    go_enter Try.func18, Try.ntmps18
    go_wp2_with (go_at_call 43; refine (spec_is_no _ _ _ _ h).mono ?_; rintro e w' ⟨rfl, rfl⟩)
    refine bodyPost_ret (v := .agg #[.slice none 0 0, .slice none 0 0]) (by simp [results, Try.results18, go_sem]) rfl ⟨_, rfl, ⟨_, _, rfl, ?_, ?_⟩, ?_⟩
    · rw [HE.out]; exact own_none _ _ _ _ _
    · rw [HE.out]; exact own_none _ _ _ _ _
    · exact (Below.refl _ _).alloc (Nat.le_refl _) _

set_option maxRecDepth 100000 in
theorem impl_disknew (n : Int) (w : World) : Calls Try.prog 17 #[.int .i64 n] w (OwnsDk w (newDk n)) := by
  by_cases h : 1 ≤ n ∧ n ≤ 64
  · have HE := Lib.hid (newDk_yes n h)
    obtain ⟨h1, h2⟩ := h
    obtain ⟨m, rfl⟩ := Int.eq_ofNat_of_zero_le (show 0 ≤ n by omega)
    have h1' : ¬ (m : Int) < 1 := by omega
    have h2' : ¬ 64 < (m : Int) := by omega
    obtain ⟨M, hM, hMs, hmk⟩ := make_row 23 9 _ 1 16 Try.underlying23 infoStr m (by omega) (by omega)
    have HM := Lib.hid hM; have HMs := Lib.hid hMs; clear hM hMs
    go_enter Try.func17, Try.ntmps17
    go_wp2
    refine bodyPost_ret (v := .agg #[.slice (some ⟨w.heap.size + 1, 0, none⟩) m m, .slice none 0 0]) (by simp [results, Try.results17, go_sem]) rfl ⟨_, rfl, ⟨_, _, rfl, ?_, ?_⟩, ?_⟩
    · rw [HE.out]
      unfold Ow
      simp only [Int.toNat_natCast, List.length_replicate]
      exact row_lit (g := w.heap.size + 1) (cs := M) (heap_new2 _ _ _) _ _ 1 (by omega) (by unfold maxLen; omega) HMs.out (by rw [HM.out, made_texts])
    · rw [HE.out]; exact own_none _ _ _ _ _
    · exact ((Below.refl _ _).alloc (Nat.le_refl _) _).alloc (by simp) _
  · have HE := Lib.hid (newDk_no n h)
    by_cases h1 : n < 1
    all_goals
      try (have h2 : 64 < n := by omega)
      clear h
      go_enter Try.func17, Try.ntmps17
      go_wp2
      refine bodyPost_ret (v := .agg #[.slice none 0 0, .slice none 0 0]) (by simp [results, Try.results17, go_sem]) rfl ⟨_, rfl, ⟨_, _, rfl, ?_, ?_⟩, ?_⟩
      · rw [HE.out]; exact own_none _ _ _ _ _
      · rw [HE.out]; exact own_none _ _ _ _ _
      · exact (Below.refl _ _).alloc (Nat.le_refl _) _

end Go.Proofs.Ytdllbnlimnahaaa
