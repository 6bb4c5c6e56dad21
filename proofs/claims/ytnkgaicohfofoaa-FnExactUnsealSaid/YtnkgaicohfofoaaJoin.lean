/-
  Contracts of strings.Clone and of joined: one text of two.
-/
import Derived.Test.YtnkgaicohfofoaaProg
import Derived.Test.YtnkgaicohfofoaaLaws
import Derived.ProofKit
import Derived.Lib.Strings
import Derived.Lib.Walk
import Derived.Lib.BufferWrite
import Derived.Lib.UnsafeStr
import Derived.Laws.MakeOwn
namespace Go.Proofs.Ytnkgaicohfofoaa
open Go.ChangeShapes Go.WideShapes Go.ChangeAt Go.RowKit

theorem infoByte : (Try.prog.info? 5).map (fun i => (i.zero, i.size, i.bytes)) = some (some (.int .u8 0), 1, 1) := by kernel_rfl

theorem ba_empty (s : ByteArray) (h : s.size = 0) : s = ⟨#[]⟩ := by
  apply ByteArray.ext
  exact Array.eq_empty_of_size_eq_zero h

/-- 'make([]byte, n)': what it lays under a name. -/
theorem make_bytes (n : Nat) (h : n ≤ 281474976710656) (N : Int) (hN : N = n) : ∃ M : Array Value, M.size = n ∧ ∀ W : World, (Instr.makeSlice 35 (.int .i64 N) (.int .i64 N)).run Try.prog W = .ok (.slice (some ⟨W.heap.size, 0, none⟩) n n) (W.alloc (.cells M 5)) := by
  subst hN
  obtain ⟨i0, hi, hz0, hz1, hz2⟩ := info_parts infoByte
  refine ⟨madeCells (Value.int .u8 0).cells ((n : Int).toNat * i0.size), by rw [size_madeCells, hz1]; simp, fun W => ?_⟩
  have h := run_make (P := Try.prog) W 35 5 i0 (.int .u8 0) Try.underlying35 hi hz0 .i64 .i64 (n : Int) (n : Int) (by omega) (by omega) (by rw [hz2]; omega) (by omega)
  simpa using h

set_option maxRecDepth 100000 in
theorem lib_clone (s : ByteArray) (w : World) (hlim : s.size ≤ 281474976710656) :
    Calls Try.prog 35 #[.string s] w fun e w' => e = .returned (.string s) ∧ Below w.heap.size w w' := by
  by_cases h0 : s.size = 0
  · obtain rfl := ba_empty s h0
    go_enter Try.func35, Try.ntmps35
    go_wp2
    go_ret
    exact ⟨rfl, Below.refl _ _⟩
  · obtain ⟨M, hMs, hmk⟩ := make_bytes s.size hlim _ rfl
    have hinfo : (Try.prog.info? 5).map (·.size) = some 1 := by kernel_rfl
    have hco : Try.prog.cellsOf 5 = 1 := by kernel_rfl
    have hcp := Lib.run_copy_row_string (P := Try.prog) (w.alloc (.cells M 5)) 35 9 3 5 w.heap.size 0 s.size s.size s M 5 Try.underlying35 hinfo (heap_alloc_new w _) (Nat.le_refl _) (by omega)
    obtain ⟨Y, hY⟩ : ∃ Y, Y = (M.toList.take 0 ++ Lib.byteCells s.data.toList ++ M.toList.drop (0 + s.size)).toArray := ⟨_, rfl⟩
    rw [← hY] at hcp
    have hYl : Y.toList = Lib.byteCells s.data.toList := by
      rw [hY, List.toList_toArray, List.take_zero, List.nil_append, List.drop_of_length_le (by rw [Array.length_toList]; omega), List.append_nil]
    have hYs : Y.size = s.size := by rw [← Array.length_toList, hYl, Lib.byteCells_length, ← Lib.size_eq]
    have hgY : ((w.alloc (.cells M 5)).setRow w.heap.size Y).heap[w.heap.size]? = some (.cells Y 5 (0, 0)) := setRow_heap _ _ M _ 5 (0, 0) (heap_alloc_new w _)
    have hne : s.data.toList ≠ [] := fun e => h0 (by rw [Lib.size_eq, e]; rfl)
    have hUS := Lib.run_unsafeString_row (P := Try.prog) ((w.alloc (.cells M 5)).setRow w.heap.size Y) 43 3 9 5 Try.underlying43 hco w.heap.size Y.size (by unfold World.shape?; rw [hgY]) s.data.toList hne (by rw [← Lib.size_eq]; omega) (by rw [← Lib.size_eq]; omega)
      (fun j x hx => Lib.cells_of_row hgY Y.size j _ (by rw [List.take_of_length_le (by rw [Array.length_toList]; exact Nat.le_refl _), hYl]; simp [Lib.byteCells, hx]))
    rw [← Lib.size_eq] at hUS
    have HY := Lib.hid hYl; have HG := Lib.hid hgY
    clear hY hYl hgY hinfo hco
    go_enter Try.func35, Try.ntmps35
    go_wp2
    go_ret
    have hb1 : Below w.heap.size w (w.alloc (.cells M 5)) := (Below.refl _ w).alloc (Nat.le_refl _) _
    have hb2 : Below w.heap.size (w.alloc (.cells M 5)) ((w.alloc (.cells M 5)).setRow w.heap.size Y) := ⟨rfl, rfl, rfl, by simp, fun k hk => setRow_other _ _ _ _ (by omega)⟩
    exact ⟨rfl, Lib.below_freeze (hb1.trans hb2) (p := ⟨w.heap.size, 0, none⟩) (Nat.le_refl _) _⟩

theorem strings_clone (s : ByteArray) (w : World) (hlim : s.size ≤ 281474976710656) :
    Calls Try.prog 34 #[.string s] w fun e w' => e = .returned (.string s) ∧ Below w.heap.size w w' := by
  go_enter Try.func34, Try.ntmps34
  go_wp2_with (go_at_call 35; refine (lib_clone _ _ hlim).mono ?_; rintro e w' ⟨rfl, hb⟩)
  go_ret
  exact ⟨rfl, ‹_›⟩

/-- One text of two. -/
def catB (s t : ByteArray) : ByteArray := ⟨(s.data.toList ++ t.data.toList).toArray⟩

/-- A row whose cells are all of a text's bytes, turned into a string. -/
theorem conv_row (w : World) (Y : Array Value) (l : List UInt8) (hY : Y.toList = Lib.byteCells l) (g n c : Nat) (hn : l.length = n) (hg : w.heap[g]? = some (.cells Y 5 (0, 0))) :
    (convert 35 9 (.slice (some ⟨g, 0, none⟩) n c)).run Try.prog w = .ok (.string ⟨l.toArray⟩) w := by
  refine block_string (P := Try.prog) hg 35 5 9 Try.underlying35 Try.underlying5 Try.underlying9 l n c hn ?_
  rw [hY, List.take_of_length_le (by rw [Lib.byteCells_length]; omega)]
  rfl

set_option maxRecDepth 100000 in
theorem impl_joined (s t : ByteArray) (w : World) (hs : s.size ≤ 1048576) (ht : t.size ≤ 1048576) :
    Calls Try.prog 27 #[.string s, .string t] w fun e w' => e = .returned (.string (catB s t)) ∧ Below w.heap.size w w' := by
  have hinfo : (Try.prog.info? 5).map (·.size) = some 1 := by kernel_rfl
  have hsl : s.data.toList.length = s.size := (Lib.size_eq s).symm
  have htl : t.data.toList.length = t.size := (Lib.size_eq t).symm
  by_cases h0 : t.size = 0
  · obtain rfl := ba_empty t h0
    obtain ⟨M, hMs, hmk⟩ := make_bytes s.size (by omega) _ rfl
    have hcp := Lib.run_copy_row_string (P := Try.prog) (w.alloc (.cells M 5)) 35 9 3 5 w.heap.size 0 s.size s.size s M 5 Try.underlying35 hinfo (heap_alloc_new w _) (by omega) (by omega)
    obtain ⟨Y, hY⟩ : ∃ Y, Y = (M.toList.take 0 ++ Lib.byteCells s.data.toList ++ M.toList.drop (0 + s.size)).toArray := ⟨_, rfl⟩
    rw [← hY] at hcp
    have hgY : ((w.alloc (.cells M 5)).setRow w.heap.size Y).heap[w.heap.size]? = some (.cells Y 5 (0, 0)) := setRow_heap _ _ M _ 5 (0, 0) (heap_alloc_new w _)
    have hYl : Y.toList = Lib.byteCells s.data.toList := by
      rw [hY, List.toList_toArray, List.take_zero, List.nil_append, List.drop_of_length_le (by rw [Array.length_toList]; omega), List.append_nil]
    have hb1 : Below w.heap.size w (w.alloc (.cells M 5)) := (Below.refl _ w).alloc (Nat.le_refl _) _
    have hb2 : Below w.heap.size (w.alloc (.cells M 5)) ((w.alloc (.cells M 5)).setRow w.heap.size Y) := ⟨rfl, rfl, rfl, by simp, fun k hk => setRow_other _ _ _ _ (by omega)⟩
    have hcv := conv_row _ Y s.data.toList hYl w.heap.size s.size s.size hsl hgY
    have hc0 := fun W (d : Option Addr) => Lib.run_copy_empty_string (P := Try.prog) W 35 9 3 5 d 0 0 ⟨#[]⟩ Try.underlying35 (by rw [hinfo]; rfl) rfl
    have e : catB s ⟨#[]⟩ = ⟨s.data.toList.toArray⟩ := by simp [catB]
    have HE := Lib.hid e
    have HB1 := Lib.hid hb1; have HB2 := Lib.hid hb2
    clear hY hYl hgY hinfo hsl htl e hb1 hb2 h0 hMs
    go_enter Try.func27, Try.ntmps27
    go_wp2
    go_ret
    exact ⟨by rw [HE.out]; rfl, HB1.out.trans HB2.out⟩
  · obtain ⟨M, hMs, hmk⟩ := make_bytes (s.size + t.size) (by omega) ((s.size : Int) + (t.size : Int)) (by omega)
    have hcp := Lib.run_copy_row_string (P := Try.prog) (w.alloc (.cells M 5)) 35 9 3 5 w.heap.size 0 (s.size + t.size) (s.size + t.size) s M 5 Try.underlying35 hinfo (heap_alloc_new w _) (by omega) (by omega)
    obtain ⟨Y, hY⟩ : ∃ Y, Y = (M.toList.take 0 ++ Lib.byteCells s.data.toList ++ M.toList.drop (0 + s.size)).toArray := ⟨_, rfl⟩
    rw [← hY] at hcp
    have hgY : ((w.alloc (.cells M 5)).setRow w.heap.size Y).heap[w.heap.size]? = some (.cells Y 5 (0, 0)) := setRow_heap _ _ M _ 5 (0, 0) (heap_alloc_new w _)
    have hYs : Y.size = s.size + t.size := by
      rw [hY]
      simp [Lib.byteCells_length, hMs]
    have hYt : Y.toList.take s.size = Lib.byteCells s.data.toList := by
      rw [hY]
      simp only [List.take_zero, List.nil_append]
      rw [List.take_left' (by rw [Lib.byteCells_length, hsl])]
    have hb1 : Below w.heap.size w (w.alloc (.cells M 5)) := (Below.refl _ w).alloc (Nat.le_refl _) _
    have hb2 : Below w.heap.size (w.alloc (.cells M 5)) ((w.alloc (.cells M 5)).setRow w.heap.size Y) := ⟨rfl, rfl, rfl, by simp, fun k hk => setRow_other _ _ _ _ (by omega)⟩
    have hcp2 := Lib.run_copy_row_string (P := Try.prog) ((w.alloc (.cells M 5)).setRow w.heap.size Y) 35 9 3 5 w.heap.size s.size t.size t.size t Y 5 Try.underlying35 hinfo hgY (Nat.le_refl _) (by omega)
    obtain ⟨Z, hZ⟩ : ∃ Z, Z = (Y.toList.take s.size ++ Lib.byteCells t.data.toList ++ Y.toList.drop (s.size + t.size)).toArray := ⟨_, rfl⟩
    rw [← hZ] at hcp2
    have hgZ : (((w.alloc (.cells M 5)).setRow w.heap.size Y).setRow w.heap.size Z).heap[w.heap.size]? = some (.cells Z 5 (0, 0)) := setRow_heap _ _ Y _ 5 (0, 0) hgY
    have hZl : Z.toList = Lib.byteCells (s.data.toList ++ t.data.toList) := by
      rw [hZ, List.toList_toArray, hYt, List.drop_of_length_le (by rw [Array.length_toList]; omega), List.append_nil]
      simp [Lib.byteCells]
    have hcv := conv_row _ Z (s.data.toList ++ t.data.toList) hZl w.heap.size (s.size + t.size) (s.size + t.size) (by rw [List.length_append, hsl, htl]) hgZ
    have hb3 : Below w.heap.size ((w.alloc (.cells M 5)).setRow w.heap.size Y) (((w.alloc (.cells M 5)).setRow w.heap.size Y).setRow w.heap.size Z) := ⟨rfl, rfl, rfl, by simp, fun k hk => setRow_other _ _ _ _ (by omega)⟩
    have HB1 := Lib.hid hb1; have HB2 := Lib.hid hb2; have HB3 := Lib.hid hb3
    have hne : ¬ t = ByteArray.empty := fun e => h0 (by rw [e]; rfl)
    clear hY hYs hYt hgY hinfo hsl htl hb1 hb2 hb3 h0 hMs hZ hZl hgZ
    go_enter Try.func27, Try.ntmps27
    go_wp2
    go_ret
    exact ⟨rfl, (HB1.out.trans HB2.out).trans HB3.out⟩

end Go.Proofs.Ytnkgaicohfofoaa
