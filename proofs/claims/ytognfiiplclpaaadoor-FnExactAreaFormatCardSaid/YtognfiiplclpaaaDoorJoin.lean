/-
  The contract of joined: one text of two.
-/
import Derived.Test.YtognfiiplclpaaaDoorClone
namespace Go.Proofs.YtognfiiplclpaaaDoor
open Go.ChangeShapes Go.WideShapes Go.ChangeAt Go.RowKit

/-- One text of two. -/
def catB (s t : ByteArray) : ByteArray := ⟨(s.data.toList ++ t.data.toList).toArray⟩

/-- A row whose cells are all of a text's bytes, turned into a string. -/
theorem conv_row (w : World) (Y : Array Value) (l : List UInt8) (hY : Y.toList = Lib.byteCells l) (g n c : Nat) (hn : l.length = n) (hg : w.heap[g]? = some (.cells Y 5 (0, 0))) :
    (convert 61 9 (.slice (some ⟨g, 0, none⟩) n c)).run Tryd.prog w = .ok (.string ⟨l.toArray⟩) w := by
  refine block_string (P := Tryd.prog) hg 61 5 9 Tryd.underlying61 Tryd.underlying5 Tryd.underlying9 l n c hn ?_
  rw [hY, List.take_of_length_le (by rw [Lib.byteCells_length]; omega)]
  rfl

set_option maxRecDepth 100000 in
theorem impl_joined (s t : ByteArray) (w : World) (hs : s.size ≤ 1048576) (ht : t.size ≤ 1048576) :
    Calls Tryd.prog 53 #[.string s, .string t] w fun e w' => e = .returned (.string (catB s t)) ∧ Below w.heap.size w w' := by
  have hinfo : (Tryd.prog.info? 5).map (·.size) = some 1 := by kernel_rfl
  have hsl : s.data.toList.length = s.size := (Lib.size_eq s).symm
  have htl : t.data.toList.length = t.size := (Lib.size_eq t).symm
  by_cases h0 : t.size = 0
  · obtain rfl := ba_empty t h0
    obtain ⟨M, hMs, hmk⟩ := make_bytes s.size (by omega) _ rfl
    have hcp := Lib.run_copy_row_string (P := Tryd.prog) (w.alloc (.cells M 5)) 61 9 3 5 w.heap.size 0 s.size s.size s M 5 Tryd.underlying61 hinfo (heap_alloc_new w _) (by omega) (by omega)
    obtain ⟨Y, hY⟩ : ∃ Y, Y = (M.toList.take 0 ++ Lib.byteCells s.data.toList ++ M.toList.drop (0 + s.size)).toArray := ⟨_, rfl⟩
    rw [← hY] at hcp
    have hgY : ((w.alloc (.cells M 5)).setRow w.heap.size Y).heap[w.heap.size]? = some (.cells Y 5 (0, 0)) := setRow_heap _ _ M _ 5 (0, 0) (heap_alloc_new w _)
    have hYl : Y.toList = Lib.byteCells s.data.toList := by
      rw [hY, List.toList_toArray, List.take_zero, List.nil_append, List.drop_of_length_le (by rw [Array.length_toList]; omega), List.append_nil]
    have hb1 : Below w.heap.size w (w.alloc (.cells M 5)) := (Below.refl _ w).alloc (Nat.le_refl _) _
    have hb2 : Below w.heap.size (w.alloc (.cells M 5)) ((w.alloc (.cells M 5)).setRow w.heap.size Y) := ⟨rfl, rfl, rfl, by simp, fun k hk => setRow_other _ _ _ _ (by omega)⟩
    have hcv := conv_row _ Y s.data.toList hYl w.heap.size s.size s.size hsl hgY
    have hc0 := fun W (d : Option Addr) => Lib.run_copy_empty_string (P := Tryd.prog) W 61 9 3 5 d 0 0 ⟨#[]⟩ Tryd.underlying61 (by rw [hinfo]; rfl) rfl
    have e : catB s ⟨#[]⟩ = ⟨s.data.toList.toArray⟩ := by simp [catB]
    have HE := Lib.hid e
    have HB1 := Lib.hid hb1; have HB2 := Lib.hid hb2
    clear hY hYl hgY hinfo hsl htl e hb1 hb2 h0 hMs
    go_enter Tryd.func53, Tryd.ntmps53
    go_wp2
    go_ret
    exact ⟨by rw [HE.out]; rfl, HB1.out.trans HB2.out⟩
  · obtain ⟨M, hMs, hmk⟩ := make_bytes (s.size + t.size) (by omega) ((s.size : Int) + (t.size : Int)) (by omega)
    have hcp := Lib.run_copy_row_string (P := Tryd.prog) (w.alloc (.cells M 5)) 61 9 3 5 w.heap.size 0 (s.size + t.size) (s.size + t.size) s M 5 Tryd.underlying61 hinfo (heap_alloc_new w _) (by omega) (by omega)
    obtain ⟨Y, hY⟩ : ∃ Y, Y = (M.toList.take 0 ++ Lib.byteCells s.data.toList ++ M.toList.drop (0 + s.size)).toArray := ⟨_, rfl⟩
    rw [← hY] at hcp
    have hgY : ((w.alloc (.cells M 5)).setRow w.heap.size Y).heap[w.heap.size]? = some (.cells Y 5 (0, 0)) := setRow_heap _ _ M _ 5 (0, 0) (heap_alloc_new w _)
    have hYs : Y.size = s.size + t.size := by
      rw [hY]
      simp [Lib.byteCells_length, hMs]
    have hYt : Y.toList.take s.size = Lib.byteCells s.data.toList := by
      rw [hY]
      simp only [List.take_zero, List.nil_append]
      rw [List.take_left' (by rw [Lib.byteCells_length, hsl])]
    have hb1 : Below w.heap.size w (w.alloc (.cells M 5)) := (Below.refl _ w).alloc (Nat.le_refl _) _
    have hb2 : Below w.heap.size (w.alloc (.cells M 5)) ((w.alloc (.cells M 5)).setRow w.heap.size Y) := ⟨rfl, rfl, rfl, by simp, fun k hk => setRow_other _ _ _ _ (by omega)⟩
    have hcp2 := Lib.run_copy_row_string (P := Tryd.prog) ((w.alloc (.cells M 5)).setRow w.heap.size Y) 61 9 3 5 w.heap.size s.size t.size t.size t Y 5 Tryd.underlying61 hinfo hgY (Nat.le_refl _) (by omega)
    obtain ⟨Z, hZ⟩ : ∃ Z, Z = (Y.toList.take s.size ++ Lib.byteCells t.data.toList ++ Y.toList.drop (s.size + t.size)).toArray := ⟨_, rfl⟩
    rw [← hZ] at hcp2
    have hgZ : (((w.alloc (.cells M 5)).setRow w.heap.size Y).setRow w.heap.size Z).heap[w.heap.size]? = some (.cells Z 5 (0, 0)) := setRow_heap _ _ Y _ 5 (0, 0) hgY
    have hZl : Z.toList = Lib.byteCells (s.data.toList ++ t.data.toList) := by
      rw [hZ, List.toList_toArray, hYt, List.drop_of_length_le (by rw [Array.length_toList]; omega), List.append_nil]
      simp [Lib.byteCells]
    have hcv := conv_row _ Z (s.data.toList ++ t.data.toList) hZl w.heap.size (s.size + t.size) (s.size + t.size) (by rw [List.length_append, hsl, htl]) hgZ
    have hb3 : Below w.heap.size ((w.alloc (.cells M 5)).setRow w.heap.size Y) (((w.alloc (.cells M 5)).setRow w.heap.size Y).setRow w.heap.size Z) := ⟨rfl, rfl, rfl, by simp, fun k hk => setRow_other _ _ _ _ (by omega)⟩
    have HB1 := Lib.hid hb1; have HB2 := Lib.hid hb2; have HB3 := Lib.hid hb3
    have hne : ¬ t = ByteArray.empty := fun e => h0 (by rw [e]; rfl)
    clear hY hYs hYt hgY hinfo hsl htl hb1 hb2 hb3 h0 hMs hZ hZl hgZ
    go_enter Tryd.func53, Tryd.ntmps53
    go_wp2
    go_ret
    exact ⟨rfl, (HB1.out.trans HB2.out).trans HB3.out⟩

end Go.Proofs.YtognfiiplclpaaaDoor
