/-
  Contracts of l01Four, sumOf and both Seal.
-/
import Derived.Test.YtognfiiplclpaaaDoorCrc
import Derived.Test.YtognfiiplclpaaaDoorJoin
namespace Go.Proofs.YtognfiiplclpaaaDoor
open Go.ChangeShapes Go.WideShapes Go.ChangeAt Go.RowKit

def fourB (c : Nat) : ByteArray := ⟨(four c).toArray⟩
def sumB (s : ByteArray) : ByteArray := fourB (crcOn 0 s.data.toList)
def sealB (s : ByteArray) : ByteArray := catB s (sumB s)

theorem four_cells (c : Nat) (h : c < 4294967296) : (#[.int .u8 ((c : Int) % 256), .int .u8 ((c : Int) / 256 % 256), .int .u8 ((c : Int) / 65536 % 256), .int .u8 ((c : Int) / 16777216)] : Array Value).toList.take 4 = bvals (four c) := by
  have h4 : (c : Int) / 16777216 = ((c / 16777216 % 256 : Nat) : Int) := by omega
  rw [h4]
  unfold four bvals
  simp only [List.map_cons, List.map_nil]
  rw [bval_ofNat _ (by omega), bval_ofNat _ (by omega), bval_ofNat _ (by omega), bval_ofNat _ (by omega)]
  rfl

theorem four_cells' (c : Nat) : (#[.int .u8 ((c : Int) % 256), .int .u8 ((c : Int) / 256 % 256), .int .u8 ((c : Int) / 65536 % 256), .int .u8 ((c : Int) / 16777216 % 256)] : Array Value).toList.take 4 = bvals (four c) := by
  unfold four bvals
  simp only [List.map_cons, List.map_nil]
  rw [bval_ofNat _ (by omega), bval_ofNat _ (by omega), bval_ofNat _ (by omega), bval_ofNat _ (by omega)]
  rfl

theorem spec_four (c : Nat) (w : World) (h : c < 4294967296) :
    Calls Tryd.prog 73 #[.int .i64 (c : Int)] w fun e w' => e = .returned (.string (fourB c)) ∧ Below w.heap.size w w' := by
  go_enter Tryd.func73, Tryd.ntmps73
  have hcv := block_string (P := Tryd.prog) (heap_alloc_new w (.cells #[.int .u8 ((c : Int) % 256), .int .u8 ((c : Int) / 256 % 256), .int .u8 ((c : Int) / 65536 % 256), .int .u8 ((c : Int) / 16777216)] 5)) 61 5 9 Tryd.underlying61 Tryd.underlying5 Tryd.underlying9 (four c) 4 4 rfl (four_cells c h)
  go_wp2
  go_ret
  exact ⟨rfl, (Below.refl _ _).alloc (Nat.le_refl _) _⟩

theorem impl_sumof (s : ByteArray) (w : World) (hs : s.size ≤ 8000) :
    Calls Tryd.prog 79 #[.string s] w fun e w' => e = .returned (.string (sumB s)) ∧ Below w.heap.size w w' := by
  have hcv := block_string (P := Tryd.prog) (heap_alloc_new w (.cells #[.int .u8 ((crcOn 0 s.data.toList : Nat) % 256 : Int), .int .u8 ((crcOn 0 s.data.toList : Nat) / 256 % 256 : Int), .int .u8 ((crcOn 0 s.data.toList : Nat) / 65536 % 256 : Int), .int .u8 ((crcOn 0 s.data.toList : Nat) / 16777216 % 256 : Int)] 135)) 61 5 9 Tryd.underlying61 Tryd.underlying5 Tryd.underlying9 (four (crcOn 0 s.data.toList)) 4 4 rfl (four_cells' _)
  go_enter Tryd.func79, Tryd.ntmps79
  go_wp2_with (go_at_call 89; refine (impl_crc _ _ hs).mono ?_; rintro e w' ⟨rfl, rfl⟩)
  refine wp_loop_rounds 5 ?_
  rw [rounds_succ]
  go_wp2
  rw [rounds_succ]
  go_wp2
  rw [rounds_succ]
  go_wp2
  rw [rounds_succ]
  go_wp2
  rw [rounds_succ]
  go_wp2
  go_ret
  exact ⟨rfl, (Below.refl _ _).alloc (Nat.le_refl _) _⟩

theorem fourB_size (c : Nat) : (fourB c).size = 4 := rfl
theorem sumB_size (s : ByteArray) : (sumB s).size = 4 := rfl
theorem append_cat (s t : ByteArray) : s ++ t = catB s t := by
  apply ByteArray.ext
  apply Array.toList_inj.1
  simp [catB]

theorem spec_seal (s : ByteArray) (w : World) (hs : s.size ≤ 7996) :
    Calls Tryd.prog 45 #[.string s] w fun e w' => e = .returned (.string (sealB s)) ∧ Below w.heap.size w w' := by
  have hs' : ¬ (7996 < (s.size : Int)) := by omega
  have H := Lib.hid (append_cat s (sumB s))
  have hc := crcOn_lt 0 s.data.toList (by omega)
  have hz : (sumB s).size ≤ 4 := Nat.le_refl _
  go_enter Tryd.func45, Tryd.ntmps45
  go_wp2_with fail
  refine (spec_crc 0 s _ (by omega) (by unfold maxLen; omega)).mono ?_
  rintro e w1 ⟨rfl, rfl⟩
  go_wp2_with fail
  refine (spec_four _ _ hc).mono ?_
  rintro e w1 ⟨rfl, hb⟩
  rw [show fourB (crcOn 0 s.data.toList) = sumB s from rfl]
  go_wp2
  go_ret
  exact ⟨by unfold sealB; rw [← H.out]; rfl, hb⟩
theorem spec_seal_no (s : ByteArray) (w : World) (hm : s.size ≤ maxLen) (hs : 7996 < s.size) :
    Calls Tryd.prog 45 #[.string s] w fun e w' => e = .returned (.string ⟨#[]⟩) ∧ w = w' := by
  unfold maxLen at hm
  have hs' : (7996 < (s.size : Int)) := by omega
  go_enter Tryd.func45, Tryd.ntmps45
  go_wp2
  go_ret
  exact ⟨rfl, rfl⟩
theorem impl_seal (s : ByteArray) (w : World) (hs : s.size ≤ 7996) :
    Calls Tryd.prog 52 #[.string s] w fun e w' => e = .returned (.string (sealB s)) ∧ Below w.heap.size w w' := by
  have hs' : ¬ (7996 < (s.size : Int)) := by omega
  go_enter Tryd.func52, Tryd.ntmps52
  go_wp2_with fail
  refine (impl_sumof s _ (by omega)).mono ?_
  rintro e w1 ⟨rfl, hb⟩
  go_wp2_with fail
  refine (impl_joined s (sumB s) _ (by omega) (by rw [sumB_size]; omega)).mono ?_
  rintro e w2 ⟨rfl, hb2⟩
  go_wp2
  go_ret
  exact ⟨rfl, hb.trans (hb2.mono hb.size)⟩
theorem impl_seal_no (s : ByteArray) (w : World) (hm : s.size ≤ maxLen) (hs : 7996 < s.size) :
    Calls Tryd.prog 52 #[.string s] w fun e w' => e = .returned (.string ⟨#[]⟩) ∧ w = w' := by
  unfold maxLen at hm
  have hs' : (7996 < (s.size : Int)) := by omega
  go_enter Tryd.func52, Tryd.ntmps52
  go_wp2
  go_ret
  exact ⟨rfl, rfl⟩

end Go.Proofs.YtognfiiplclpaaaDoor
