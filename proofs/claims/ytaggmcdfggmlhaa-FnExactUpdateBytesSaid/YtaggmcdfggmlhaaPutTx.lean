/-
  Contracts of both PutText.
-/
import Derived.Test.YtaggmcdfggmlhaaByt
namespace Go.Proofs.Ytaggmcdfggmlhaa
open Go.ChangeShapes Go.WideShapes Go.ChangeAt Go.RowKit

def putNumB (n : Int) : ByteArray := ⟨(putNum n).toArray⟩
theorem putNumB_size (n : Int) : (putNumB n).size = (putNum n).length := rfl
theorem catB_size (s t : ByteArray) : (catB s t).size = s.size + t.size := by
  show (s.data.toList ++ t.data.toList).toArray.size = _
  rw [List.size_toArray, List.length_append, ← Lib.size_eq, ← Lib.size_eq]
theorem append_catB (s t : ByteArray) : s ++ t = catB s t := by
  apply ByteArray.ext
  apply Array.toList_inj.1
  simp [catB]

/-- PutText of a text that fits. -/
def putTextB (s : ByteArray) : ByteArray := catB (putNumB s.size) s

theorem spec_puttext (s : ByteArray) (w : World) (hs : s.size ≤ 8000) :
    Calls Try.prog 163 #[.string s] w fun e w' => e = .returned (.string (putTextB s)) ∧ Below w.heap.size w w' := by
  have hs' : ¬ (8000 < (s.size : Int)) := by omega
  have H := Lib.hid (append_catB (putNumB s.size) s)
  have hl := (putNum_length s.size).2
  go_enter Try.func163, Try.ntmps163
  go_wp2_with fail
  refine (spec_putnum _ _ (by omega) (by omega)).mono ?_
  rintro e w1 ⟨rfl, hb⟩
  go_wp2
  go_ret
  exact ⟨by unfold putTextB; rw [← H.out]; rfl, hb⟩

theorem impl_puttext (s : ByteArray) (w : World) (hs : s.size ≤ 8000) :
    Calls Try.prog 168 #[.string s] w fun e w' => e = .returned (.string (putTextB s)) ∧ Below w.heap.size w w' := by
  have hs' : ¬ (8000 < (s.size : Int)) := by omega
  have hl := putNum_length s.size
  go_enter Try.func168, Try.ntmps168
  go_wp2_with fail
  refine (impl_putnum _ _ (by omega) (by omega)).mono ?_
  rintro e w1 ⟨rfl, hb⟩
  go_wp2_with fail
  refine (impl_joined ⟨(putNum s.size).toArray⟩ s _ (by rw [show ByteArray.size ⟨(putNum s.size).toArray⟩ = (putNum s.size).length from rfl]; omega) (by omega)).mono ?_
  rintro e w2 ⟨rfl, hb2⟩
  go_wp2
  go_ret
  exact ⟨rfl, hb.trans (hb2.mono hb.size)⟩

theorem spec_puttext_no (s : ByteArray) (w : World) (hm : s.size ≤ maxLen) (hs : 8000 < s.size) :
    Calls Try.prog 163 #[.string s] w fun e w' => e = .returned (.string ⟨#[]⟩) ∧ w = w' := by
  unfold maxLen at hm
  have hs' : (8000 < (s.size : Int)) := by omega
  go_enter Try.func163, Try.ntmps163
  go_wp2
  go_ret
  exact ⟨rfl, rfl⟩
theorem impl_puttext_no (s : ByteArray) (w : World) (hm : s.size ≤ maxLen) (hs : 8000 < s.size) :
    Calls Try.prog 168 #[.string s] w fun e w' => e = .returned (.string ⟨#[]⟩) ∧ w = w' := by
  unfold maxLen at hm
  have hs' : (8000 < (s.size : Int)) := by omega
  go_enter Try.func168, Try.ntmps168
  go_wp2
  go_ret
  exact ⟨rfl, rfl⟩

end Go.Proofs.Ytaggmcdfggmlhaa
