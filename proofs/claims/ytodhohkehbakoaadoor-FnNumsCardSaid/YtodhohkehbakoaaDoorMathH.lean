/-
  Plain mathematics: a text is read back from its bytes; of bytes that end too early nothing is read.
-/
import Derived.Test.YtodhohkehbakoaaDoorMathG
import Derived.Test.YtodhohkehbakoaaDoorPutText
namespace Go.Proofs.YtodhohkehbakoaaDoor

theorem ba_len2 (s : ByteArray) : s.data.toList.length = s.size := (Lib.size_eq s).symm
theorem putTextB_list (u : ByteArray) : (putTextB u).data.toList = putNum u.size ++ u.data.toList := by simp [putTextB, catB, putNumB]
theorem putTextB_size (u : ByteArray) : (putTextB u).size = (putNum u.size).length + u.size := by
  rw [← ba_len2, putTextB_list, List.length_append, ba_len2]

theorem getText_back (s u : ByteArray) (p : Nat) (hs : s.size ≤ 8000) (hu : u.size ≤ 8000) (h : s.data.toList.drop p = putNum u.size ++ u.data.toList) :
    getText s p = (u, ((p + (putTextB u).size : Nat) : Int), 0) := by
  have hg := getNum_back s p u.size u.data.toList hs (by omega) (by omega) h
  have hl := congrArg List.length h
  rw [List.length_drop, ba_len2, List.length_append, ba_len2] at hl
  have h1 := (putNum_length u.size).1
  rw [getText_ok hg hu (by omega)]
  have e : s.extract (p + (putNum u.size).length) (p + (putNum u.size).length + u.size) = u := by
    apply ByteArray.ext
    apply Array.toList_inj.1
    rw [Lib.extract_data, ← List.drop_drop, h, List.drop_left' rfl]
    exact List.take_of_length_le (by rw [ba_len2]; omega)
  rw [e, putTextB_size]
  simp only [Prod.mk.injEq, true_and, and_true]
  omega

theorem getText_cut (s u : ByteArray) (hs : s.size ≤ 8000) (hu : u.size ≤ 8000) (h : s.data.toList = (putNum u.size ++ u.data.toList).dropLast) : (getText s 0) = (⟨#[]⟩, 0, 4) := by
  have h1 := putNum_length u.size
  by_cases h0 : u.size = 0
  · have hn : u.data.toList = [] := List.eq_nil_of_length_eq_zero (by rw [ba_len2]; exact h0)
    rw [hn, List.append_nil] at h
    exact getText_code (getNum_cut s 0 u.size hs (by simpa using h)) (by omega)
  · have hne : u.data.toList ≠ [] := fun e => h0 (by rw [← ba_len2, e]; rfl)
    rw [List.dropLast_append_of_ne_nil hne] at h
    have hg := getNum_back s 0 u.size u.data.toList.dropLast hs (by omega) (by omega) (by simpa using h)
    have hl := congrArg List.length h
    rw [ba_len2, List.length_append, List.length_dropLast, ba_len2] at hl
    exact getText_short hg (by omega) (by omega)

end Go.Proofs.YtodhohkehbakoaaDoor
