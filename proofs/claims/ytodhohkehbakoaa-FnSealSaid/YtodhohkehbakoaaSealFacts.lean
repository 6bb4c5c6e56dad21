/-
  Plain facts on sealed texts: a seal is taken off again; with one byte turned it is refused.
-/
import Derived.Test.YtodhohkehbakoaaUnsealI
import Derived.Test.YtodhohkehbakoaaMathE
namespace Go.Proofs.Ytodhohkehbakoaa

theorem ba_ext {s t : ByteArray} (h : s.data.toList = t.data.toList) : s = t := ByteArray.ext (Array.toList_inj.1 h)
theorem ba_len (s : ByteArray) : s.data.toList.length = s.size := (Lib.size_eq s).symm
theorem bodyB_list (s : ByteArray) : (bodyB s).data.toList = s.data.toList.take (s.size - 4) := by
  unfold bodyB
  rw [Lib.extract_data]
  simp
theorem tailB_list (s : ByteArray) : (tailB s).data.toList = s.data.toList.drop (s.size - 4) := by
  unfold tailB
  rw [Lib.extract_data]
  exact List.take_of_length_le (by rw [List.length_drop, ba_len]; omega)
theorem four_length (c : Nat) : (four c).length = 4 := rfl
theorem sealB_list (t : ByteArray) : (sealB t).data.toList = t.data.toList ++ four (crcOn 0 t.data.toList) := by
  simp [sealB, catB, sumB, fourB]
theorem sealB_size (t : ByteArray) : (sealB t).size = t.size + 4 := by
  rw [← ba_len, sealB_list, List.length_append, ba_len, four_length]

theorem unseal_seal (t : ByteArray) : unsealV (sealB t) = textOut t 0 0 := by
  have hb : bodyB (sealB t) = t := ba_ext (by
    rw [bodyB_list, sealB_list, sealB_size, Nat.add_sub_cancel]
    exact List.take_left' (ba_len t))
  have ht : tailB (sealB t) = sumB t := ba_ext (by
    rw [tailB_list, sealB_list, sealB_size, Nat.add_sub_cancel]
    exact List.drop_left' (ba_len t))
  unfold unsealV
  rw [hb, ht, if_pos rfl]

theorem unseal_turned (t s : ByteArray) (p : Nat) (b : UInt8) (hp : p < t.size + 4) (hs : s.data.toList = (sealB t).data.toList.set p b) (hb : (sealB t).data.toList[p]? ≠ some b) : unsealV s = textOut ⟨#[]⟩ 0 5 := by
  unfold unsealV
  refine if_neg fun h => hb ?_
  have hsz : s.size = t.size + 4 := by rw [← ba_len, hs, List.length_set, ba_len, sealB_size]
  have h1 : four (crcOn 0 (bodyB s).data.toList) = (tailB s).data.toList := by
    rw [← h]; rfl
  rw [bodyB_list, tailB_list, hsz, Nat.add_sub_cancel, hs, sealB_list] at h1
  rw [sealB_list]
  have hl := ba_len t
  generalize t.data.toList = l at *
  rw [← hl] at h1 hp
  clear hs hsz h hl
  by_cases hpl : p < l.length
  · rw [List.set_append_left _ _ hpl, List.take_left' (by simp), List.drop_left' (by simp)] at h1
    have h2 := four_inj (crcOn_lt 0 _ (by omega)) (crcOn_lt 0 _ (by omega)) h1
    have e1 : l = l.take p ++ l[p] :: l.drop (p + 1) := by rw [List.getElem_cons_drop, List.take_append_drop]
    have e2 : l.set p b = l.take p ++ b :: l.drop (p + 1) := List.set_eq_take_append_cons_drop.trans (if_pos hpl)
    rw [e2] at h2
    conv at h2 => rhs; rw [e1]
    have := crcOn_turned 0 _ _ _ _ (by omega) h2
    rw [List.getElem?_append_left hpl, List.getElem?_eq_getElem hpl, this]
  · have hpl' : l.length ≤ p := by omega
    rw [List.set_append_right _ _ hpl', List.take_left' rfl, List.drop_left' rfl] at h1
    rw [List.getElem?_append_right hpl']
    have : (four (crcOn 0 l))[p - l.length]? = ((four (crcOn 0 l)).set (p - l.length) b)[p - l.length]? := by rw [← h1]
    rw [this, List.getElem?_set_self (by rw [four_length]; omega)]

end Go.Proofs.Ytodhohkehbakoaa
