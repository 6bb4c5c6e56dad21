/-
  Facts on seals.
-/
import Derived.Test.YthchlfllcnlmjaaGreatDoorBase1
import Derived.Test.YthchlfllcnlmjaaGreatDoorUnsealI
/-! Plain mathematics of the CRC: a text in which one byte is turned has another CRC. No program in sight. -/
namespace Go.Proofs.YthchlfllcnlmjaaGreatDoor

/-- One bit back. -/
def crcBack (y : Nat) : Nat := if 2147483648 ≤ y then 2 * (y ^^^ 3988292384) + 1 else 2 * y

theorem poly_high (x : Nat) (h : x < 2147483648) : 2147483648 ≤ x ^^^ 3988292384 := by
  have h1 : (x ^^^ 3988292384).testBit 31 = true := by
    rw [Nat.testBit_xor, Nat.testBit_lt_two_pow (show x < 2 ^ 31 from h)]
    decide
  exact Nat.ge_two_pow_of_testBit h1

theorem crcBack_step (r : Nat) (h : r < 4294967296) : crcBack (crcStep r) = r := by
  by_cases ho : r % 2 = 1
  · rw [crcStep_odd r ho]
    unfold crcBack
    rw [if_pos (poly_high _ (by omega)), Nat.xor_assoc, Nat.xor_self, Nat.xor_zero]
    omega
  · rw [crcStep_even r ho]
    unfold crcBack
    rw [if_neg (by omega)]
    omega

theorem crcStep_inj {r q : Nat} (hr : r < 4294967296) (hq : q < 4294967296) (h : crcStep r = crcStep q) : r = q := by
  rw [← crcBack_step r hr, ← crcBack_step q hq, h]
theorem crcSteps_inj (k : Nat) {r q : Nat} (hr : r < 4294967296) (hq : q < 4294967296) (h : crcSteps k r = crcSteps k q) : r = q := by
  induction k with
  | zero => exact h
  | succ k ih => exact ih (crcStep_inj (crcSteps_lt k r hr) (crcSteps_lt k q hq) h)
theorem xor_left_inj {a b c : Nat} (h : a ^^^ b = a ^^^ c) : b = c := by
  have := congrArg (a ^^^ ·) h
  simpa [← Nat.xor_assoc] using this
theorem xor_right_inj {a b c : Nat} (h : b ^^^ a = c ^^^ a) : b = c := by
  rw [Nat.xor_comm b, Nat.xor_comm c] at h
  exact xor_left_inj h
theorem crcByte_inj_byte {r : Nat} {b c : UInt8} (hr : r < 4294967296) (h : crcByte r b = crcByte r c) : b = c := by
  have hb := b.toNat_lt
  have hc := c.toNat_lt
  have := crcSteps_inj 8 (Nat.xor_lt_two_pow (n := 32) hr (by omega)) (Nat.xor_lt_two_pow (n := 32) hr (by omega)) h
  exact UInt8.toNat_inj.1 (xor_left_inj this)
theorem crcByte_inj {r q : Nat} {b : UInt8} (hr : r < 4294967296) (hq : q < 4294967296) (h : crcByte r b = crcByte q b) : r = q := by
  have hb := b.toNat_lt
  have := crcSteps_inj 8 (Nat.xor_lt_two_pow (n := 32) hr (by omega)) (Nat.xor_lt_two_pow (n := 32) hq (by omega)) h
  exact xor_right_inj this
theorem crcFold_inj (l : List UInt8) : ∀ {r q : Nat}, r < 4294967296 → q < 4294967296 → crcFold r l = crcFold q l → r = q := by
  induction l with
  | nil => exact fun _ _ h => h
  | cons b l ih => exact fun hr hq h => crcByte_inj hr hq (ih (crcByte_lt _ b hr) (crcByte_lt _ b hq) h)
theorem turn_inj {r q : Nat} (h : turn r = turn q) : r = q := by rw [← turn_turn r, ← turn_turn q, h]

/-- One byte turned: another CRC. -/
theorem crcOn_turned (c : Nat) (l1 l2 : List UInt8) (a b : UInt8) (hc : c < 4294967296) (h : crcOn c (l1 ++ a :: l2) = crcOn c (l1 ++ b :: l2)) : a = b := by
  have h1 := turn_inj h
  have ht := turn_lt c hc
  have e : ∀ x : UInt8, crcFold (turn c) (l1 ++ x :: l2) = crcFold (crcByte (crcFold (turn c) l1) x) l2 := fun x => by simp [crcFold]
  rw [e, e] at h1
  have hf := crcFold_lt l1 _ ht
  exact crcByte_inj_byte hf (crcFold_inj l2 (crcByte_lt _ a hf) (crcByte_lt _ b hf) h1)

theorem ofNat_inj8 {a b : Nat} (ha : a < 256) (hb : b < 256) (h : UInt8.ofNat a = UInt8.ofNat b) : a = b := by
  have := congrArg UInt8.toNat h
  rwa [UInt8.toNat_ofNat_of_lt' (by simpa using ha), UInt8.toNat_ofNat_of_lt' (by simpa using hb)] at this
theorem four_inj {c d : Nat} (hc : c < 4294967296) (hd : d < 4294967296) (h : four c = four d) : c = d := by
  unfold four at h
  simp only [List.cons.injEq, and_true] at h
  obtain ⟨h1, h2, h3, h4⟩ := h
  have h1 := ofNat_inj8 (by omega) (by omega) h1
  have h2 := ofNat_inj8 (by omega) (by omega) h2
  have h3 := ofNat_inj8 (by omega) (by omega) h3
  have h4 := ofNat_inj8 (by omega) (by omega) h4
  omega

end Go.Proofs.YthchlfllcnlmjaaGreatDoor

/-! Plain facts on sealed texts: a seal is taken off again; with one byte turned it is refused. -/
namespace Go.Proofs.YthchlfllcnlmjaaGreatDoor

theorem ba_ext {s t : ByteArray} (h : s.data.toList = t.data.toList) : s = t := ByteArray.ext (Array.toList_inj.1 h)
theorem ba_len (s : ByteArray) : s.data.toList.length = s.size := (Lib.size_eq s).symm
theorem bodyB_list (s : ByteArray) : (bodyB s).data.toList = s.data.toList.take (s.size - 4) := by
  unfold bodyB
  rw [Lib.extract_data]
  simp
theorem tailB_list (s : ByteArray) : (tailB s).data.toList = s.data.toList.drop (s.size - 4) := by
  unfold tailB
  rw [Lib.extract_data]
  exact List.take_of_length_le (by rw [List.length_drop, ba_len]; omega)
theorem four_length (c : Nat) : (four c).length = 4 := rfl
theorem sealB_list (t : ByteArray) : (sealB t).data.toList = t.data.toList ++ four (crcOn 0 t.data.toList) := by
  simp [sealB, catB, sumB, fourB]
theorem sealB_size (t : ByteArray) : (sealB t).size = t.size + 4 := by
  rw [← ba_len, sealB_list, List.length_append, ba_len, four_length]

theorem unseal_seal (t : ByteArray) : unsealV (sealB t) = textOut t 0 0 := by
  have hb : bodyB (sealB t) = t := ba_ext (by
    rw [bodyB_list, sealB_list, sealB_size, Nat.add_sub_cancel]
    exact List.take_left' (ba_len t))
  have ht : tailB (sealB t) = sumB t := ba_ext (by
    rw [tailB_list, sealB_list, sealB_size, Nat.add_sub_cancel]
    exact List.drop_left' (ba_len t))
  unfold unsealV
  rw [hb, ht, if_pos rfl]

theorem unseal_turned (t s : ByteArray) (p : Nat) (b : UInt8) (hp : p < t.size + 4) (hs : s.data.toList = (sealB t).data.toList.set p b) (hb : (sealB t).data.toList[p]? ≠ some b) : unsealV s = textOut ⟨#[]⟩ 0 5 := by
  unfold unsealV
  refine if_neg fun h => hb ?_
  have hsz : s.size = t.size + 4 := by rw [← ba_len, hs, List.length_set, ba_len, sealB_size]
  have h1 : four (crcOn 0 (bodyB s).data.toList) = (tailB s).data.toList := by
    rw [← h]; rfl
  rw [bodyB_list, tailB_list, hsz, Nat.add_sub_cancel, hs, sealB_list] at h1
  rw [sealB_list]
  have hl := ba_len t
  generalize t.data.toList = l at *
  rw [← hl] at h1 hp
  clear hs hsz h hl
  by_cases hpl : p < l.length
  · rw [List.set_append_left _ _ hpl, List.take_left' (by simp), List.drop_left' (by simp)] at h1
    have h2 := four_inj (crcOn_lt 0 _ (by omega)) (crcOn_lt 0 _ (by omega)) h1
    have e1 : l = l.take p ++ l[p] :: l.drop (p + 1) := by rw [List.getElem_cons_drop, List.take_append_drop]
    have e2 : l.set p b = l.take p ++ b :: l.drop (p + 1) := List.set_eq_take_append_cons_drop.trans (if_pos hpl)
    rw [e2] at h2
    conv at h2 => rhs; rw [e1]
    have := crcOn_turned 0 _ _ _ _ (by omega) h2
    rw [List.getElem?_append_left hpl, List.getElem?_eq_getElem hpl, this]
  · have hpl' : l.length ≤ p := by omega
    rw [List.set_append_right _ _ hpl', List.take_left' rfl, List.drop_left' rfl] at h1
    rw [List.getElem?_append_right hpl']
    have : (four (crcOn 0 l))[p - l.length]? = ((four (crcOn 0 l)).set (p - l.length) b)[p - l.length]? := by rw [← h1]
    rw [this, List.getElem?_set_self (by rw [four_length]; omega)]

end Go.Proofs.YthchlfllcnlmjaaGreatDoor
