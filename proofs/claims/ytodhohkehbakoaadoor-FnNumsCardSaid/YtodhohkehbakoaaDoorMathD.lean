/-
  Plain mathematics of what GetNum tells. No program in sight.
-/
import Derived.Test.YtodhohkehbakoaaDoorMathB
namespace Go.Proofs.YtodhohkehbakoaaDoor

/-! What is told, as the program's own values. -/
/-- A NumOut. -/
def numOut (r : Int × Int × Int) : Value := .agg #[.int .i64 r.1, .int .i64 r.2.1, .int .i64 r.2.2]
/-- A TextOut. -/
def textOut3 (r : ByteArray × Int × Int) : Value := .agg #[.string r.1, .int .i64 r.2.1, .int .i64 r.2.2]

/-- What the groups come to: a number that fits, and the place behind it, or a code alone. -/
theorem grpAt_form (s : ByteArray) : ∀ (j k p u : Nat), 10 - k = j → k ≤ 10 → p ≤ s.size → u < 2 ^ (7 * k) →
    (∃ u' p', grpAt s k p u = (0, u', p') ∧ u' < 18446744073709551616 ∧ p' ≤ s.size) ∨ (∃ c, grpAt s k p u = (c, 0, 0) ∧ (c = 3 ∨ c = 4)) := by
  intro j
  induction j with
  | zero =>
    intro k p u hj hk _ _
    have : k = 10 := by omega
    subst this
    exact .inr ⟨3, rfl, .inl rfl⟩
  | succ j ih =>
    intro k p u hj hk hp hu
    have hk9 : k ≤ 9 := by omega
    by_cases h1 : s.size ≤ p
    · exact .inr ⟨4, grpAt_short hk9 h1, .inr rfl⟩
    · by_cases h9 : k = 9 ∧ 1 < byteAt s p
      · obtain ⟨rfl, h9⟩ := h9
        exact .inr ⟨3, grpAt_tenth (by omega) h9, .inl rfl⟩
      · by_cases hc : byteAt s p < 128
        · by_cases h0 : byteAt s p = 0 ∧ 0 < k
          · exact .inr ⟨3, grpAt_long hk9 (by omega) h0.1 h0.2, .inl rfl⟩
          · exact .inl ⟨_, _, grpAt_last hk9 (by omega) h9 hc h0, put_lt64 hk9 hu h9, by omega⟩
        · rw [grpAt_more hk9 (by omega) h9 hc]
          exact ih (k + 1) (p + 1) _ (by omega) (by omega) (by omega) (put_lt hu)

/-- What GetNum tells is a number with the place behind it, or a code alone. -/
theorem getNum_shape (s : ByteArray) (a : Int) : (∃ u p : Nat, u < 18446744073709551616 ∧ p ≤ s.size ∧ getNum s a = (unf u, (p : Int), 0) ∧ s.size ≤ 8000 ∧ 0 ≤ a ∧ a ≤ s.size ∧ grpAt s 0 a.toNat 0 = (0, u, p)) ∨
    (∃ c : Nat, 1 ≤ c ∧ c ≤ 4 ∧ getNum s a = (0, 0, (c : Int)) ∧ (s.size ≤ 8000 → 0 ≤ a → grpAt s 0 a.toNat 0 = (c, 0, 0))) := by
  by_cases h8 : 8000 < s.size
  · exact .inr ⟨2, by omega, by omega, getNum_size h8, fun h => absurd h (by omega)⟩
  · by_cases ha : a < 0
    · exact .inr ⟨1, by omega, by omega, getNum_form (by omega) ha, fun _ h => absurd h (by omega)⟩
    · by_cases hlt : (s.size : Int) ≤ a
      · have hg := grpAt_short (s := s) (k := 0) (p := a.toNat) (u := 0) (by omega) (by omega)
        exact .inr ⟨4, by omega, by omega, getNum_bad (by omega) (by omega) hg (by omega), fun _ _ => hg⟩
      · rcases grpAt_form s 10 0 a.toNat 0 rfl (by omega) (by omega) (by omega) with ⟨u, p, hg, hu, hp⟩ | ⟨c, hg, hc⟩
        · exact .inl ⟨u, p, hu, hp, getNum_ok (by omega) (by omega) hg, by omega, by omega, by omega, hg⟩
        · exact .inr ⟨c, by omega, by omega, getNum_bad (by omega) (by omega) hg (by omega), fun _ _ => hg⟩

/-- What GetText tells: the text, the place behind it, the code. -/
def getText (s : ByteArray) (a : Int) : ByteArray × Int × Int :=
  if (getNum s a).2.2 ≠ 0 then (⟨#[]⟩, 0, (getNum s a).2.2)
  else if (getNum s a).1 < 0 ∨ 8000 < (getNum s a).1 then (⟨#[]⟩, 0, 3)
  else if (s.size : Int) < (getNum s a).2.1 + (getNum s a).1 then (⟨#[]⟩, 0, 4)
  else (s.extract (getNum s a).2.1.toNat ((getNum s a).2.1 + (getNum s a).1).toNat, (getNum s a).2.1 + (getNum s a).1, 0)
theorem getText_code {s : ByteArray} {a c : Int} (h : getNum s a = (0, 0, c)) (hc : c ≠ 0) : getText s a = (⟨#[]⟩, 0, c) := by
  unfold getText; rw [h]; exact if_pos hc
theorem getText_syntax {s : ByteArray} {a n p : Int} (h : getNum s a = (n, p, 0)) (hn : n < 0 ∨ 8000 < n) : getText s a = (⟨#[]⟩, 0, 3) := by
  unfold getText; rw [h, if_neg (by simp), if_pos hn]
theorem getText_short {s : ByteArray} {a n p : Int} (h : getNum s a = (n, p, 0)) (hn : ¬ (n < 0 ∨ 8000 < n)) (hp : (s.size : Int) < p + n) : getText s a = (⟨#[]⟩, 0, 4) := by
  unfold getText; rw [h, if_neg (by simp), if_neg hn, if_pos hp]
theorem getText_ok {s : ByteArray} {a : Int} {n p : Nat} (h : getNum s a = ((n : Int), (p : Int), 0)) (hn : n ≤ 8000) (hp : p + n ≤ s.size) : getText s a = (s.extract p (p + n), ((p + n : Nat) : Int), 0) := by
  unfold getText; rw [h, if_neg (by simp), if_neg (by simp; omega), if_neg (by simp; omega)]
  have e : ((p : Int) + (n : Int)).toNat = p + n := by omega
  simp only [e, Int.toNat_natCast]
  rfl

end Go.Proofs.YtodhohkehbakoaaDoor
