/-
  Plain mathematics: a number is read back from its bytes, wherever they stand; of bytes that end too early nothing is read. No program in sight.
-/
import Derived.Test.YtodhohkehbakoaaDoorMathD
namespace Go.Proofs.YtodhohkehbakoaaDoor

theorem byteAt_drop {s : ByteArray} {p : Nat} {b : UInt8} {r : List UInt8} (h : s.data.toList.drop p = b :: r) : p < s.size ∧ byteAt s p = b.toNat ∧ s.data.toList.drop (p + 1) = r := by
  have hp : p < s.data.toList.length := by
    rcases Nat.lt_or_ge p s.data.toList.length with h' | h'
    · exact h'
    · rw [List.drop_of_length_le h'] at h; cases h
  have hps : p < s.size := by have := Lib.size_eq s; omega
  have e := (List.getElem_cons_drop hp).trans h
  injection e with e1 e2
  refine ⟨hps, ?_, e2⟩
  unfold byteAt
  rw [List.getD_eq_getElem?_getD, List.getElem?_eq_getElem hp, Option.getD_some, e1]
theorem drop_nil {s : ByteArray} {p : Nat} (h : s.data.toList.drop p = []) : s.size ≤ p := by
  have := List.drop_eq_nil_iff.1 h
  have := Lib.size_eq s
  omega
theorem toNat_ofNat8 (k : Nat) (h : k < 256) : (UInt8.ofNat k).toNat = k := UInt8.toNat_ofNat_of_lt' (by simpa using h)

theorem grp_digs (s : ByteArray) (post : List UInt8) : ∀ (f k p u acc : Nat), k + f = 9 → u < 2 * 128 ^ f → (0 < k → 0 < u) → s.data.toList.drop p = digs f u ++ post →
    grpAt s k p acc = (0, acc + u * 2 ^ (7 * k), p + (digs f u).length) := by
  intro f
  induction f with
  | zero =>
    intro k p u acc hk hu h0 h
    have hk9 : k = 9 := by omega
    subst hk9
    simp only [digs, List.singleton_append, Nat.pow_zero, Nat.mul_one] at h hu
    obtain ⟨h1, h2, _⟩ := byteAt_drop h
    rw [toNat_ofNat8 u (by omega)] at h2
    have h0' := h0 (by omega)
    rw [grpAt_last (by omega) h1 (by omega) (by omega) (by omega), h2, Nat.mod_eq_of_lt (by omega)]
    rfl
  | succ f ih =>
    intro k p u acc hk hu h0 h
    by_cases hlt : u < 128
    · have e : digs (f + 1) u = [UInt8.ofNat u] := by unfold digs; rw [if_pos hlt]
      rw [e] at h ⊢
      obtain ⟨h1, h2, _⟩ := byteAt_drop h
      rw [toNat_ofNat8 u (by omega)] at h2
      rw [grpAt_last (by omega) h1 (by omega) (by omega) (by omega), h2, Nat.mod_eq_of_lt hlt]
      rfl
    · have e : digs (f + 1) u = UInt8.ofNat (u % 128 + 128) :: digs f (u / 128) := by conv => lhs; unfold digs; rw [if_neg hlt]
      rw [e] at h ⊢
      obtain ⟨h1, h2, h3⟩ := byteAt_drop h
      rw [toNat_ofNat8 _ (by omega)] at h2
      rw [grpAt_more (by omega) h1 (by omega) (by omega), h2, ih (k + 1) (p + 1) (u / 128) _ (by omega) (by rw [Nat.pow_succ] at hu; exact Nat.div_lt_of_lt_mul (by omega)) (by omega) h3]
      have e2 : 2 ^ (7 * (k + 1)) = 128 * 2 ^ (7 * k) := by rw [show 7 * (k + 1) = 7 * k + 7 from by omega, Nat.pow_add]; omega
      have e3 : (u % 128 + 128) % 128 = u % 128 := by omega
      rw [e2, e3]
      have e4 : u % 128 * 2 ^ (7 * k) + u / 128 * (128 * 2 ^ (7 * k)) = u * 2 ^ (7 * k) := by
        rw [← Nat.mul_assoc, ← Nat.add_mul]
        congr 1
        omega
      simp only [Prod.mk.injEq, true_and, List.length_cons]
      omega

theorem grp_cut (s : ByteArray) : ∀ (f k p u acc : Nat), k + f = 9 → s.data.toList.drop p = (digs f u).dropLast → grpAt s k p acc = (4, 0, 0) := by
  intro f
  induction f with
  | zero =>
    intro k p u acc hk h
    exact grpAt_short (by omega) (drop_nil (by rw [h]; rfl))
  | succ f ih =>
    intro k p u acc hk h
    by_cases hlt : u < 128
    · have e : digs (f + 1) u = [UInt8.ofNat u] := by unfold digs; rw [if_pos hlt]
      rw [e] at h
      exact grpAt_short (by omega) (drop_nil h)
    · have e : digs (f + 1) u = UInt8.ofNat (u % 128 + 128) :: digs f (u / 128) := by conv => lhs; unfold digs; rw [if_neg hlt]
      have hne : digs f (u / 128) ≠ [] := by
        have := digs_length f (u / 128)
        intro e
        rw [e] at this
        simp at this
      rw [e, List.dropLast_cons_of_ne_nil hne] at h
      obtain ⟨h1, h2, h3⟩ := byteAt_drop h
      rw [toNat_ofNat8 _ (by omega)] at h2
      rw [grpAt_more (by omega) h1 (by omega) (by omega)]
      exact ih (k + 1) (p + 1) (u / 128) _ (by omega) h3

/-- A number is read back from its bytes, wherever they stand. -/
theorem getNum_back (s : ByteArray) (p : Nat) (n : Int) (post : List UInt8) (hs : s.size ≤ 8000) (h1 : -9223372036854775808 ≤ n) (h2 : n ≤ 9223372036854775807) (h : s.data.toList.drop p = putNum n ++ post) :
    getNum s p = (n, ((p + (putNum n).length : Nat) : Int), 0) := by
  have hf := fold_lt n h1 h2
  have hg := grp_digs s post 9 0 p (fold n) 0 rfl (by omega) (by omega) h
  have := getNum_ok (s := s) (a := (p : Int)) hs (by omega) (u := fold n) (p := p + (putNum n).length) (by rw [Int.toNat_natCast, hg]; simp [putNum])
  rw [this, unf_fold]
/-- Of bytes that end too early nothing is read. -/
theorem getNum_cut (s : ByteArray) (p : Nat) (n : Int) (hs : s.size ≤ 8000) (h : s.data.toList.drop p = (putNum n).dropLast) : getNum s p = (0, 0, 4) :=
  getNum_bad (c := 4) (u := 0) (p := 0) hs (by omega) (by rw [Int.toNat_natCast]; exact grp_cut s 9 0 p (fold n) 0 rfl h) (by omega)

end Go.Proofs.YtodhohkehbakoaaDoor
