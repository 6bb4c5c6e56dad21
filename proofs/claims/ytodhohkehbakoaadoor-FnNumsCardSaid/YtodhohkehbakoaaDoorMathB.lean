/-
  Plain mathematics of a number read from its bytes. No program in sight.
-/
import Derived.Test.YtodhohkehbakoaaDoorMathA
import Derived.Lib.Strings
import Derived.Laws.BitsAllLaws
namespace Go.Proofs.YtodhohkehbakoaaDoor

def byteAt (s : ByteArray) (p : Nat) : Nat := (s.data.toList.getD p 0).toNat
theorem byteAt_eq (s : ByteArray) (p : Nat) (h : p < s.size) : byteAt s p = s[p].toNat := by
  unfold byteAt
  rw [List.getD_eq_getElem?_getD, List.getElem?_eq_getElem (by simpa using h)]
  rfl
theorem byteAt_lt (s : ByteArray) (p : Nat) : byteAt s p < 256 := (s.data.toList.getD p 0).toNat_lt

/-- Groups of seven bits from a place on; fuel: how many may follow; u: what has been put together. Answer: a code, the number, the place behind it. -/
def grp (s : ByteArray) : Nat → Nat → Nat → Nat × Nat × Nat
  | 0, _, _ => (3, 0, 0)
  | f + 1, p, u =>
    if s.size ≤ p then (4, 0, 0)
    else if f = 0 ∧ 1 < byteAt s p then (3, 0, 0)
    else if byteAt s p < 128 then (if byteAt s p = 0 ∧ f < 9 then (3, 0, 0) else (0, u + byteAt s p % 128 * 2 ^ (7 * (9 - f)), p + 1))
    else grp s f (p + 1) (u + byteAt s p % 128 * 2 ^ (7 * (9 - f)))

/-- The same, by how many groups have been read. -/
def grpAt (s : ByteArray) (k p u : Nat) : Nat × Nat × Nat := grp s (10 - k) p u

theorem grpAt_eq (s : ByteArray) (k p u : Nat) (hk : k ≤ 9) : grpAt s k p u =
    if s.size ≤ p then (4, 0, 0)
    else if k = 9 ∧ 1 < byteAt s p then (3, 0, 0)
    else if byteAt s p < 128 then (if byteAt s p = 0 ∧ 0 < k then (3, 0, 0) else (0, u + byteAt s p % 128 * 2 ^ (7 * k), p + 1))
    else grpAt s (k + 1) (p + 1) (u + byteAt s p % 128 * 2 ^ (7 * k)) := by
  obtain ⟨f, hf⟩ : ∃ f, 10 - k = f + 1 := ⟨9 - k, by omega⟩
  have h1 : (f = 0) = (k = 9) := by apply propext; omega
  have h2 : (f < 9) = (0 < k) := by apply propext; omega
  have h3 : 9 - f = k := by omega
  have h4 : 10 - (k + 1) = f := by omega
  unfold grpAt
  rw [hf, h4]
  conv => lhs; unfold grp
  simp only [h1, h2, h3]

theorem grpAt_short {s : ByteArray} {k p u : Nat} (hk : k ≤ 9) (h : s.size ≤ p) : grpAt s k p u = (4, 0, 0) := by rw [grpAt_eq s k p u hk, if_pos h]
theorem grpAt_tenth {s : ByteArray} {p u : Nat} (h : p < s.size) (hc : 1 < byteAt s p) : grpAt s 9 p u = (3, 0, 0) := by
  rw [grpAt_eq s 9 p u (by omega), if_neg (by omega), if_pos ⟨rfl, hc⟩]
theorem grpAt_long {s : ByteArray} {k p u : Nat} (hk : k ≤ 9) (h : p < s.size) (h0 : byteAt s p = 0) (hk0 : 0 < k) : grpAt s k p u = (3, 0, 0) := by
  rw [grpAt_eq s k p u hk, if_neg (by omega), if_neg (by omega), if_pos (by omega), if_pos ⟨h0, hk0⟩]
theorem grpAt_last {s : ByteArray} {k p u : Nat} (hk : k ≤ 9) (h : p < s.size) (h9 : ¬ (k = 9 ∧ 1 < byteAt s p)) (hc : byteAt s p < 128) (h0 : ¬ (byteAt s p = 0 ∧ 0 < k)) :
    grpAt s k p u = (0, u + byteAt s p % 128 * 2 ^ (7 * k), p + 1) := by
  rw [grpAt_eq s k p u hk, if_neg (by omega), if_neg h9, if_pos hc, if_neg h0]
theorem grpAt_more {s : ByteArray} {k p u : Nat} (hk : k ≤ 9) (h : p < s.size) (h9 : ¬ (k = 9 ∧ 1 < byteAt s p)) (hc : ¬ byteAt s p < 128) :
    grpAt s k p u = grpAt s (k + 1) (p + 1) (u + byteAt s p % 128 * 2 ^ (7 * k)) := by
  rw [grpAt_eq s k p u hk, if_neg (by omega), if_neg h9, if_neg hc]

/-- How great what has been put together may be. -/
theorem put_lt {k u c : Nat} (hu : u < 2 ^ (7 * k)) : u + c % 128 * 2 ^ (7 * k) < 2 ^ (7 * (k + 1)) := by
  have : 2 ^ (7 * (k + 1)) = 128 * 2 ^ (7 * k) := by rw [show 7 * (k + 1) = 7 * k + 7 from by omega, Nat.pow_add]; omega
  have h2 : c % 128 * 2 ^ (7 * k) ≤ 127 * 2 ^ (7 * k) := Nat.mul_le_mul_right _ (by omega)
  omega
theorem put_lt64 {k u c : Nat} (hk : k ≤ 9) (hu : u < 2 ^ (7 * k)) (h9 : ¬ (k = 9 ∧ 1 < c)) : u + c % 128 * 2 ^ (7 * k) < 18446744073709551616 := by
  by_cases h : k = 9
  · subst h
    have : c ≤ 1 := by omega
    have h3 : c % 128 * 2 ^ (7 * 9) ≤ 1 * 2 ^ (7 * 9) := Nat.mul_le_mul_right _ (by omega)
    omega
  · have h1 := put_lt (c := c) hu
    have h2 : 2 ^ (7 * (k + 1)) ≤ 2 ^ 63 := Nat.pow_le_pow_right (by omega) (by omega)
    omega
theorem sh_lt64 {k c : Nat} (hk : k ≤ 9) (h9 : ¬ (k = 9 ∧ 1 < c)) : c % 128 * 2 ^ (7 * k) < 18446744073709551616 := by
  have := put_lt64 (u := 0) hk (Nat.pow_pos (by omega)) h9
  omega

theorem put_wrap {k u c : Nat} (hk : k ≤ 9) (hu : u < 2 ^ (7 * k)) (h9 : ¬ (k = 9 ∧ 1 < c)) :
    IntKind.u64.wrap ((u : Int) + IntKind.u64.wrap ((c : Int) % 128 * 2 ^ (7 * k))) = ((u + c % 128 * 2 ^ (7 * k) : Nat) : Int) := by
  have h1 := put_lt64 hk hu h9
  have h2 := sh_lt64 hk h9
  have e : (c : Int) % 128 * 2 ^ (7 * k) = ((c % 128 * 2 ^ (7 * k) : Nat) : Int) := by
    rw [Int.natCast_mul, Int.natCast_pow]
    rfl
  rw [e]
  generalize c % 128 * 2 ^ (7 * k) = y at *
  rw [IntKind.wrap_u64, IntKind.wrap_u64]
  omega

theorem or_wrap {k u c : Nat} (hk : k ≤ 9) (hu : u < 2 ^ (7 * k)) (h9 : ¬ (k = 9 ∧ 1 < c)) :
    bits .or .u64 (u : Int) (IntKind.u64.wrap ((c : Int) % 128 * 2 ^ (7 * k))) = ((u + c % 128 * 2 ^ (7 * k) : Nat) : Int) := by
  have h2 := sh_lt64 hk h9
  have h3 : u < 18446744073709551616 := Nat.lt_of_lt_of_le hu (Nat.le_trans (Nat.pow_le_pow_right (by omega) (show 7 * k ≤ 63 by omega)) (by omega))
  have e : (c : Int) % 128 * 2 ^ (7 * k) = ((c % 128 * 2 ^ (7 * k) : Nat) : Int) := by
    rw [Int.natCast_mul, Int.natCast_pow]
    rfl
  have hs : u ||| c % 128 * 2 ^ (7 * k) = u + c % 128 * 2 ^ (7 * k) := by
    have := Nat.shiftLeft_add_eq_or_of_lt hu (c % 128)
    rw [Nat.shiftLeft_eq] at this
    rw [Nat.or_comm, ← this, Nat.add_comm]
  rw [e, ← hs]
  generalize c % 128 * 2 ^ (7 * k) = y at *
  rw [IntKind.wrap_u64, show ((y : Nat) : Int) % 18446744073709551616 = (y : Int) by omega]
  exact u64_or_nat u y h3 h2
theorem and_one64 (u : Nat) (h : u < 18446744073709551616) : bits .and .u64 (u : Int) 1 = (u : Int) % 2 := by
  have := u64_and_nat u 1 h (by omega)
  rw [show ((1 : Nat) : Int) = 1 from rfl] at this
  rw [this, show (1 : Nat) = 2 ^ 1 - 1 from rfl, Nat.and_two_pow_sub_one_eq_mod]
  omega
theorem xor_i64_zero (x : Nat) (h : x < 9223372036854775808) : bits .xor .i64 (x : Int) 0 = (x : Int) := by
  show IntKind.i64.wrap ((BitVec.ofInt 64 (x : Int) ^^^ BitVec.ofInt 64 0).toNat : Int) = _
  have e : BitVec.ofInt 64 (x : Int) ^^^ BitVec.ofInt 64 0 = BitVec.ofInt 64 (x : Int) := by simp
  rw [e, BitVec.toNat_ofInt, IntKind.wrap_i64]
  omega
theorem xor_i64_ones (x : Nat) (h : x < 9223372036854775808) : bits .xor .i64 (x : Int) (-1) = -(x : Int) - 1 := by
  show IntKind.i64.wrap ((BitVec.ofInt 64 (x : Int) ^^^ BitVec.ofInt 64 (-1)).toNat : Int) = _
  have e1 : BitVec.ofInt 64 (-1) = BitVec.allOnes 64 := by decide
  rw [e1, BitVec.xor_allOnes, BitVec.toNat_not, BitVec.toNat_ofInt, IntKind.wrap_i64]
  omega
theorem or_zero (c : Nat) : bits .or .u64 0 ((c : Int) % 128) = ((c % 128 : Nat) : Int) := by
  have := u64_or_nat 0 (c % 128) (by omega) (by omega)
  rw [Nat.zero_or] at this
  rw [← this]
  rfl
theorem and127_u8 (c : Nat) (h : c < 256) : bits .and .u8 (c : Int) 127 = (c : Int) % 128 := by
  have := u8_and_nat c 127 h (by omega)
  rw [show ((127 : Nat) : Int) = 127 from rfl] at this
  rw [this, show (127 : Nat) = 2 ^ 7 - 1 from rfl, Nat.and_two_pow_sub_one_eq_mod]
  omega

/-- What was folded, unfolded. -/
def unf (u : Nat) : Int := if u % 2 = 1 then -((u / 2 : Nat) : Int) - 1 else ((u / 2 : Nat) : Int)
theorem unf_odd {u : Nat} (h : u % 2 = 1) : unf u = -((u : Int) / 2) - 1 := by unfold unf; rw [if_pos h]; rfl
theorem unf_even {u : Nat} (h : ¬ u % 2 = 1) : unf u = (u : Int) / 2 := by unfold unf; rw [if_neg h]; rfl
theorem unf_bd {u : Nat} (h : u < 18446744073709551616) : -9223372036854775808 ≤ unf u ∧ unf u ≤ 9223372036854775807 := by
  unfold unf; split <;> omega
theorem unf_fold (n : Int) : unf (fold n) = n := by
  unfold unf fold
  split <;> split <;> omega

/-- What GetNum tells: the number, the place behind it, the code. -/
def getNum (s : ByteArray) (a : Int) : Int × Int × Int :=
  if 8000 < s.size then (0, 0, 2) else if a < 0 then (0, 0, 1)
  else let g := grpAt s 0 a.toNat 0
    if g.1 = 0 then (unf g.2.1, (g.2.2 : Int), 0) else (0, 0, (g.1 : Int))
theorem getNum_size {s : ByteArray} {a : Int} (h : 8000 < s.size) : getNum s a = (0, 0, 2) := by unfold getNum; rw [if_pos h]
theorem getNum_form {s : ByteArray} {a : Int} (h : s.size ≤ 8000) (ha : a < 0) : getNum s a = (0, 0, 1) := by unfold getNum; rw [if_neg (by omega), if_pos ha]
theorem getNum_bad {s : ByteArray} {a : Int} (h : s.size ≤ 8000) (ha : 0 ≤ a) {c u p : Nat} (hg : grpAt s 0 a.toNat 0 = (c, u, p)) (hc : c ≠ 0) : getNum s a = (0, 0, (c : Int)) := by
  unfold getNum; rw [if_neg (by omega), if_neg (by omega), hg]; exact if_neg hc
theorem getNum_ok {s : ByteArray} {a : Int} (h : s.size ≤ 8000) (ha : 0 ≤ a) {u p : Nat} (hg : grpAt s 0 a.toNat 0 = (0, u, p)) : getNum s a = (unf u, (p : Int), 0) := by
  unfold getNum; rw [if_neg (by omega), if_neg (by omega), hg]; exact if_pos rfl

end Go.Proofs.YtodhohkehbakoaaDoor
