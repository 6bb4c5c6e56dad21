/-
  Plain mathematics of numbers in bytes: folding the sign into the lowest bit, groups of seven bits. No program in sight.
-/
import Derived.WalkKit
import Derived.Laws.Bits64
namespace Go.Proofs.YtognfiiplclpaaaDoor

/-- The sign folded into the lowest bit. -/
def fold (n : Int) : Nat := if n < 0 then (-2 * n - 1).toNat else (2 * n).toNat

theorem fold_neg (n : Int) (h : n < 0) : ((fold n : Nat) : Int) = 2 * -(n + 1) + 1 := by
  unfold fold; rw [if_pos h]; omega

theorem fold_pos (n : Int) (h : 0 ≤ n) : ((fold n : Nat) : Int) = 2 * n := by
  unfold fold; rw [if_neg (by omega)]; omega

theorem fold_lt (n : Int) (h1 : -9223372036854775808 ≤ n) (h2 : n ≤ 9223372036854775807) : fold n < 18446744073709551616 := by
  unfold fold; split <;> omega

/-- Folded by bits: shifted up by one, and put together with the sign in all bits. -/
theorem fold_bits (n : Int) (h1 : -9223372036854775808 ≤ n) (h2 : n ≤ 9223372036854775807) :
    bits .xor .u64 (IntKind.u64.wrap (IntKind.u64.wrap n * 2)) (IntKind.u64.wrap (n / 9223372036854775808)) = fold n := by
  rw [IntKind.wrap_u64, IntKind.wrap_u64, IntKind.wrap_u64]
  by_cases h : n < 0
  · have e1 : n / 9223372036854775808 = -1 := by omega
    have e2 : (n % 18446744073709551616 * 2) % 18446744073709551616 = ((18446744073709551616 + 2 * n).toNat : Int) := by omega
    have e3 : (-1 : Int) % 18446744073709551616 = ((18446744073709551615 : Nat) : Int) := by decide
    rw [e1, e2, e3, bits_xor_u64_nat _ _ (by omega) (by omega)]
    have e4 : ∀ x : Nat, x < 2 ^ 64 → x ^^^ 18446744073709551615 = 18446744073709551615 - x := by
      intro x hx
      have := BitVec.toNat_not (x := BitVec.ofNat 64 x)
      have h2 : (BitVec.ofNat 64 x ^^^ BitVec.allOnes 64) = ~~~ (BitVec.ofNat 64 x) := BitVec.xor_allOnes
      have h3 := congrArg BitVec.toNat h2
      rw [BitVec.toNat_xor, this, BitVec.toNat_ofNat, Nat.mod_eq_of_lt hx, BitVec.toNat_allOnes] at h3
      omega
    rw [e4 _ (by omega)]
    unfold fold
    rw [if_pos h]
    omega
  · have e1 : n / 9223372036854775808 = 0 := by omega
    have e2 : (n % 18446744073709551616 * 2) % 18446744073709551616 = ((2 * n).toNat : Int) := by omega
    have e3 : (0 : Int) % 18446744073709551616 = ((0 : Nat) : Int) := by decide
    rw [e1, e2, e3, bits_xor_u64_nat _ _ (by omega) (by omega)]
    unfold fold
    rw [if_neg h]
    simp

theorem and_u64_nat (a b : Nat) (ha : a < 18446744073709551616) (hb : b < 18446744073709551616) :
    bits .and .u64 (a : Int) (b : Int) = ((a &&& b : Nat) : Int) := by
  have hx : a &&& b < 2 ^ 64 := Nat.and_lt_two_pow _ (by omega)
  have h1 : (BitVec.ofInt 64 (a : Int)).toNat = a := by
    rw [BitVec.ofInt_natCast, BitVec.toNat_ofNat]; exact Nat.mod_eq_of_lt (by omega)
  have h2 : (BitVec.ofInt 64 (b : Int)).toNat = b := by
    rw [BitVec.ofInt_natCast, BitVec.toNat_ofNat]; exact Nat.mod_eq_of_lt (by omega)
  show IntKind.u64.wrap ((BitVec.ofInt 64 (a : Int) &&& BitVec.ofInt 64 (b : Int)).toNat : Int) = _
  rw [BitVec.toNat_and, h1, h2, IntKind.wrap_u64]
  omega

theorem and127 (u : Nat) (h : u < 18446744073709551616) : bits .and .u64 (u : Int) 127 = (u : Int) % 128 := by
  have := and_u64_nat u 127 h (by omega)
  rw [show ((127 : Nat) : Int) = 127 from rfl] at this
  rw [this, show (127 : Nat) = 2 ^ 7 - 1 from rfl, Nat.and_two_pow_sub_one_eq_mod]
  omega

/-- Groups of seven bits, the lowest first; fuel: how many more may follow. -/
def digs : Nat → Nat → List UInt8
  | 0, u => [UInt8.ofNat u]
  | f + 1, u => if u < 128 then [UInt8.ofNat u] else UInt8.ofNat (u % 128 + 128) :: digs f (u / 128)

def putNum (n : Int) : List UInt8 := digs 9 (fold n)

/-- A byte as a cell holds it. -/
def bval (b : UInt8) : Value := .int .u8 (b.toNat : Int)
def bvals (l : List UInt8) : List Value := l.map bval

theorem bval_ofNat (k : Nat) (h : k < 256) : bval (UInt8.ofNat k) = .int .u8 (k : Int) := by
  unfold bval
  rw [UInt8.toNat_ofNat_of_lt' (by simpa using h)]
theorem bvals_snoc (l : List UInt8) (k : Nat) (h : k < 256) : bvals l ++ [.int .u8 (k : Int)] = bvals (l ++ [UInt8.ofNat k]) := by
  rw [← bval_ofNat k h]; simp [bvals]
theorem bvals_snoc_hi (l : List UInt8) (u : Nat) : bvals l ++ [.int .u8 ((u : Int) % 128 + 128)] = bvals (l ++ [UInt8.ofNat (u % 128 + 128)]) := by
  rw [← bvals_snoc l (u % 128 + 128) (by omega)]; rfl
theorem setrow (cs : Array Value) (k : Nat) (l : List UInt8) (u : Nat) (hu : u < 256) (hs : k < cs.size) (h : cs.toList.take k = bvals l) :
    (cs.setIfInBounds k (.int .u8 (u : Int))).toList.take (k + 1) = bvals (l ++ [UInt8.ofNat u]) := by
  rw [← bvals_snoc l u hu, ← h]
  simp only [Array.toList_setIfInBounds]
  rw [List.take_succ_eq_append_getElem (by simpa using hs)]
  simp [List.take_set_of_le]
theorem bvals_length (l : List UInt8) : (bvals l).length = l.length := by simp [bvals]

theorem digs_length : ∀ (f u : Nat), 1 ≤ (digs f u).length ∧ (digs f u).length ≤ f + 1
  | 0, _ => by simp [digs]
  | f + 1, u => by
    have := digs_length f (u / 128)
    unfold digs
    split <;> simp <;> omega

theorem putNum_length (n : Int) : 1 ≤ (putNum n).length ∧ (putNum n).length ≤ 10 := digs_length 9 _

/-- What has been put so far, and what is left, makes the whole. -/
def DigsAt (u0 u f : Nat) (l : List UInt8) : Prop := l.length + f = 9 ∧ u < 2 * 128 ^ f ∧ digs 9 u0 = l ++ digs f u

theorem digsAt_start (u0 : Nat) (h : u0 < 18446744073709551616) : DigsAt u0 u0 9 [] := ⟨rfl, by omega, rfl⟩

theorem digsAt_step {u0 u f : Nat} {l : List UInt8} (h : DigsAt u0 u f l) (hu : 128 ≤ u) : ∃ g, f = g + 1 ∧ DigsAt u0 (u / 128) g (l ++ [UInt8.ofNat (u % 128 + 128)]) := by
  obtain ⟨h1, h2, h3⟩ := h
  cases f with
  | zero => simp at h2; omega
  | succ g =>
    refine ⟨g, rfl, by simp; omega, ?_, ?_⟩
    · rw [Nat.pow_succ] at h2
      apply Nat.div_lt_of_lt_mul
      omega
    · rw [h3]
      conv => lhs; unfold digs
      rw [if_neg (by omega)]
      simp

theorem digsAt_end {u0 u f : Nat} {l : List UInt8} (h : DigsAt u0 u f l) (hu : u < 128) : digs 9 u0 = l ++ [UInt8.ofNat u] := by
  obtain ⟨h1, h2, h3⟩ := h
  rw [h3]
  cases f with
  | zero => rfl
  | succ g => unfold digs; rw [if_pos hu]

theorem digsAt_lt {u0 u f : Nat} {l : List UInt8} (h : DigsAt u0 u f l) : u < 18446744073709551616 := by
  have h1 : 128 ^ f ≤ 128 ^ 9 := Nat.pow_le_pow_right (by omega) (by have := h.1; omega)
  have := h.2.1
  omega
theorem digsAt_len {u0 u f : Nat} {l : List UInt8} (h : DigsAt u0 u f l) : l.length ≤ 9 := by have := h.1; omega

end Go.Proofs.YtognfiiplclpaaaDoor
