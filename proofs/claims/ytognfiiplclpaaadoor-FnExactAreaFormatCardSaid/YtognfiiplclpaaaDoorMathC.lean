/-
  Plain mathematics of the CRC: a register of 32 bits, bit by bit. No program in sight.
-/
import Derived.WalkKit
import Derived.Laws.Bits64
import Derived.Laws.BitsAllLaws
namespace Go.Proofs.YtognfiiplclpaaaDoor

def crcStep (r : Nat) : Nat := if r % 2 = 1 then (r / 2) ^^^ 3988292384 else r / 2
def crcSteps : Nat → Nat → Nat
  | 0, r => r
  | k + 1, r => crcStep (crcSteps k r)
def crcByte (r : Nat) (b : UInt8) : Nat := crcSteps 8 (r ^^^ b.toNat)
def crcFold (r : Nat) (l : List UInt8) : Nat := l.foldl crcByte r
/-- The register turned, all 32 bits. -/
def turn (r : Nat) : Nat := r ^^^ 4294967295
/-- Of the CRC of a text, and what stands behind it. -/
def crcOn (c : Nat) (l : List UInt8) : Nat := turn (crcFold (turn c) l)

theorem crcStep_lt (r : Nat) (h : r < 2 ^ 32) : crcStep r < 2 ^ 32 := by
  unfold crcStep
  split
  · exact Nat.xor_lt_two_pow (by omega) (by omega)
  · omega
theorem crcSteps_lt (k r : Nat) (h : r < 2 ^ 32) : crcSteps k r < 2 ^ 32 := by
  induction k with
  | zero => exact h
  | succ k ih => exact crcStep_lt _ ih
theorem crcByte_lt (r : Nat) (b : UInt8) (h : r < 2 ^ 32) : crcByte r b < 2 ^ 32 :=
  crcSteps_lt _ _ (Nat.xor_lt_two_pow h (by have := b.toNat_lt; omega))
theorem crcFold_lt (l : List UInt8) : ∀ (r : Nat), r < 2 ^ 32 → crcFold r l < 2 ^ 32 := by
  induction l with
  | nil => exact fun r h => h
  | cons b l ih => exact fun r h => ih _ (crcByte_lt r b h)
theorem turn_lt (r : Nat) (h : r < 2 ^ 32) : turn r < 2 ^ 32 := Nat.xor_lt_two_pow h (by omega)
theorem crcOn_lt (c : Nat) (l : List UInt8) (h : c < 2 ^ 32) : crcOn c l < 2 ^ 32 := turn_lt _ (crcFold_lt _ _ (turn_lt _ h))
theorem crcFold_snoc (r : Nat) (l : List UInt8) (b : UInt8) : crcFold r (l ++ [b]) = crcByte (crcFold r l) b := by simp [crcFold]
theorem turn_turn (r : Nat) : turn (turn r) = r := by
  unfold turn
  rw [Nat.xor_assoc, Nat.xor_self, Nat.xor_zero]
theorem crcOn_append (c : Nat) (l m : List UInt8) : crcOn c (l ++ m) = crcOn (crcOn c l) m := by
  unfold crcOn
  rw [turn_turn]
  unfold crcFold
  rw [List.foldl_append]

theorem xor_u32 (a b : Nat) (ha : a < 4294967296) (hb : b < 4294967296) : bits .xor .u32 (a : Int) (b : Int) = ((a ^^^ b : Nat) : Int) := by
  have hx : a ^^^ b < 2 ^ 32 := Nat.xor_lt_two_pow (by omega) (by omega)
  have h1 : (BitVec.ofInt 32 (a : Int)).toNat = a := by
    rw [BitVec.ofInt_natCast, BitVec.toNat_ofNat]; exact Nat.mod_eq_of_lt (by omega)
  have h2 : (BitVec.ofInt 32 (b : Int)).toNat = b := by
    rw [BitVec.ofInt_natCast, BitVec.toNat_ofNat]; exact Nat.mod_eq_of_lt (by omega)
  show IntKind.u32.wrap ((BitVec.ofInt 32 (a : Int) ^^^ BitVec.ofInt 32 (b : Int)).toNat : Int) = _
  rw [BitVec.toNat_xor, h1, h2, IntKind.wrap_u32']
  omega
theorem and_u32 (a b : Nat) (ha : a < 4294967296) (hb : b < 4294967296) : bits .and .u32 (a : Int) (b : Int) = ((a &&& b : Nat) : Int) := by
  have hx : a &&& b < 2 ^ 32 := Nat.and_lt_two_pow _ (by omega)
  have h1 : (BitVec.ofInt 32 (a : Int)).toNat = a := by
    rw [BitVec.ofInt_natCast, BitVec.toNat_ofNat]; exact Nat.mod_eq_of_lt (by omega)
  have h2 : (BitVec.ofInt 32 (b : Int)).toNat = b := by
    rw [BitVec.ofInt_natCast, BitVec.toNat_ofNat]; exact Nat.mod_eq_of_lt (by omega)
  show IntKind.u32.wrap ((BitVec.ofInt 32 (a : Int) &&& BitVec.ofInt 32 (b : Int)).toNat : Int) = _
  rw [BitVec.toNat_and, h1, h2, IntKind.wrap_u32']
  omega
theorem and_one (r : Nat) (h : r < 4294967296) : bits .and .u32 (r : Int) 1 = ((r % 2 : Nat) : Int) := by
  have := and_u32 r 1 h (by omega)
  rw [show ((1 : Nat) : Int) = 1 from rfl] at this
  rw [this, show (1 : Nat) = 2 ^ 1 - 1 from rfl, Nat.and_two_pow_sub_one_eq_mod]
theorem xor_poly (r : Nat) (h : r < 4294967296) : bits .xor .u32 ((r : Int) / 2) 3988292384 = ((r / 2 ^^^ 3988292384 : Nat) : Int) := by
  have := xor_u32 (r / 2) 3988292384 (by omega) (by omega)
  rw [← this, Int.natCast_ediv]
  rfl
theorem xor_ones (r : Nat) (h : r < 4294967296) : bits .xor .u32 (r : Int) 4294967295 = ((turn r : Nat) : Int) :=
  xor_u32 r 4294967295 h (by omega)
theorem ones_xor (r : Nat) (h : r < 4294967296) : bits .xor .u32 IntKind.u32.max (r : Int) = ((turn r : Nat) : Int) := by
  have e : IntKind.u32.max = ((4294967295 : Nat) : Int) := by decide
  rw [e, xor_u32 4294967295 r (by omega) h, Nat.xor_comm]
  rfl
theorem crcStep_odd (r : Nat) (h : r % 2 = 1) : crcStep r = r / 2 ^^^ 3988292384 := if_pos h
theorem crcStep_even (r : Nat) (h : ¬ r % 2 = 1) : crcStep r = r / 2 := if_neg h

/-- The four bytes of a number, the lowest first. -/
def four (c : Nat) : List UInt8 := [UInt8.ofNat (c % 256), UInt8.ofNat (c / 256 % 256), UInt8.ofNat (c / 65536 % 256), UInt8.ofNat (c / 16777216 % 256)]
/-- The sum of a text in its four bytes. -/
def sumOf (l : List UInt8) : List UInt8 := four (crcOn 0 l)

end Go.Proofs.YtognfiiplclpaaaDoor
