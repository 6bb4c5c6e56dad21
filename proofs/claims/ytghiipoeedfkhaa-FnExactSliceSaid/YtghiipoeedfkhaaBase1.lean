/-
  Plain mathematics, lists in memory, the calm law: nothing of one program.
-/
import Derived.WalkKit
import Derived.Laws.Bits64
import Derived.OwnWalk
import Derived.ArgAppend
import Derived.Lib.Hide
import Derived.Laws.IdiomStrings
import Derived.Laws.BytesArg
import Derived.Below
import Derived.Laws.OwnMore
import Derived.Deep.Slices
import Derived.Deep.Draws
import Derived.Maps.AppendAt
import Derived.Deep.RegionLaw
import Derived.Lib.Strings
import Derived.Laws.BitsAllLaws
import Derived.Scope
import Derived.ScopeJumps
import Derived.StillTail
/-! Plain mathematics of numbers in bytes: folding the sign into the lowest bit, groups of seven bits. No program in sight. -/
namespace Go.Proofs.Ytghiipoeedfkhaa

/-- The sign folded into the lowest bit. -/
def fold (n : Int) : Nat := if n < 0 then (-2 * n - 1).toNat else (2 * n).toNat

theorem fold_neg (n : Int) (h : n < 0) : ((fold n : Nat) : Int) = 2 * -(n + 1) + 1 := by
  unfold fold; rw [if_pos h]; omega

theorem fold_pos (n : Int) (h : 0 ≤ n) : ((fold n : Nat) : Int) = 2 * n := by
  unfold fold; rw [if_neg (by omega)]; omega

theorem fold_lt (n : Int) (h1 : -9223372036854775808 ≤ n) (h2 : n ≤ 9223372036854775807) : fold n < 18446744073709551616 := by
  unfold fold; split <;> omega

/-- Folded by bits: shifted up by one, and put together with the sign in all bits. -/
theorem fold_bits (n : Int) (h1 : -9223372036854775808 ≤ n) (h2 : n ≤ 9223372036854775807) :
    bits .xor .u64 (IntKind.u64.wrap (IntKind.u64.wrap n * 2)) (IntKind.u64.wrap (n / 9223372036854775808)) = fold n := by
  rw [IntKind.wrap_u64, IntKind.wrap_u64, IntKind.wrap_u64]
  by_cases h : n < 0
  · have e1 : n / 9223372036854775808 = -1 := by omega
    have e2 : (n % 18446744073709551616 * 2) % 18446744073709551616 = ((18446744073709551616 + 2 * n).toNat : Int) := by omega
    have e3 : (-1 : Int) % 18446744073709551616 = ((18446744073709551615 : Nat) : Int) := by decide
    rw [e1, e2, e3, bits_xor_u64_nat _ _ (by omega) (by omega)]
    have e4 : ∀ x : Nat, x < 2 ^ 64 → x ^^^ 18446744073709551615 = 18446744073709551615 - x := by
      intro x hx
      have := BitVec.toNat_not (x := BitVec.ofNat 64 x)
      have h2 : (BitVec.ofNat 64 x ^^^ BitVec.allOnes 64) = ~~~ (BitVec.ofNat 64 x) := BitVec.xor_allOnes
      have h3 := congrArg BitVec.toNat h2
      rw [BitVec.toNat_xor, this, BitVec.toNat_ofNat, Nat.mod_eq_of_lt hx, BitVec.toNat_allOnes] at h3
      omega
    rw [e4 _ (by omega)]
    unfold fold
    rw [if_pos h]
    omega
  · have e1 : n / 9223372036854775808 = 0 := by omega
    have e2 : (n % 18446744073709551616 * 2) % 18446744073709551616 = ((2 * n).toNat : Int) := by omega
    have e3 : (0 : Int) % 18446744073709551616 = ((0 : Nat) : Int) := by decide
    rw [e1, e2, e3, bits_xor_u64_nat _ _ (by omega) (by omega)]
    unfold fold
    rw [if_neg h]
    simp

theorem and_u64_nat (a b : Nat) (ha : a < 18446744073709551616) (hb : b < 18446744073709551616) :
    bits .and .u64 (a : Int) (b : Int) = ((a &&& b : Nat) : Int) := by
  have hx : a &&& b < 2 ^ 64 := Nat.and_lt_two_pow _ (by omega)
  have h1 : (BitVec.ofInt 64 (a : Int)).toNat = a := by
    rw [BitVec.ofInt_natCast, BitVec.toNat_ofNat]; exact Nat.mod_eq_of_lt (by omega)
  have h2 : (BitVec.ofInt 64 (b : Int)).toNat = b := by
    rw [BitVec.ofInt_natCast, BitVec.toNat_ofNat]; exact Nat.mod_eq_of_lt (by omega)
  show IntKind.u64.wrap ((BitVec.ofInt 64 (a : Int) &&& BitVec.ofInt 64 (b : Int)).toNat : Int) = _
  rw [BitVec.toNat_and, h1, h2, IntKind.wrap_u64]
  omega

theorem and127 (u : Nat) (h : u < 18446744073709551616) : bits .and .u64 (u : Int) 127 = (u : Int) % 128 := by
  have := and_u64_nat u 127 h (by omega)
  rw [show ((127 : Nat) : Int) = 127 from rfl] at this
  rw [this, show (127 : Nat) = 2 ^ 7 - 1 from rfl, Nat.and_two_pow_sub_one_eq_mod]
  omega

/-- Groups of seven bits, the lowest first; fuel: how many more may follow. -/
def digs : Nat → Nat → List UInt8
  | 0, u => [UInt8.ofNat u]
  | f + 1, u => if u < 128 then [UInt8.ofNat u] else UInt8.ofNat (u % 128 + 128) :: digs f (u / 128)

def putNum (n : Int) : List UInt8 := digs 9 (fold n)

/-- A byte as a cell holds it. -/
def bval (b : UInt8) : Value := .int .u8 (b.toNat : Int)
def bvals (l : List UInt8) : List Value := l.map bval

theorem bval_ofNat (k : Nat) (h : k < 256) : bval (UInt8.ofNat k) = .int .u8 (k : Int) := by
  unfold bval
  rw [UInt8.toNat_ofNat_of_lt' (by simpa using h)]
theorem bvals_snoc (l : List UInt8) (k : Nat) (h : k < 256) : bvals l ++ [.int .u8 (k : Int)] = bvals (l ++ [UInt8.ofNat k]) := by
  rw [← bval_ofNat k h]; simp [bvals]
theorem bvals_snoc_hi (l : List UInt8) (u : Nat) : bvals l ++ [.int .u8 ((u : Int) % 128 + 128)] = bvals (l ++ [UInt8.ofNat (u % 128 + 128)]) := by
  rw [← bvals_snoc l (u % 128 + 128) (by omega)]; rfl
theorem setrow (cs : Array Value) (k : Nat) (l : List UInt8) (u : Nat) (hu : u < 256) (hs : k < cs.size) (h : cs.toList.take k = bvals l) :
    (cs.setIfInBounds k (.int .u8 (u : Int))).toList.take (k + 1) = bvals (l ++ [UInt8.ofNat u]) := by
  rw [← bvals_snoc l u hu, ← h]
  simp only [Array.toList_setIfInBounds]
  rw [List.take_succ_eq_append_getElem (by simpa using hs)]
  simp [List.take_set_of_le]
theorem bvals_length (l : List UInt8) : (bvals l).length = l.length := by simp [bvals]

theorem digs_length : ∀ (f u : Nat), 1 ≤ (digs f u).length ∧ (digs f u).length ≤ f + 1
  | 0, _ => by simp [digs]
  | f + 1, u => by
    have := digs_length f (u / 128)
    unfold digs
    split <;> simp <;> omega

theorem putNum_length (n : Int) : 1 ≤ (putNum n).length ∧ (putNum n).length ≤ 10 := digs_length 9 _

/-- What has been put so far, and what is left, makes the whole. -/
def DigsAt (u0 u f : Nat) (l : List UInt8) : Prop := l.length + f = 9 ∧ u < 2 * 128 ^ f ∧ digs 9 u0 = l ++ digs f u

theorem digsAt_start (u0 : Nat) (h : u0 < 18446744073709551616) : DigsAt u0 u0 9 [] := ⟨rfl, by omega, rfl⟩

theorem digsAt_step {u0 u f : Nat} {l : List UInt8} (h : DigsAt u0 u f l) (hu : 128 ≤ u) : ∃ g, f = g + 1 ∧ DigsAt u0 (u / 128) g (l ++ [UInt8.ofNat (u % 128 + 128)]) := by
  obtain ⟨h1, h2, h3⟩ := h
  cases f with
  | zero => simp at h2; omega
  | succ g =>
    refine ⟨g, rfl, by simp; omega, ?_, ?_⟩
    · rw [Nat.pow_succ] at h2
      apply Nat.div_lt_of_lt_mul
      omega
    · rw [h3]
      conv => lhs; unfold digs
      rw [if_neg (by omega)]
      simp

theorem digsAt_end {u0 u f : Nat} {l : List UInt8} (h : DigsAt u0 u f l) (hu : u < 128) : digs 9 u0 = l ++ [UInt8.ofNat u] := by
  obtain ⟨h1, h2, h3⟩ := h
  rw [h3]
  cases f with
  | zero => rfl
  | succ g => unfold digs; rw [if_pos hu]

theorem digsAt_lt {u0 u f : Nat} {l : List UInt8} (h : DigsAt u0 u f l) : u < 18446744073709551616 := by
  have h1 : 128 ^ f ≤ 128 ^ 9 := Nat.pow_le_pow_right (by omega) (by have := h.1; omega)
  have := h.2.1
  omega
theorem digsAt_len {u0 u f : Nat} {l : List UInt8} (h : DigsAt u0 u f l) : l.length ≤ 9 := by have := h.1; omega

end Go.Proofs.Ytghiipoeedfkhaa

/-! Laws over any program: a slice of bytes that the call owns, turned into a string. -/
namespace Go.Proofs.Ytghiipoeedfkhaa
open Go.RowKit
variable {P : Program}

theorem own_string {w : World} {base e : Nat} {v : Value} {l : List UInt8} (src dst : TypeId) (hs : P.underlying src = some (.slice e)) (he : P.underlying e = some (.int .u8)) (hd : P.underlying dst = some .string)
    (h : w.ownsRow base e 1 v l.length (bvals l)) : (convert src dst v).run P w = .ok (.string ⟨l.toArray⟩) w := by
  have h' := h
  obtain ⟨_, h2⟩ := h
  rcases h2 with ⟨rfl, h0⟩ | ⟨g, cap, cur, rfl, _, hg, _, _, hc, ht⟩
  · rw [run_convert_bytes_nil w src e hs he 0 0 dst hd]
    obtain rfl : l = [] := List.length_eq_zero_iff.1 h0
    rfl
  · exact run_convert_bytes_back w src dst e ⟨g, 0, none⟩ cap l hs he hd (fun j hj => h'.cells (g := g) rfl j _ (by simp [bvals, bval, List.getElem?_map, List.getElem?_eq_getElem hj]))

/-! Texts compared. -/
theorem beq_no {a b : ByteArray} (h : a ≠ b) : (a.toList == b.toList) = false := by
  rw [beq_eq_false_iff_ne]
  intro e
  rw [ByteArray.toList_eq, ByteArray.toList_eq] at e
  exact h (ByteArray.ext (Array.toList_inj.1 e))
theorem beq_yes (a : ByteArray) : (a.toList == a.toList) = true := by simp

theorem bcell {W w1 : World} (hb : Below W.heap.size W w1) : (∀ b o, b < W.heap.size → w1.cell? ⟨b, o, none⟩ = W.cell? ⟨b, o, none⟩) ∧ (∀ b o, b < W.heap.size → w1.frozen? ⟨b, o, none⟩ = W.frozen? ⟨b, o, none⟩) :=
  ⟨fun b o h => hb.cell (p := ⟨b, o, none⟩) h, fun b o h => hb.frozen (p := ⟨b, o, none⟩) h⟩

theorem below_call {B : Nat} {a w w2 : World} (h : Below B a w) (hB : B ≤ w.heap.size) (k : Below w.heap.size w w2) : Below B a w2 := h.trans (k.mono hB)
theorem below_alloc_call {B : Nat} {a w w2 : World} {o : Obj} (h : Below B a w) (hB : B ≤ w.heap.size) (k : Below (w.alloc o).heap.size (w.alloc o) w2) : Below B a w2 :=
  (h.alloc hB o).trans (k.mono (by simp; omega))

/-! A block known whole. -/
theorem block_cell {w : World} {b : Nat} {cs : Array Value} {t : TypeId} (h : w.heap[b]? = some (.cells cs t (0, 0))) (k : Nat) (hk : k < cs.size) : w.cell? ⟨b, k, none⟩ = some cs[k] := by
  simp [World.cell?, h, hk]
theorem block_free {w : World} {b : Nat} {cs : Array Value} {t : TypeId} (h : w.heap[b]? = some (.cells cs t (0, 0))) (k : Nat) : w.frozen? ⟨b, k, none⟩ = false := by
  simp [World.frozen?, h]
theorem block_lt {w : World} {b : Nat} {o : Obj} (h : w.heap[b]? = some o) : b < w.heap.size := by
  rcases Nat.lt_or_ge b w.heap.size with h' | h'
  · exact h'
  · simp [Array.getElem?_eq_none h'] at h
theorem block_set {w : World} {b : Nat} {cs : Array Value} {t : TypeId} (h : w.heap[b]? = some (.cells cs t (0, 0))) (k : Nat) (v : Value) : (w.setCell ⟨b, k, none⟩ v).heap[b]? = some (.cells (cs.setIfInBounds k v) t (0, 0)) := by
  have hlt := block_lt h
  have h' : w.heap[b] = .cells cs t (0, 0) := by simpa [Array.getElem?_eq_getElem hlt] using h
  show (w.heap.modify b _)[b]? = _
  rw [Array.getElem?_eq_getElem (by simpa using hlt), Array.getElem_modify_self, h']
  rfl

/-- 'a[:h]' of an array of one-cell elements that lies in a block of its own. -/
theorem run_slice_array_to (t e : TypeId) (n : Nat) (ht : P.underlying t = some (.array n e)) (hz : ∀ w, (Go.sizeOf e).run P w = .ok 1 w) (W : World) (a : Addr) (h : Int) (k : Nat) (hk : h = k) (h2 : k ≤ n) :
    (Instr.sliceAt t (.pointer (some a)) none (some (.int .i64 h)) none).run P W = .ok (.slice (some a) k n) W := by
  have e1 : P.arrayLen t = n := by simp [Program.arrayLen, ht]
  have e2 : P.elem t = e := by simp [Program.elem, ht]
  have ht' : P.underlying t = some (.array (P.arrayLen t) (P.elem t)) := by rw [e1, e2]; exact ht
  rw [run_sliceAt_array_h W t a ht' .i64 h (by omega) (by rw [e1]; omega), e1, e2, hz, hk]
  simp [Result.andThen, slicedAt, Addr.add]

/-- 'string(..)' of the first bytes of a block known whole. -/
theorem block_string {w : World} {b : Nat} {cs : Array Value} {t : TypeId} (h : w.heap[b]? = some (.cells cs t (0, 0))) (src e dst : TypeId) (hs : P.underlying src = some (.slice e)) (he : P.underlying e = some (.int .u8)) (hd : P.underlying dst = some .string)
    (l : List UInt8) (k cap : Nat) (hl : l.length = k) (ht : cs.toList.take k = bvals l) : (convert src dst (.slice (some ⟨b, 0, none⟩) k cap)).run P w = .ok (.string ⟨l.toArray⟩) w := by
  subst hl
  refine run_convert_bytes_back w src dst e ⟨b, 0, none⟩ cap l hs he hd (fun j hj => ?_)
  have h1 : (cs.toList.take l.length)[j]? = some (bval l[j]) := by rw [ht]; simp [bvals, List.getElem?_map, List.getElem?_eq_getElem hj]
  rw [List.getElem?_take_of_lt hj] at h1
  have h2 : ((⟨b, 0, none⟩ : Addr).add j) = ⟨b, j, none⟩ := by cases j <;> simp [Addr.add]
  rw [h2]
  simp [World.cell?, h]
  simpa [bval] using h1

end Go.Proofs.Ytghiipoeedfkhaa

/-! How lists lie in memory: a slice that reads as a list (Sl), one that the call owns (library: ownsRow), and worlds of which only some blocks have changed (Within). -/
namespace Go.Proofs.Ytghiipoeedfkhaa
open Go.RowKit

/-! Only blocks from lo on and below hi, and new ones, have changed. -/
structure Within (lo hi : Nat) (w w' : World) : Prop where
  os : w'.os = w.os
  tape : w'.tape = w.tape
  output : w'.output = w.output
  size : w.heap.size ≤ w'.heap.size
  block : ∀ j, j < w.heap.size → (j < lo ∨ hi ≤ j) → w'.heap[j]? = w.heap[j]?

theorem Within.refl (lo hi : Nat) (w : World) : Within lo hi w w := ⟨rfl, rfl, rfl, Nat.le_refl _, fun _ _ _ => rfl⟩
theorem Within.trans {lo hi : Nat} {a b c : World} (h : Within lo hi a b) (k : Within lo hi b c) : Within lo hi a c :=
  ⟨k.os.trans h.os, k.tape.trans h.tape, k.output.trans h.output, Nat.le_trans h.size k.size, fun i hi hr => (k.block i (Nat.lt_of_lt_of_le hi h.size) hr).trans (h.block i hi hr)⟩
theorem Within.wide {lo hi lo' hi' : Nat} {a b : World} (h : Within lo hi a b) (h1 : lo' ≤ lo) (h2 : hi ≤ hi') : Within lo' hi' a b :=
  ⟨h.os, h.tape, h.output, h.size, fun i hi hr => h.block i hi (by omega)⟩
theorem Within.of_below {w w' : World} (h : Below w.heap.size w w') (lo hi : Nat) : Within lo hi w w' := ⟨h.os, h.tape, h.output, h.size, fun j hj _ => h.block j hj⟩
theorem Within.below {lo hi B : Nat} {w w' : World} (h : Within lo hi w w') (hB : B ≤ lo) (hz : B ≤ w.heap.size) : Below B w w' := ⟨h.os, h.tape, h.output, h.size, fun j hj => h.block j (by omega) (by omega)⟩
theorem Within.of_grown {w w' : World} {row : Option Nat} {lo hi : Nat} (h : w.grownBy w' row) (hr : ∀ g, row = some g → lo ≤ g ∧ g < hi) : Within lo hi w w' :=
  ⟨h.os, h.tape, h.output, h.size, fun j hj hn => h.block j hj (fun e => by have := hr j e.symm; omega)⟩
theorem below_drewN' {B : Nat} {a w : World} (h : Below B a w) (n : Nat) : Below B a (w.drewN n) := ⟨h.os, h.tape, h.output, h.size, h.block⟩
theorem Below.all {w w' : World} {B : Nat} (h : Below w.heap.size w w') (hB : B ≤ w.heap.size) : Below B w w' := h.mono hB

/-! A slice that reads as a list. -/
variable {α : Type}

/-- The slice v reads as the list l, each element in k cells as enc says; its cells lie below block B. -/
def Sl (w : World) (B k : Nat) (enc : α → List Value) (v : Value) (l : List α) : Prop :=
  ∃ A c, v = .slice A l.length c ∧ (0 < l.length → ∃ ad : Addr, A = some ad ∧ ad.block < B ∧ ∀ i x, l[i]? = some x → ∀ j u, (enc x)[j]? = some u → w.cell? ((ad.add (i * k)).add j) = some u)

theorem add_block (a : Addr) (n : Nat) : (a.add n).block = a.block := by unfold Addr.add; split <;> rfl

theorem Sl.keep {w w' : World} {B k : Nat} {enc : α → List Value} {v : Value} {l : List α} (h : Sl w B k enc v l) (hk : ∀ p : Addr, p.block < B → w'.cell? p = w.cell? p) : Sl w' B k enc v l := by
  obtain ⟨A, c, rfl, h⟩ := h
  refine ⟨A, c, rfl, fun hn => ?_⟩
  obtain ⟨ad, rfl, hb, hc⟩ := h hn
  exact ⟨ad, rfl, hb, fun i x hx j u hu => (hk _ (by rw [add_block, add_block]; exact hb)).trans (hc i x hx j u hu)⟩
theorem Sl.more {w : World} {B B' k : Nat} {enc : α → List Value} {v : Value} {l : List α} (h : Sl w B k enc v l) (hB : B ≤ B') : Sl w B' k enc v l := by
  obtain ⟨A, c, rfl, h⟩ := h
  refine ⟨A, c, rfl, fun hn => ?_⟩
  obtain ⟨ad, rfl, hb, hc⟩ := h hn
  exact ⟨ad, rfl, by omega, hc⟩
theorem Sl.below {w w' : World} {B k : Nat} {enc : α → List Value} {v : Value} {l : List α} (h : Sl w B k enc v l) (hb : Below B w w') : Sl w' B k enc v l := h.keep fun _ hp => hb.cell hp
theorem Sl.nil_ (w : World) (B k : Nat) (enc : α → List Value) (c : Nat) (A : Option Addr) : Sl w B k enc (.slice A 0 c) ([] : List α) := ⟨A, c, rfl, fun h => absurd h (by simp)⟩

/-- Element by element: one cell each. -/
theorem Sl.one {w : World} {B : Nat} {f : α → Value} {v : Value} {l : List α} (h : Sl w B 1 (fun x => [f x]) v l) (i : Nat) (hi : i < l.length) :
    ∃ ad c, v = .slice (some ad) l.length c ∧ ad.block < B ∧ w.cell? (ad.add i) = some (f l[i]) := by
  obtain ⟨A, c, rfl, h⟩ := h
  obtain ⟨ad, rfl, hb, hc⟩ := h (by omega)
  have h0 := hc i l[i] (List.getElem?_eq_getElem hi) 0 _ rfl
  exact ⟨ad, c, rfl, hb, by simpa [Addr.add] using h0⟩
/-- Two cells each. -/
theorem Sl.two {w : World} {B : Nat} {f g : α → Value} {v : Value} {l : List α} (h : Sl w B 2 (fun x => [f x, g x]) v l) (i : Nat) (hi : i < l.length) :
    ∃ ad c, v = .slice (some ad) l.length c ∧ ad.block < B ∧ w.cell? (ad.add (i * 2)) = some (f l[i]) ∧ w.cell? ⟨(ad.add (i * 2)).block, (ad.add (i * 2)).off + 1, none⟩ = some (g l[i]) := by
  obtain ⟨A, c, rfl, h⟩ := h
  obtain ⟨ad, rfl, hb, hc⟩ := h (by omega)
  have h0 := hc i l[i] (List.getElem?_eq_getElem hi) 0 _ rfl
  have h1 := hc i l[i] (List.getElem?_eq_getElem hi) 1 _ rfl
  exact ⟨ad, c, rfl, hb, by simpa [Addr.add] using h0, h1⟩
theorem Sl.form {w : World} {B k : Nat} {enc : α → List Value} {v : Value} {l : List α} (h : Sl w B k enc v l) : ∃ A c, v = .slice A l.length c := by
  obtain ⟨A, c, rfl, _⟩ := h
  exact ⟨A, c, rfl⟩

theorem flat_at (k : Nat) (enc : α → List Value) (hk : ∀ x, (enc x).length = k) : ∀ (l : List α) (i : Nat) (x : α) (j : Nat) (u : Value), l[i]? = some x → (enc x)[j]? = some u → (l.flatMap enc)[i * k + j]? = some u := by
  intro l
  induction l with
  | nil => intro i x j u h; simp at h
  | cons y l ih =>
    intro i x j u hx hu
    have hj : j < k := by rw [← hk x]; exact (List.getElem?_eq_some_iff.1 hu).1
    cases i with
    | zero =>
      simp only [List.getElem?_cons_zero, Option.some.injEq] at hx
      subst hx
      rw [List.flatMap_cons, Nat.zero_mul, Nat.zero_add, List.getElem?_append_left (by rw [hk]; exact hj)]
      exact hu
    | succ i =>
      simp only [List.getElem?_cons_succ] at hx
      rw [List.flatMap_cons, List.getElem?_append_right (by rw [hk, Nat.add_mul]; omega), hk]
      have e : (i + 1) * k + j - k = i * k + j := by rw [Nat.add_mul]; omega
      rw [e]
      exact ih i x j u hx hu
theorem flat_len (k : Nat) (enc : α → List Value) (hk : ∀ x, (enc x).length = k) (l : List α) : (l.flatMap enc).length = l.length * k := by
  induction l with
  | nil => simp
  | cons y l ih => rw [List.flatMap_cons, List.length_append, ih, hk, List.length_cons, Nat.add_mul]; omega

/-- A slice that the call owns: in a block from base on. -/
def Ow (w : World) (base : Nat) (e : TypeId) (k : Nat) (enc : α → List Value) (v : Value) (l : List α) : Prop := w.ownsRow base e k v l.length (l.flatMap enc)

theorem Ow.sl {w : World} {base : Nat} {e : TypeId} {k : Nat} {enc : α → List Value} {v : Value} {l : List α} (h : Ow w base e k enc v l) (hk : ∀ x, (enc x).length = k) : Sl w w.heap.size k enc v l := by
  have h' := h
  unfold Ow at h'
  rcases h'.2 with ⟨rfl, h0⟩ | ⟨g, cap, cur, rfl, _, hg, _⟩
  · obtain rfl : l = [] := List.length_eq_zero_iff.1 h0
    exact Sl.nil_ w _ k enc 0 none
  · refine ⟨_, cap, rfl, fun hn => ⟨_, rfl, block_lt hg, fun i x hx j u hu => ?_⟩⟩
    have := World.ownsRow.cells h' (g := g) rfl (i * k + j) u (flat_at k enc hk l i x j u hx hu)
    rw [Go.Deep.add_add]
    exact this
theorem Ow.kept {w w' : World} {base : Nat} {e : TypeId} {k : Nat} {enc : α → List Value} {v : Value} {l : List α} (h : Ow w base e k enc v l) {lo hi : Nat} (hg : Within lo hi w w') (hh : hi ≤ base ∨ (∀ g, v.ownBlock = some g → g < lo ∨ hi ≤ g)) : Ow w' base e k enc v l := by
  have hlt := World.ownsRow.lt h
  refine ⟨h.1, ?_⟩
  rcases h.2 with hn | ⟨g, cap, cur, rfl, hb, hgg, rest⟩
  · exact .inl hn
  · refine .inr ⟨g, cap, cur, rfl, hb, ?_, rest⟩
    rw [hg.block g (block_lt hgg) (by
      rcases hh with hh | hh
      · exact .inr (by omega)
      · exact hh g rfl)]
    exact hgg
theorem Ow.lift {w w' : World} {base : Nat} {e : TypeId} {k : Nat} {enc : α → List Value} {v : Value} {l : List α} (h : Ow w base e k enc v l) (hb : Below w.heap.size w w') : Ow w' base e k enc v l :=
  h.kept (Within.of_below hb 0 0) (.inl (Nat.zero_le _))
theorem Ow.base {w : World} {base base' : Nat} {e : TypeId} {k : Nat} {enc : α → List Value} {v : Value} {l : List α} (h : Ow w base e k enc v l) (hb : base' ≤ base) : Ow w base' e k enc v l := by
  refine ⟨h.1, ?_⟩
  rcases h.2 with hn | ⟨g, cap, cur, rfl, hb', rest⟩
  · exact .inl hn
  · exact .inr ⟨g, cap, cur, rfl, by omega, rest⟩
theorem Ow.form {w : World} {base : Nat} {e : TypeId} {k : Nat} {enc : α → List Value} {v : Value} {l : List α} (h : Ow w base e k enc v l) : ∃ A c, v = .slice A l.length c := by
  rcases h.2 with ⟨rfl, h0⟩ | ⟨g, cap, cur, rfl, _⟩
  · exact ⟨none, 0, by rw [h0]⟩
  · exact ⟨_, _, rfl⟩
theorem Ow.far {w : World} {base : Nat} {e : TypeId} {k : Nat} {enc : α → List Value} {v : Value} {l : List α} (h : Ow w base e k enc v l) {p : Addr} (hp : p.block < base) (u : Value) : Ow (w.setCell p u) base e k enc v l := ownsRow_setCell_below h hp u
theorem Ow.alloc {w : World} {base : Nat} {e : TypeId} {k : Nat} {enc : α → List Value} {v : Value} {l : List α} (h : Ow w base e k enc v l) (o : Obj) : Ow (w.alloc o) base e k enc v l := World.ownsRow.alloc h o
/-- Where a slice lies that the call owns. -/
theorem Ow.lies {w : World} {base : Nat} {e : TypeId} {k : Nat} {enc : α → List Value} {v : Value} {l : List α} (h : Ow w base e k enc v l) : ∀ g, v.ownBlock = some g → base ≤ g ∧ g < w.heap.size := World.ownsRow.lt h
/-- Rows of different element types lie in different blocks. -/
theorem Ow.apart {β : Type} {w : World} {base base' : Nat} {e e' : TypeId} {k k' : Nat} {enc : α → List Value} {enc' : β → List Value} {v v' : Value} {l : List α} {l' : List β} (h : Ow w base e k enc v l) (h' : Ow w base' e' k' enc' v' l') (he : e ≠ e') : v.ownBlock = none ∨ v.ownBlock ≠ v'.ownBlock := by
  rcases h.2 with ⟨rfl, _⟩ | ⟨g, cap, cur, rfl, _, hg, _⟩
  · exact .inl rfl
  · refine .inr ?_
    rcases h'.2 with ⟨rfl, _⟩ | ⟨g', cap', cur', rfl, _, hg', _⟩
    · simp [Value.ownBlock]
    · intro hh
      simp [Value.ownBlock] at hh
      subst hh
      rw [hg] at hg'
      injection hg' with hg'
      injection hg' with _ ht
      exact he ht

/-! Only one row has been written, and new blocks have come. -/
theorem grown_trans {w w1 w2 : World} {r : Option Nat} (h : w.grownBy w1 r) (k : w1.grownBy w2 r) : w.grownBy w2 r :=
  ⟨k.os.trans h.os, k.tape.trans h.tape, k.output.trans h.output, Nat.le_trans h.size k.size, fun j hj hr => (k.block j (Nat.lt_of_lt_of_le hj h.size) hr).trans (h.block j hj hr)⟩
theorem grown_refl (w : World) (r : Option Nat) : w.grownBy w r := ⟨rfl, rfl, rfl, Nat.le_refl _, fun _ _ _ => rfl⟩
theorem grown_below {w w' : World} (h : Below w.heap.size w w') (r : Option Nat) : w.grownBy w' r := ⟨h.os, h.tape, h.output, h.size, fun j hj _ => h.block j hj⟩
theorem grown_set (w : World) (g k : Nat) (v : Value) : w.grownBy (w.setCell ⟨g, k, none⟩ v) (some g) :=
  ⟨rfl, rfl, rfl, by simp [World.setCell], fun j _ hj => Below.heap_setCell _ _ _ _ (fun e => hj (by simp [e]))⟩
theorem own_lift {w w' : World} {base : Nat} {e : TypeId} {k : Nat} {v : Value} {n : Nat} {xs : List Value} (h : w.ownsRow base e k v n xs) (hb : Below w.heap.size w w') : w'.ownsRow base e k v n xs := by
  refine ⟨h.1, ?_⟩
  rcases h.2 with hn | ⟨g, cap, cur, rfl, hb', hgg, rest⟩
  · exact .inl hn
  · exact .inr ⟨g, cap, cur, rfl, hb', by rw [hb.block g (block_lt hgg)]; exact hgg, rest⟩
theorem own_form {w : World} {base : Nat} {e : TypeId} {k : Nat} {A : Option Addr} {n c : Nat} {xs : List Value} (h : w.ownsRow base e k (.slice A n c) n xs) (hn : 0 < n) : ∃ g, A = some ⟨g, 0, none⟩ ∧ base ≤ g ∧ g < w.heap.size := by
  rcases h.2 with ⟨_, h0⟩ | ⟨g, cap, cur, hv, hb', hgg, _⟩
  · omega
  · simp only [Value.slice.injEq, true_and] at hv
    exact ⟨g, hv.1, hb', block_lt hgg⟩
theorem own_cell {w : World} {base : Nat} {e : TypeId} {k : Nat} {g n c : Nat} {xs : List Value} (h : w.ownsRow base e k (.slice (some ⟨g, 0, none⟩) n c) n xs) (j : Nat) (hj : j < n * k) : ∃ u, w.cell? ⟨g, j, none⟩ = some u ∧ w.frozen? ⟨g, j, none⟩ = false := by
  refine ⟨xs[j]'(by rw [h.1]; exact hj), ?_, h.frozenAt j⟩
  rw [h.cellAt j hj, List.getElem?_eq_getElem]
theorem list_set_take (xs : List Value) (k : Nat) (ys : List Value) (u : Value) (hk : k < xs.length) (h : xs.take k = ys) : (xs.set k u).take (k + 1) = ys ++ [u] := by
  rw [List.take_succ_eq_append_getElem (by simpa using hk), List.take_set, List.set_eq_of_length_le (by rw [List.length_take]; omega), h]
  simp

end Go.Proofs.Ytghiipoeedfkhaa

/-! A disk as plain data, and how its parts lie in cells. -/
namespace Go.Proofs.Ytghiipoeedfkhaa
open Go.RowKit

/-- What is pending: a place and data. -/
abbrev Pd := Int × ByteArray
structure Dk where
  S : List ByteArray
  P : List Pd

@[reducible] def encS : ByteArray → List Value := fun s => [.string s]
@[reducible] def encP : Pd → List Value := fun p => [.int .i64 p.1, .string p.2]
@[reducible] def encI : Int → List Value := fun n => [.int .i64 n]
theorem encI_len : ∀ x, (encI x).length = 1 := fun _ => rfl
theorem encS_len : ∀ x, (encS x).length = 1 := fun _ => rfl
theorem encP_len : ∀ x, (encP x).length = 2 := fun _ => rfl

/-- A disk's value that reads as d, below block B. -/
def DkAt (w : World) (B : Nat) (v : Value) (d : Dk) : Prop := ∃ vs vp, v = .agg #[vs, vp] ∧ Sl w B 1 encS vs d.S ∧ Sl w B 2 encP vp d.P

/-- What an input's measure bounds. -/
def Small (d : Dk) : Prop := d.S.length ≤ 1048576 ∧ (∀ s ∈ d.S, s.size ≤ 1048576) ∧ d.P.length ≤ 1048576 ∧ (∀ p ∈ d.P, p.2.size ≤ 1048576) ∧ ∀ p ∈ d.P, -9223372036854775808 ≤ p.1 ∧ p.1 ≤ 9223372036854775807
/-- What holds of whatever comes in. -/
def Held (d : Dk) : Prop := d.S.length ≤ 9223372036854775807 ∧ (∀ s ∈ d.S, s.size ≤ maxLen) ∧ d.P.length ≤ 9223372036854775807 ∧ (∀ p ∈ d.P, p.2.size ≤ maxLen) ∧ ∀ p ∈ d.P, -9223372036854775808 ≤ p.1 ∧ p.1 ≤ 9223372036854775807

theorem DkAt.below {w w' : World} {B : Nat} {v : Value} {d : Dk} (h : DkAt w B v d) (hb : Below B w w') : DkAt w' B v d := by
  obtain ⟨vs, vp, rfl, h1, h2⟩ := h
  exact ⟨vs, vp, rfl, h1.below hb, h2.below hb⟩
theorem DkAt.more {w : World} {B B' : Nat} {v : Value} {d : Dk} (h : DkAt w B v d) (hB : B ≤ B') : DkAt w B' v d := by
  obtain ⟨vs, vp, rfl, h1, h2⟩ := h
  exact ⟨vs, vp, rfl, h1.more hB, h2.more hB⟩

/-- A right disk. -/
def Right (d : Dk) : Prop := 1 ≤ d.S.length ∧ d.S.length ≤ 64 ∧ d.P.length ≤ 200 ∧ (∀ s ∈ d.S, s.size ≤ 64) ∧ ∀ p ∈ d.P, 0 ≤ p.1 ∧ p.1 < d.S.length ∧ p.2.size ≤ 64
open Classical in
noncomputable def rightB (d : Dk) : Bool := decide (Right d)
open Classical in
theorem rightB_yes {d : Dk} (h : Right d) : rightB d = true := by unfold rightB; exact decide_eq_true h
open Classical in
theorem rightB_no {d : Dk} (h : ¬ Right d) : rightB d = false := by unfold rightB; exact decide_eq_false h
open Classical in
theorem rightB_out {d : Dk} (h : rightB d = true) : Right d := by unfold rightB at h; exact of_decide_eq_true h
theorem ret_bool {a b : Bool} (h : a = b) : Ending.returned (.bool a) = .returned (.bool b) := by rw [h]

/-! A block laid down just now, later. -/
theorem box_kept {w wr : World} {cs : Array Value} {T : TypeId} (hb : Below (w.alloc (.cells cs T)).heap.size (w.alloc (.cells cs T)) wr) : wr.heap[w.heap.size]? = some (.cells cs T (0, 0)) := by
  rw [hb.block _ (by simp)]
  exact heap_alloc_new _ _
theorem box2 {w : World} {b : Nat} {x0 x1 : Value} {T : TypeId} (h : w.heap[b]? = some (.cells #[x0, x1] T (0, 0))) : w.cell? ⟨b, 0, none⟩ = some x0 ∧ w.cell? ⟨b, 1, none⟩ = some x1 := by
  constructor <;> simp [World.cell?, h]

theorem getElem_mem' {α : Type} (l : List α) (i : Nat) (hi : i < l.length) : l[i] ∈ l := List.getElem_mem hi

end Go.Proofs.Ytghiipoeedfkhaa

/-! append of a slice that reads as a list (nil or not) onto a row of the call's own: its run, and as a step of a region. -/
namespace Go.Proofs.Ytghiipoeedfkhaa
open Go.RowKit
variable {P : Program} {α : Type}

/-- All that is asked of the types of a slice. -/
structure SlType (P : Program) (T E : TypeId) (k : Nat) (bytes : Nat) : Prop where
  under : P.underlying T = some (.slice E)
  info : ∃ (i : TypeInfo) (z : Value), P.info? E = some i ∧ i.zero = some z ∧ i.size = k ∧ i.bytes = bytes ∧ z.cells.size = k
  pos : 0 < k

/-- What an append leaves. -/
def Grew (w : World) (base : Nat) (E : TypeId) (k : Nat) (v : Value) (n : Nat) (xs : List Value) (v' : Value) (w' : World) : Prop :=
  w'.ownsRow base E k v' n xs ∧ w.grownBy w' v.ownBlock ∧ (v'.ownBlock = v.ownBlock ∨ v'.ownBlock = some w.heap.size)

theorem run_append_sl {T E : TypeId} {k bytes : Nat} (hT : SlType P T E k bytes) (ty : TypeId) (w : World) (base : Nat) (v : Value) (n : Nat) (xs : List Value) (hown : w.ownsRow base E k v n xs)
    (B : Nat) (enc : α → List Value) (s : Value) (l : List α) (hs : Sl w B k enc s l) (hk : ∀ x, (enc x).length = k) (h1 : ∀ x, ∀ u ∈ enc x, u.oneCell' = true) (hn : n + l.length ≤ maxLen) (hb : (n + l.length) * bytes ≤ 140737488355328) (hbase : base ≤ w.heap.size) :
    ∃ v' w', (Builtin.append_ #[T, T] ty #[v, s]).run P w = .ok v' w' ∧ Grew w base E k v (n + l.length) (xs ++ l.flatMap enc) v' w' := by
  obtain ⟨i, z, hi, hz, hsz, hby, hzs⟩ := hT.info
  obtain ⟨A, c, rfl, hA⟩ := hs
  have hl := flat_len k enc hk l
  have hone : ∀ u ∈ l.flatMap enc, u.oneCell' = true := fun u hu => by
    obtain ⟨x, _, hx⟩ := List.mem_flatMap.1 hu
    exact h1 x u hx
  rcases A with _ | ad
  · have h0 : l = [] := by
      rcases Nat.eq_zero_or_pos l.length with h0 | h0
      · exact List.length_eq_zero_iff.1 h0
      · obtain ⟨_, h, _⟩ := hA h0
        cases h
    subst h0
    refine ⟨v, w, ?_, by simpa using hown, grown_refl _ _, .inl rfl⟩
    rcases hown.2 with ⟨rfl, rfl⟩ | ⟨g, cap, cur, rfl, _, _, hnc, _⟩
    · simp [Builtin.append_, run_underlying hT.under, sizeOf, typeInfo, hi, Builtin.lenOf, Builtin.firstCells]
    · simp [Builtin.append_, run_underlying hT.under, sizeOf, typeInfo, hi, Builtin.lenOf, Builtin.firstCells, hnc, storeCells]
  · have hcells : ∀ j u, (l.flatMap enc)[j]? = some u → w.cell? (ad.add j) = some u := by
      intro j u hu
      have hj : j < l.length * k := by rw [← hl]; exact (List.getElem?_eq_some_iff.1 hu).1
      have hpos := hT.pos
      have hln : 0 < l.length := by
        rcases Nat.eq_zero_or_pos l.length with h0 | h0
        · rw [h0] at hj; omega
        · exact h0
      obtain ⟨ad', h, _, hc⟩ := hA hln
      simp only [Option.some.injEq] at h
      subst h
      have hdm : j / k * k + j % k = j := by rw [Nat.mul_comm]; exact Nat.div_add_mod j k
      have hq : j / k < l.length := (Nat.div_lt_iff_lt_mul hpos).2 hj
      have hr : j % k < k := Nat.mod_lt _ hpos
      have hx : l[j / k]? = some (l[j / k]) := List.getElem?_eq_getElem hq
      have hy : (enc l[j / k])[j % k]? = some ((enc l[j / k])[j % k]'(by rw [hk]; exact hr)) := List.getElem?_eq_getElem _
      have hf := flat_at k enc hk l _ _ _ _ hx hy
      rw [hdm, hu] at hf
      rw [hf, ← hc _ _ hx _ _ hy, Go.Deep.add_add, hdm]
    obtain ⟨v', w', hrun, h2, h3, _, h5⟩ := run_append_own_at (P := P) w base T ty E i z k bytes hT.under hi hz hsz hby hzs hT.pos v n xs hown ad l.length c (l.flatMap enc) hl hcells hone hn hb hbase
    exact ⟨v', w', hrun, h2, h3, h5⟩

theorem wp_append_sl {T E : TypeId} {k bytes : Nat} (hT : SlType P T E k bytes) (w : World) {o : Oper} {a : Act} {K : Act → World → Prop} {Q : Exit → Act → World → Prop} (p q : Operand)
    (ho : o.op = .call { callee := .builtin .append, args := #[p, q], argTypes := #[T, T] })
    (base : Nat) (v : Value) (n : Nat) (xs : List Value) (hv : a.eval p = v) (hown : w.ownsRow base E k v n xs)
    (B : Nat) (enc : α → List Value) (s : Value) (l : List α) (hq : a.eval q = s) (hs : Sl w B k enc s l) (hk : ∀ x, (enc x).length = k) (h1 : ∀ x, ∀ u ∈ enc x, u.oneCell' = true) (hn : n + l.length ≤ maxLen) (hb : (n + l.length) * bytes ≤ 140737488355328) (hbase : base ≤ w.heap.size)
    (h : ∀ v' w', Grew w base E k v (n + l.length) (xs ++ l.flatMap enc) v' w' → K (a.put o.dst v') w') : o.wp P a w K Q := by
  obtain ⟨v', w', hrun, hg⟩ := run_append_sl hT o.type w base v n xs hown B enc s l hs hk h1 hn hb hbase
  unfold Oper.wp execOp
  simp only [ho, resolve, invoke, builtin, Sem.run_bind, Sem.run_pure, Result.andThen_ok, List.map_toArray, List.map_cons, List.map_nil, hv, hq, hrun]
  exact h v' w' hg

/-- In a plain region. -/
theorem list_append_sl {T E : TypeId} {k bytes : Nat} (hT : SlType P T E k bytes) (w : World) {ops : Array Oper} {rest : List Oper} {o : Oper} {a : Act} {Q : Exit → Act → World → Prop} (hgd : o.guard = none) (p q : Operand)
    (ho : o.op = .call { callee := .builtin .append, args := #[p, q], argTypes := #[T, T] })
    (base : Nat) (v : Value) (n : Nat) (xs : List Value) (hv : a.eval p = v) (hown : w.ownsRow base E k v n xs)
    (B : Nat) (enc : α → List Value) (s : Value) (l : List α) (hq : a.eval q = s) (hs : Sl w B k enc s l) (hk : ∀ x, (enc x).length = k) (h1 : ∀ x, ∀ u ∈ enc x, u.oneCell' = true) (hn : n + l.length ≤ maxLen) (hb : (n + l.length) * bytes ≤ 140737488355328) (hbase : base ≤ w.heap.size)
    (h : ∀ v' w', Grew w base E k v (n + l.length) (xs ++ l.flatMap enc) v' w' → wpList P ops Q rest (a.put o.dst v') w') : wpList P ops Q (o :: rest) a w :=
  wpList_plain hgd fun _ hK => wp_append_sl hT w p q ho base v n xs hv hown B enc s l hq hs hk h1 hn hb hbase fun v' w' h2 => hK _ _ (h v' w' h2)

/-- In a region that draws its order. -/
theorem step_append_sl {T E : TypeId} {k bytes : Nat} (hT : SlType P T E k bytes) (w : World) {ops : Array Oper} {o : Oper} {a : Act} {K : Act → World → Prop} {Q : Exit → Act → World → Prop} {X : Prop} (hgd : o.guard = none) (p q : Operand)
    (ho : o.op = .call { callee := .builtin .append, args := #[p, q], argTypes := #[T, T] })
    (base : Nat) (v : Value) (n : Nat) (xs : List Value) (hv : a.eval p = v) (hown : w.ownsRow base E k v n xs)
    (B : Nat) (enc : α → List Value) (s : Value) (l : List α) (hq : a.eval q = s) (hs : Sl w B k enc s l) (hk : ∀ x, (enc x).length = k) (h1 : ∀ x, ∀ u ∈ enc x, u.oneCell' = true) (hn : n + l.length ≤ maxLen) (hb : (n + l.length) * bytes ≤ 140737488355328) (hbase : base ≤ w.heap.size)
    (h : ∀ v' w', Grew w base E k v (n + l.length) (xs ++ l.flatMap enc) v' w' → K (a.put o.dst v') w') : if Region.wanted o (yielded ops a.tmps) = true then Oper.wp P o a w K Q else X := by
  have hw : Region.wanted o (yielded ops a.tmps) = true := by simp [Region.wanted, hgd]
  rw [if_pos hw]
  exact wp_append_sl hT w p q ho base v n xs hv hown B enc s l hq hs hk h1 hn hb hbase h

theorem Grew.form {w : World} {base : Nat} {E : TypeId} {k : Nat} {v : Value} {n : Nat} {xs : List Value} {v' : Value} {w' : World} (h : Grew w base E k v n xs v' w') : ∃ A c, v' = .slice A n c := by
  rcases h.1.2 with ⟨rfl, h0⟩ | ⟨g, cap, cur, rfl, _⟩
  · exact ⟨none, 0, by rw [h0]⟩
  · exact ⟨_, _, rfl⟩
theorem rows_apart {w : World} {b b' : Nat} {E E' : TypeId} {k k' : Nat} {v v' : Value} {n n' : Nat} {xs xs' : List Value} (h : w.ownsRow b E k v n xs) (h' : w.ownsRow b' E' k' v' n' xs') (he : E ≠ E') : v.ownBlock = none ∨ v.ownBlock ≠ v'.ownBlock := by
  rcases h.2 with ⟨rfl, _⟩ | ⟨g, cap, cur, rfl, _, hg, _⟩
  · exact .inl rfl
  · refine .inr ?_
    rcases h'.2 with ⟨rfl, _⟩ | ⟨g', cap', cur', rfl, _, hg', _⟩
    · simp [Value.ownBlock]
    · intro hh
      simp [Value.ownBlock] at hh
      subst hh
      rw [hg] at hg'
      injection hg' with hg'
      injection hg' with _ ht
      exact he ht
/-- A row of another element type stays. -/
theorem Grew.other {w : World} {base : Nat} {E : TypeId} {k : Nat} {v : Value} {n : Nat} {xs : List Value} {v' : Value} {w' : World} (h : Grew w base E k v n xs v' w') {b2 : Nat} {E2 : TypeId} {k2 : Nat} {v2 : Value} {n2 : Nat} {xs2 : List Value} (h2 : w.ownsRow b2 E2 k2 v2 n2 xs2)
    {b1 k1 n1 : Nat} {xs1 : List Value} (h1 : w.ownsRow b1 E k1 v n1 xs1) (he : E2 ≠ E) : w'.ownsRow b2 E2 k2 v2 n2 xs2 := World.ownsRow.kept h2 h.2.1 (rows_apart h2 h1 he)
theorem Grew.below {w : World} {base : Nat} {E : TypeId} {k : Nat} {v : Value} {n : Nat} {xs : List Value} {v' : Value} {w' : World} (h : Grew w base E k v n xs v' w') {B : Nat} (hv : ∀ g, v.ownBlock = some g → B ≤ g) (hB : B ≤ w.heap.size) : Below B w w' :=
  ⟨h.2.1.os, h.2.1.tape, h.2.1.output, h.2.1.size, fun j hj => h.2.1.block j (by omega) (fun e => by have := hv j e.symm; omega)⟩
/-- An empty row of the call's own. -/
theorem own_empty {w : World} {g : Nat} {E : TypeId} (h : w.heap[g]? = some (.cells #[] E (0, 0))) (base k : Nat) (hb : base ≤ g) : w.ownsRow base E k (.slice (some ⟨g, 0, none⟩) 0 0) 0 [] :=
  ⟨by simp, .inr ⟨g, 0, #[], rfl, hb, h, Nat.le_refl _, by unfold maxLen; omega, by simp, by simp⟩⟩
theorem heap_at {W : World} {o : Obj} {n : Nat} (h : W.heap.size = n) : (W.alloc o).heap[n]? = some o := by
  subst h
  exact heap_alloc_new _ _
theorem sl_type {T E : TypeId} {k bytes : Nat} {z : Value} (hT : P.underlying T = some (.slice E)) (hI : (P.info? E).map (fun i => (i.zero, i.size, i.bytes)) = some (some z, k, bytes)) (hz : z.cells.size = k) (hk : 0 < k) : SlType P T E k bytes := by
  obtain ⟨i0, hi, hz0, hz1, hz2⟩ := info_parts hI
  exact ⟨hT, ⟨i0, z, hi, hz0, hz1, hz2, hz⟩, hk⟩

end Go.Proofs.Ytghiipoeedfkhaa

/-! A slice of one element that lies in a block of its own. -/
namespace Go.Proofs.Ytghiipoeedfkhaa
open Go.RowKit

/-- One element's cells, in a block of its own. -/
theorem sl_single {α : Type} {w : World} {b : Nat} {cs : Array Value} {E : TypeId} (h : w.heap[b]? = some (.cells cs E (0, 0))) (k : Nat) (enc : α → List Value) (x : α) (hx : cs.toList = enc x) : Sl w w.heap.size k enc (.slice (some ⟨b, 0, none⟩) 1 1) [x] := by
  refine ⟨_, 1, rfl, fun _ => ⟨_, rfl, block_lt h, fun i y hy j u hu => ?_⟩⟩
  have hi : i = 0 := by have := (List.getElem?_eq_some_iff.1 hy).1; simp at this; exact this
  subst hi
  simp only [List.getElem?_cons_zero, Option.some.injEq] at hy
  subst hy
  rw [← hx] at hu
  have hj : j < cs.size := by have := (List.getElem?_eq_some_iff.1 hu).1; simpa using this
  have e : (((⟨b, 0, none⟩ : Addr).add (0 * k)).add j) = ⟨b, j, none⟩ := by
    rw [Go.Deep.add_add]
    unfold Addr.add
    by_cases h0 : j = 0 <;> simp [h0]
  rw [e, block_cell h j hj]
  rw [Array.getElem?_toList, Array.getElem?_eq_getElem hj] at hu
  exact hu

end Go.Proofs.Ytghiipoeedfkhaa

/-! Plain mathematics of a number read from its bytes. No program in sight. -/
namespace Go.Proofs.Ytghiipoeedfkhaa

def byteAt (s : ByteArray) (p : Nat) : Nat := (s.data.toList.getD p 0).toNat
theorem byteAt_eq (s : ByteArray) (p : Nat) (h : p < s.size) : byteAt s p = s[p].toNat := by
  unfold byteAt
  rw [List.getD_eq_getElem?_getD, List.getElem?_eq_getElem (by simpa using h)]
  rfl
theorem byteAt_lt (s : ByteArray) (p : Nat) : byteAt s p < 256 := (s.data.toList.getD p 0).toNat_lt

/-- Groups of seven bits from a place on; fuel: how many may follow; u: what has been put together. Answer: a code, the number, the place behind it. -/
def grp (s : ByteArray) : Nat → Nat → Nat → Nat × Nat × Nat
  | 0, _, _ => (3, 0, 0)
  | f + 1, p, u =>
    if s.size ≤ p then (4, 0, 0)
    else if f = 0 ∧ 1 < byteAt s p then (3, 0, 0)
    else if byteAt s p < 128 then (if byteAt s p = 0 ∧ f < 9 then (3, 0, 0) else (0, u + byteAt s p % 128 * 2 ^ (7 * (9 - f)), p + 1))
    else grp s f (p + 1) (u + byteAt s p % 128 * 2 ^ (7 * (9 - f)))

/-- The same, by how many groups have been read. -/
def grpAt (s : ByteArray) (k p u : Nat) : Nat × Nat × Nat := grp s (10 - k) p u

theorem grpAt_eq (s : ByteArray) (k p u : Nat) (hk : k ≤ 9) : grpAt s k p u =
    if s.size ≤ p then (4, 0, 0)
    else if k = 9 ∧ 1 < byteAt s p then (3, 0, 0)
    else if byteAt s p < 128 then (if byteAt s p = 0 ∧ 0 < k then (3, 0, 0) else (0, u + byteAt s p % 128 * 2 ^ (7 * k), p + 1))
    else grpAt s (k + 1) (p + 1) (u + byteAt s p % 128 * 2 ^ (7 * k)) := by
  obtain ⟨f, hf⟩ : ∃ f, 10 - k = f + 1 := ⟨9 - k, by omega⟩
  have h1 : (f = 0) = (k = 9) := by apply propext; omega
  have h2 : (f < 9) = (0 < k) := by apply propext; omega
  have h3 : 9 - f = k := by omega
  have h4 : 10 - (k + 1) = f := by omega
  unfold grpAt
  rw [hf, h4]
  conv => lhs; unfold grp
  simp only [h1, h2, h3]

theorem grpAt_short {s : ByteArray} {k p u : Nat} (hk : k ≤ 9) (h : s.size ≤ p) : grpAt s k p u = (4, 0, 0) := by rw [grpAt_eq s k p u hk, if_pos h]
theorem grpAt_tenth {s : ByteArray} {p u : Nat} (h : p < s.size) (hc : 1 < byteAt s p) : grpAt s 9 p u = (3, 0, 0) := by
  rw [grpAt_eq s 9 p u (by omega), if_neg (by omega), if_pos ⟨rfl, hc⟩]
theorem grpAt_long {s : ByteArray} {k p u : Nat} (hk : k ≤ 9) (h : p < s.size) (h0 : byteAt s p = 0) (hk0 : 0 < k) : grpAt s k p u = (3, 0, 0) := by
  rw [grpAt_eq s k p u hk, if_neg (by omega), if_neg (by omega), if_pos (by omega), if_pos ⟨h0, hk0⟩]
theorem grpAt_last {s : ByteArray} {k p u : Nat} (hk : k ≤ 9) (h : p < s.size) (h9 : ¬ (k = 9 ∧ 1 < byteAt s p)) (hc : byteAt s p < 128) (h0 : ¬ (byteAt s p = 0 ∧ 0 < k)) :
    grpAt s k p u = (0, u + byteAt s p % 128 * 2 ^ (7 * k), p + 1) := by
  rw [grpAt_eq s k p u hk, if_neg (by omega), if_neg h9, if_pos hc, if_neg h0]
theorem grpAt_more {s : ByteArray} {k p u : Nat} (hk : k ≤ 9) (h : p < s.size) (h9 : ¬ (k = 9 ∧ 1 < byteAt s p)) (hc : ¬ byteAt s p < 128) :
    grpAt s k p u = grpAt s (k + 1) (p + 1) (u + byteAt s p % 128 * 2 ^ (7 * k)) := by
  rw [grpAt_eq s k p u hk, if_neg (by omega), if_neg h9, if_neg hc]

/-- How great what has been put together may be. -/
theorem put_lt {k u c : Nat} (hu : u < 2 ^ (7 * k)) : u + c % 128 * 2 ^ (7 * k) < 2 ^ (7 * (k + 1)) := by
  have : 2 ^ (7 * (k + 1)) = 128 * 2 ^ (7 * k) := by rw [show 7 * (k + 1) = 7 * k + 7 from by omega, Nat.pow_add]; omega
  have h2 : c % 128 * 2 ^ (7 * k) ≤ 127 * 2 ^ (7 * k) := Nat.mul_le_mul_right _ (by omega)
  omega
theorem put_lt64 {k u c : Nat} (hk : k ≤ 9) (hu : u < 2 ^ (7 * k)) (h9 : ¬ (k = 9 ∧ 1 < c)) : u + c % 128 * 2 ^ (7 * k) < 18446744073709551616 := by
  by_cases h : k = 9
  · subst h
    have : c ≤ 1 := by omega
    have h3 : c % 128 * 2 ^ (7 * 9) ≤ 1 * 2 ^ (7 * 9) := Nat.mul_le_mul_right _ (by omega)
    omega
  · have h1 := put_lt (c := c) hu
    have h2 : 2 ^ (7 * (k + 1)) ≤ 2 ^ 63 := Nat.pow_le_pow_right (by omega) (by omega)
    omega
theorem sh_lt64 {k c : Nat} (hk : k ≤ 9) (h9 : ¬ (k = 9 ∧ 1 < c)) : c % 128 * 2 ^ (7 * k) < 18446744073709551616 := by
  have := put_lt64 (u := 0) hk (Nat.pow_pos (by omega)) h9
  omega

theorem put_wrap {k u c : Nat} (hk : k ≤ 9) (hu : u < 2 ^ (7 * k)) (h9 : ¬ (k = 9 ∧ 1 < c)) :
    IntKind.u64.wrap ((u : Int) + IntKind.u64.wrap ((c : Int) % 128 * 2 ^ (7 * k))) = ((u + c % 128 * 2 ^ (7 * k) : Nat) : Int) := by
  have h1 := put_lt64 hk hu h9
  have h2 := sh_lt64 hk h9
  have e : (c : Int) % 128 * 2 ^ (7 * k) = ((c % 128 * 2 ^ (7 * k) : Nat) : Int) := by
    rw [Int.natCast_mul, Int.natCast_pow]
    rfl
  rw [e]
  generalize c % 128 * 2 ^ (7 * k) = y at *
  rw [IntKind.wrap_u64, IntKind.wrap_u64]
  omega

theorem or_wrap {k u c : Nat} (hk : k ≤ 9) (hu : u < 2 ^ (7 * k)) (h9 : ¬ (k = 9 ∧ 1 < c)) :
    bits .or .u64 (u : Int) (IntKind.u64.wrap ((c : Int) % 128 * 2 ^ (7 * k))) = ((u + c % 128 * 2 ^ (7 * k) : Nat) : Int) := by
  have h2 := sh_lt64 hk h9
  have h3 : u < 18446744073709551616 := Nat.lt_of_lt_of_le hu (Nat.le_trans (Nat.pow_le_pow_right (by omega) (show 7 * k ≤ 63 by omega)) (by omega))
  have e : (c : Int) % 128 * 2 ^ (7 * k) = ((c % 128 * 2 ^ (7 * k) : Nat) : Int) := by
    rw [Int.natCast_mul, Int.natCast_pow]
    rfl
  have hs : u ||| c % 128 * 2 ^ (7 * k) = u + c % 128 * 2 ^ (7 * k) := by
    have := Nat.shiftLeft_add_eq_or_of_lt hu (c % 128)
    rw [Nat.shiftLeft_eq] at this
    rw [Nat.or_comm, ← this, Nat.add_comm]
  rw [e, ← hs]
  generalize c % 128 * 2 ^ (7 * k) = y at *
  rw [IntKind.wrap_u64, show ((y : Nat) : Int) % 18446744073709551616 = (y : Int) by omega]
  exact u64_or_nat u y h3 h2
theorem and_one64 (u : Nat) (h : u < 18446744073709551616) : bits .and .u64 (u : Int) 1 = (u : Int) % 2 := by
  have := u64_and_nat u 1 h (by omega)
  rw [show ((1 : Nat) : Int) = 1 from rfl] at this
  rw [this, show (1 : Nat) = 2 ^ 1 - 1 from rfl, Nat.and_two_pow_sub_one_eq_mod]
  omega
theorem xor_i64_zero (x : Nat) (h : x < 9223372036854775808) : bits .xor .i64 (x : Int) 0 = (x : Int) := by
  show IntKind.i64.wrap ((BitVec.ofInt 64 (x : Int) ^^^ BitVec.ofInt 64 0).toNat : Int) = _
  have e : BitVec.ofInt 64 (x : Int) ^^^ BitVec.ofInt 64 0 = BitVec.ofInt 64 (x : Int) := by simp
  rw [e, BitVec.toNat_ofInt, IntKind.wrap_i64]
  omega
theorem xor_i64_ones (x : Nat) (h : x < 9223372036854775808) : bits .xor .i64 (x : Int) (-1) = -(x : Int) - 1 := by
  show IntKind.i64.wrap ((BitVec.ofInt 64 (x : Int) ^^^ BitVec.ofInt 64 (-1)).toNat : Int) = _
  have e1 : BitVec.ofInt 64 (-1) = BitVec.allOnes 64 := by decide
  rw [e1, BitVec.xor_allOnes, BitVec.toNat_not, BitVec.toNat_ofInt, IntKind.wrap_i64]
  omega
theorem or_zero (c : Nat) : bits .or .u64 0 ((c : Int) % 128) = ((c % 128 : Nat) : Int) := by
  have := u64_or_nat 0 (c % 128) (by omega) (by omega)
  rw [Nat.zero_or] at this
  rw [← this]
  rfl
theorem and127_u8 (c : Nat) (h : c < 256) : bits .and .u8 (c : Int) 127 = (c : Int) % 128 := by
  have := u8_and_nat c 127 h (by omega)
  rw [show ((127 : Nat) : Int) = 127 from rfl] at this
  rw [this, show (127 : Nat) = 2 ^ 7 - 1 from rfl, Nat.and_two_pow_sub_one_eq_mod]
  omega

/-- What was folded, unfolded. -/
def unf (u : Nat) : Int := if u % 2 = 1 then -((u / 2 : Nat) : Int) - 1 else ((u / 2 : Nat) : Int)
theorem unf_odd {u : Nat} (h : u % 2 = 1) : unf u = -((u : Int) / 2) - 1 := by unfold unf; rw [if_pos h]; rfl
theorem unf_even {u : Nat} (h : ¬ u % 2 = 1) : unf u = (u : Int) / 2 := by unfold unf; rw [if_neg h]; rfl
theorem unf_bd {u : Nat} (h : u < 18446744073709551616) : -9223372036854775808 ≤ unf u ∧ unf u ≤ 9223372036854775807 := by
  unfold unf; split <;> omega
theorem unf_fold (n : Int) : unf (fold n) = n := by
  unfold unf fold
  split <;> split <;> omega

/-- What GetNum tells: the number, the place behind it, the code. -/
def getNum (s : ByteArray) (a : Int) : Int × Int × Int :=
  if 8000 < s.size then (0, 0, 2) else if a < 0 then (0, 0, 1)
  else let g := grpAt s 0 a.toNat 0
    if g.1 = 0 then (unf g.2.1, (g.2.2 : Int), 0) else (0, 0, (g.1 : Int))
theorem getNum_size {s : ByteArray} {a : Int} (h : 8000 < s.size) : getNum s a = (0, 0, 2) := by unfold getNum; rw [if_pos h]
theorem getNum_form {s : ByteArray} {a : Int} (h : s.size ≤ 8000) (ha : a < 0) : getNum s a = (0, 0, 1) := by unfold getNum; rw [if_neg (by omega), if_pos ha]
theorem getNum_bad {s : ByteArray} {a : Int} (h : s.size ≤ 8000) (ha : 0 ≤ a) {c u p : Nat} (hg : grpAt s 0 a.toNat 0 = (c, u, p)) (hc : c ≠ 0) : getNum s a = (0, 0, (c : Int)) := by
  unfold getNum; rw [if_neg (by omega), if_neg (by omega), hg]; exact if_neg hc
theorem getNum_ok {s : ByteArray} {a : Int} (h : s.size ≤ 8000) (ha : 0 ≤ a) {u p : Nat} (hg : grpAt s 0 a.toNat 0 = (0, u, p)) : getNum s a = (unf u, (p : Int), 0) := by
  unfold getNum; rw [if_neg (by omega), if_neg (by omega), hg]; exact if_pos rfl

end Go.Proofs.Ytghiipoeedfkhaa

/-! Plain mathematics of the CRC: a register of 32 bits, bit by bit. No program in sight. -/
namespace Go.Proofs.Ytghiipoeedfkhaa

def crcStep (r : Nat) : Nat := if r % 2 = 1 then (r / 2) ^^^ 3988292384 else r / 2
def crcSteps : Nat → Nat → Nat
  | 0, r => r
  | k + 1, r => crcStep (crcSteps k r)
def crcByte (r : Nat) (b : UInt8) : Nat := crcSteps 8 (r ^^^ b.toNat)
def crcFold (r : Nat) (l : List UInt8) : Nat := l.foldl crcByte r
/-- The register turned, all 32 bits. -/
def turn (r : Nat) : Nat := r ^^^ 4294967295
/-- Of the CRC of a text, and what stands behind it. -/
def crcOn (c : Nat) (l : List UInt8) : Nat := turn (crcFold (turn c) l)

theorem crcStep_lt (r : Nat) (h : r < 2 ^ 32) : crcStep r < 2 ^ 32 := by
  unfold crcStep
  split
  · exact Nat.xor_lt_two_pow (by omega) (by omega)
  · omega
theorem crcSteps_lt (k r : Nat) (h : r < 2 ^ 32) : crcSteps k r < 2 ^ 32 := by
  induction k with
  | zero => exact h
  | succ k ih => exact crcStep_lt _ ih
theorem crcByte_lt (r : Nat) (b : UInt8) (h : r < 2 ^ 32) : crcByte r b < 2 ^ 32 :=
  crcSteps_lt _ _ (Nat.xor_lt_two_pow h (by have := b.toNat_lt; omega))
theorem crcFold_lt (l : List UInt8) : ∀ (r : Nat), r < 2 ^ 32 → crcFold r l < 2 ^ 32 := by
  induction l with
  | nil => exact fun r h => h
  | cons b l ih => exact fun r h => ih _ (crcByte_lt r b h)
theorem turn_lt (r : Nat) (h : r < 2 ^ 32) : turn r < 2 ^ 32 := Nat.xor_lt_two_pow h (by omega)
theorem crcOn_lt (c : Nat) (l : List UInt8) (h : c < 2 ^ 32) : crcOn c l < 2 ^ 32 := turn_lt _ (crcFold_lt _ _ (turn_lt _ h))
theorem crcFold_snoc (r : Nat) (l : List UInt8) (b : UInt8) : crcFold r (l ++ [b]) = crcByte (crcFold r l) b := by simp [crcFold]
theorem turn_turn (r : Nat) : turn (turn r) = r := by
  unfold turn
  rw [Nat.xor_assoc, Nat.xor_self, Nat.xor_zero]
theorem crcOn_append (c : Nat) (l m : List UInt8) : crcOn c (l ++ m) = crcOn (crcOn c l) m := by
  unfold crcOn
  rw [turn_turn]
  unfold crcFold
  rw [List.foldl_append]

theorem xor_u32 (a b : Nat) (ha : a < 4294967296) (hb : b < 4294967296) : bits .xor .u32 (a : Int) (b : Int) = ((a ^^^ b : Nat) : Int) := by
  have hx : a ^^^ b < 2 ^ 32 := Nat.xor_lt_two_pow (by omega) (by omega)
  have h1 : (BitVec.ofInt 32 (a : Int)).toNat = a := by
    rw [BitVec.ofInt_natCast, BitVec.toNat_ofNat]; exact Nat.mod_eq_of_lt (by omega)
  have h2 : (BitVec.ofInt 32 (b : Int)).toNat = b := by
    rw [BitVec.ofInt_natCast, BitVec.toNat_ofNat]; exact Nat.mod_eq_of_lt (by omega)
  show IntKind.u32.wrap ((BitVec.ofInt 32 (a : Int) ^^^ BitVec.ofInt 32 (b : Int)).toNat : Int) = _
  rw [BitVec.toNat_xor, h1, h2, IntKind.wrap_u32']
  omega
theorem and_u32 (a b : Nat) (ha : a < 4294967296) (hb : b < 4294967296) : bits .and .u32 (a : Int) (b : Int) = ((a &&& b : Nat) : Int) := by
  have hx : a &&& b < 2 ^ 32 := Nat.and_lt_two_pow _ (by omega)
  have h1 : (BitVec.ofInt 32 (a : Int)).toNat = a := by
    rw [BitVec.ofInt_natCast, BitVec.toNat_ofNat]; exact Nat.mod_eq_of_lt (by omega)
  have h2 : (BitVec.ofInt 32 (b : Int)).toNat = b := by
    rw [BitVec.ofInt_natCast, BitVec.toNat_ofNat]; exact Nat.mod_eq_of_lt (by omega)
  show IntKind.u32.wrap ((BitVec.ofInt 32 (a : Int) &&& BitVec.ofInt 32 (b : Int)).toNat : Int) = _
  rw [BitVec.toNat_and, h1, h2, IntKind.wrap_u32']
  omega
theorem and_one (r : Nat) (h : r < 4294967296) : bits .and .u32 (r : Int) 1 = ((r % 2 : Nat) : Int) := by
  have := and_u32 r 1 h (by omega)
  rw [show ((1 : Nat) : Int) = 1 from rfl] at this
  rw [this, show (1 : Nat) = 2 ^ 1 - 1 from rfl, Nat.and_two_pow_sub_one_eq_mod]
theorem xor_poly (r : Nat) (h : r < 4294967296) : bits .xor .u32 ((r : Int) / 2) 3988292384 = ((r / 2 ^^^ 3988292384 : Nat) : Int) := by
  have := xor_u32 (r / 2) 3988292384 (by omega) (by omega)
  rw [← this, Int.natCast_ediv]
  rfl
theorem xor_ones (r : Nat) (h : r < 4294967296) : bits .xor .u32 (r : Int) 4294967295 = ((turn r : Nat) : Int) :=
  xor_u32 r 4294967295 h (by omega)
theorem ones_xor (r : Nat) (h : r < 4294967296) : bits .xor .u32 IntKind.u32.max (r : Int) = ((turn r : Nat) : Int) := by
  have e : IntKind.u32.max = ((4294967295 : Nat) : Int) := by decide
  rw [e, xor_u32 4294967295 r (by omega) h, Nat.xor_comm]
  rfl
theorem crcStep_odd (r : Nat) (h : r % 2 = 1) : crcStep r = r / 2 ^^^ 3988292384 := if_pos h
theorem crcStep_even (r : Nat) (h : ¬ r % 2 = 1) : crcStep r = r / 2 := if_neg h

/-- The four bytes of a number, the lowest first. -/
def four (c : Nat) : List UInt8 := [UInt8.ofNat (c % 256), UInt8.ofNat (c / 256 % 256), UInt8.ofNat (c / 65536 % 256), UInt8.ofNat (c / 16777216 % 256)]
/-- The sum of a text in its four bytes. -/
def sumOf (l : List UInt8) : List UInt8 := four (crcOn 0 l)

end Go.Proofs.Ytghiipoeedfkhaa

/-! Plain mathematics of what GetNum tells. No program in sight. -/
namespace Go.Proofs.Ytghiipoeedfkhaa

/-! What is told, as the program's own values. -/
/-- A NumOut. -/
def numOut (r : Int × Int × Int) : Value := .agg #[.int .i64 r.1, .int .i64 r.2.1, .int .i64 r.2.2]
/-- A TextOut. -/
def textOut3 (r : ByteArray × Int × Int) : Value := .agg #[.string r.1, .int .i64 r.2.1, .int .i64 r.2.2]

/-- What the groups come to: a number that fits, and the place behind it, or a code alone. -/
theorem grpAt_form (s : ByteArray) : ∀ (j k p u : Nat), 10 - k = j → k ≤ 10 → p ≤ s.size → u < 2 ^ (7 * k) →
    (∃ u' p', grpAt s k p u = (0, u', p') ∧ u' < 18446744073709551616 ∧ p' ≤ s.size) ∨ (∃ c, grpAt s k p u = (c, 0, 0) ∧ (c = 3 ∨ c = 4)) := by
  intro j
  induction j with
  | zero =>
    intro k p u hj hk _ _
    have : k = 10 := by omega
    subst this
    exact .inr ⟨3, rfl, .inl rfl⟩
  | succ j ih =>
    intro k p u hj hk hp hu
    have hk9 : k ≤ 9 := by omega
    by_cases h1 : s.size ≤ p
    · exact .inr ⟨4, grpAt_short hk9 h1, .inr rfl⟩
    · by_cases h9 : k = 9 ∧ 1 < byteAt s p
      · obtain ⟨rfl, h9⟩ := h9
        exact .inr ⟨3, grpAt_tenth (by omega) h9, .inl rfl⟩
      · by_cases hc : byteAt s p < 128
        · by_cases h0 : byteAt s p = 0 ∧ 0 < k
          · exact .inr ⟨3, grpAt_long hk9 (by omega) h0.1 h0.2, .inl rfl⟩
          · exact .inl ⟨_, _, grpAt_last hk9 (by omega) h9 hc h0, put_lt64 hk9 hu h9, by omega⟩
        · rw [grpAt_more hk9 (by omega) h9 hc]
          exact ih (k + 1) (p + 1) _ (by omega) (by omega) (by omega) (put_lt hu)

/-- What GetNum tells is a number with the place behind it, or a code alone. -/
theorem getNum_shape (s : ByteArray) (a : Int) : (∃ u p : Nat, u < 18446744073709551616 ∧ p ≤ s.size ∧ getNum s a = (unf u, (p : Int), 0) ∧ s.size ≤ 8000 ∧ 0 ≤ a ∧ a ≤ s.size ∧ grpAt s 0 a.toNat 0 = (0, u, p)) ∨
    (∃ c : Nat, 1 ≤ c ∧ c ≤ 4 ∧ getNum s a = (0, 0, (c : Int)) ∧ (s.size ≤ 8000 → 0 ≤ a → grpAt s 0 a.toNat 0 = (c, 0, 0))) := by
  by_cases h8 : 8000 < s.size
  · exact .inr ⟨2, by omega, by omega, getNum_size h8, fun h => absurd h (by omega)⟩
  · by_cases ha : a < 0
    · exact .inr ⟨1, by omega, by omega, getNum_form (by omega) ha, fun _ h => absurd h (by omega)⟩
    · by_cases hlt : (s.size : Int) ≤ a
      · have hg := grpAt_short (s := s) (k := 0) (p := a.toNat) (u := 0) (by omega) (by omega)
        exact .inr ⟨4, by omega, by omega, getNum_bad (by omega) (by omega) hg (by omega), fun _ _ => hg⟩
      · rcases grpAt_form s 10 0 a.toNat 0 rfl (by omega) (by omega) (by omega) with ⟨u, p, hg, hu, hp⟩ | ⟨c, hg, hc⟩
        · exact .inl ⟨u, p, hu, hp, getNum_ok (by omega) (by omega) hg, by omega, by omega, by omega, hg⟩
        · exact .inr ⟨c, by omega, by omega, getNum_bad (by omega) (by omega) hg (by omega), fun _ _ => hg⟩

/-- What GetText tells: the text, the place behind it, the code. -/
def getText (s : ByteArray) (a : Int) : ByteArray × Int × Int :=
  if (getNum s a).2.2 ≠ 0 then (⟨#[]⟩, 0, (getNum s a).2.2)
  else if (getNum s a).1 < 0 ∨ 8000 < (getNum s a).1 then (⟨#[]⟩, 0, 3)
  else if (s.size : Int) < (getNum s a).2.1 + (getNum s a).1 then (⟨#[]⟩, 0, 4)
  else (s.extract (getNum s a).2.1.toNat ((getNum s a).2.1 + (getNum s a).1).toNat, (getNum s a).2.1 + (getNum s a).1, 0)
theorem getText_code {s : ByteArray} {a c : Int} (h : getNum s a = (0, 0, c)) (hc : c ≠ 0) : getText s a = (⟨#[]⟩, 0, c) := by
  unfold getText; rw [h]; exact if_pos hc
theorem getText_syntax {s : ByteArray} {a n p : Int} (h : getNum s a = (n, p, 0)) (hn : n < 0 ∨ 8000 < n) : getText s a = (⟨#[]⟩, 0, 3) := by
  unfold getText; rw [h, if_neg (by simp), if_pos hn]
theorem getText_short {s : ByteArray} {a n p : Int} (h : getNum s a = (n, p, 0)) (hn : ¬ (n < 0 ∨ 8000 < n)) (hp : (s.size : Int) < p + n) : getText s a = (⟨#[]⟩, 0, 4) := by
  unfold getText; rw [h, if_neg (by simp), if_neg hn, if_pos hp]
theorem getText_ok {s : ByteArray} {a : Int} {n p : Nat} (h : getNum s a = ((n : Int), (p : Int), 0)) (hn : n ≤ 8000) (hp : p + n ≤ s.size) : getText s a = (s.extract p (p + n), ((p + n : Nat) : Int), 0) := by
  unfold getText; rw [h, if_neg (by simp), if_neg (by simp; omega), if_neg (by simp; omega)]
  have e : ((p : Int) + (n : Int)).toNat = p + n := by omega
  simp only [e, Int.toNat_natCast]
  rfl

end Go.Proofs.Ytghiipoeedfkhaa

/-! Plain mathematics: a number is read back from its bytes, wherever they stand; of bytes that end too early nothing is read. No program in sight. -/
namespace Go.Proofs.Ytghiipoeedfkhaa

theorem byteAt_drop {s : ByteArray} {p : Nat} {b : UInt8} {r : List UInt8} (h : s.data.toList.drop p = b :: r) : p < s.size ∧ byteAt s p = b.toNat ∧ s.data.toList.drop (p + 1) = r := by
  have hp : p < s.data.toList.length := by
    rcases Nat.lt_or_ge p s.data.toList.length with h' | h'
    · exact h'
    · rw [List.drop_of_length_le h'] at h; cases h
  have hps : p < s.size := by have := Lib.size_eq s; omega
  have e := (List.getElem_cons_drop hp).trans h
  injection e with e1 e2
  refine ⟨hps, ?_, e2⟩
  unfold byteAt
  rw [List.getD_eq_getElem?_getD, List.getElem?_eq_getElem hp, Option.getD_some, e1]
theorem drop_nil {s : ByteArray} {p : Nat} (h : s.data.toList.drop p = []) : s.size ≤ p := by
  have := List.drop_eq_nil_iff.1 h
  have := Lib.size_eq s
  omega
theorem toNat_ofNat8 (k : Nat) (h : k < 256) : (UInt8.ofNat k).toNat = k := UInt8.toNat_ofNat_of_lt' (by simpa using h)

theorem grp_digs (s : ByteArray) (post : List UInt8) : ∀ (f k p u acc : Nat), k + f = 9 → u < 2 * 128 ^ f → (0 < k → 0 < u) → s.data.toList.drop p = digs f u ++ post →
    grpAt s k p acc = (0, acc + u * 2 ^ (7 * k), p + (digs f u).length) := by
  intro f
  induction f with
  | zero =>
    intro k p u acc hk hu h0 h
    have hk9 : k = 9 := by omega
    subst hk9
    simp only [digs, List.singleton_append, Nat.pow_zero, Nat.mul_one] at h hu
    obtain ⟨h1, h2, _⟩ := byteAt_drop h
    rw [toNat_ofNat8 u (by omega)] at h2
    have h0' := h0 (by omega)
    rw [grpAt_last (by omega) h1 (by omega) (by omega) (by omega), h2, Nat.mod_eq_of_lt (by omega)]
    rfl
  | succ f ih =>
    intro k p u acc hk hu h0 h
    by_cases hlt : u < 128
    · have e : digs (f + 1) u = [UInt8.ofNat u] := by unfold digs; rw [if_pos hlt]
      rw [e] at h ⊢
      obtain ⟨h1, h2, _⟩ := byteAt_drop h
      rw [toNat_ofNat8 u (by omega)] at h2
      rw [grpAt_last (by omega) h1 (by omega) (by omega) (by omega), h2, Nat.mod_eq_of_lt hlt]
      rfl
    · have e : digs (f + 1) u = UInt8.ofNat (u % 128 + 128) :: digs f (u / 128) := by conv => lhs; unfold digs; rw [if_neg hlt]
      rw [e] at h ⊢
      obtain ⟨h1, h2, h3⟩ := byteAt_drop h
      rw [toNat_ofNat8 _ (by omega)] at h2
      rw [grpAt_more (by omega) h1 (by omega) (by omega), h2, ih (k + 1) (p + 1) (u / 128) _ (by omega) (by rw [Nat.pow_succ] at hu; exact Nat.div_lt_of_lt_mul (by omega)) (by omega) h3]
      have e2 : 2 ^ (7 * (k + 1)) = 128 * 2 ^ (7 * k) := by rw [show 7 * (k + 1) = 7 * k + 7 from by omega, Nat.pow_add]; omega
      have e3 : (u % 128 + 128) % 128 = u % 128 := by omega
      rw [e2, e3]
      have e4 : u % 128 * 2 ^ (7 * k) + u / 128 * (128 * 2 ^ (7 * k)) = u * 2 ^ (7 * k) := by
        rw [← Nat.mul_assoc, ← Nat.add_mul]
        congr 1
        omega
      simp only [Prod.mk.injEq, true_and, List.length_cons]
      omega

theorem grp_cut (s : ByteArray) : ∀ (f k p u acc : Nat), k + f = 9 → s.data.toList.drop p = (digs f u).dropLast → grpAt s k p acc = (4, 0, 0) := by
  intro f
  induction f with
  | zero =>
    intro k p u acc hk h
    exact grpAt_short (by omega) (drop_nil (by rw [h]; rfl))
  | succ f ih =>
    intro k p u acc hk h
    by_cases hlt : u < 128
    · have e : digs (f + 1) u = [UInt8.ofNat u] := by unfold digs; rw [if_pos hlt]
      rw [e] at h
      exact grpAt_short (by omega) (drop_nil h)
    · have e : digs (f + 1) u = UInt8.ofNat (u % 128 + 128) :: digs f (u / 128) := by conv => lhs; unfold digs; rw [if_neg hlt]
      have hne : digs f (u / 128) ≠ [] := by
        have := digs_length f (u / 128)
        intro e
        rw [e] at this
        simp at this
      rw [e, List.dropLast_cons_of_ne_nil hne] at h
      obtain ⟨h1, h2, h3⟩ := byteAt_drop h
      rw [toNat_ofNat8 _ (by omega)] at h2
      rw [grpAt_more (by omega) h1 (by omega) (by omega)]
      exact ih (k + 1) (p + 1) (u / 128) _ (by omega) h3

/-- A number is read back from its bytes, wherever they stand. -/
theorem getNum_back (s : ByteArray) (p : Nat) (n : Int) (post : List UInt8) (hs : s.size ≤ 8000) (h1 : -9223372036854775808 ≤ n) (h2 : n ≤ 9223372036854775807) (h : s.data.toList.drop p = putNum n ++ post) :
    getNum s p = (n, ((p + (putNum n).length : Nat) : Int), 0) := by
  have hf := fold_lt n h1 h2
  have hg := grp_digs s post 9 0 p (fold n) 0 rfl (by omega) (by omega) h
  have := getNum_ok (s := s) (a := (p : Int)) hs (by omega) (u := fold n) (p := p + (putNum n).length) (by rw [Int.toNat_natCast, hg]; simp [putNum])
  rw [this, unf_fold]
/-- Of bytes that end too early nothing is read. -/
theorem getNum_cut (s : ByteArray) (p : Nat) (n : Int) (hs : s.size ≤ 8000) (h : s.data.toList.drop p = (putNum n).dropLast) : getNum s p = (0, 0, 4) :=
  getNum_bad (c := 4) (u := 0) (p := 0) hs (by omega) (by rw [Int.toNat_natCast]; exact grp_cut s 9 0 p (fold n) 0 rfl h) (by omega)

end Go.Proofs.Ytghiipoeedfkhaa

/-! Plain mathematics of a head read from its bytes: a number that is got stands there as it is put. No program in sight. -/
namespace Go.Proofs.Ytghiipoeedfkhaa

theorem fold_unf (u : Nat) : fold (unf u) = u := by
  by_cases h : u % 2 = 1
  · rw [unf_odd h]
    unfold fold
    rw [if_pos (by omega)]
    omega
  · rw [unf_even h]
    unfold fold
    rw [if_neg (by omega)]
    omega
theorem byte_at_drop (s : ByteArray) (p : Nat) (h : p < s.size) : s.data.toList.drop p = UInt8.ofNat (byteAt s p) :: s.data.toList.drop (p + 1) := by
  have hl : p < s.data.toList.length := by rw [← Lib.size_eq s]; exact h
  rw [List.drop_eq_getElem_cons hl]
  congr 1
  unfold byteAt
  rw [List.getD_eq_getElem?_getD, List.getElem?_eq_getElem hl, Option.getD_some, UInt8.ofNat_toNat]

/-- What has been put together was written so. -/
theorem grp_back (s : ByteArray) : ∀ (f k p acc u' p' : Nat), k + f = 9 → grpAt s k p acc = (0, u', p') →
    ∃ v, v < 2 * 128 ^ f ∧ (0 < k → 0 < v) ∧ u' = acc + v * 2 ^ (7 * k) ∧ p < p' ∧ p' ≤ s.size ∧ s.data.toList.drop p = digs f v ++ s.data.toList.drop p' := by
  intro f
  induction f with
  | zero =>
    intro k p acc u' p' hk h
    have hk9 : k = 9 := by omega
    subst hk9
    by_cases h1 : s.size ≤ p
    · rw [grpAt_short (by omega) h1] at h; cases h
    · by_cases h9 : 1 < byteAt s p
      · rw [grpAt_tenth (by omega) h9] at h; cases h
      · by_cases h0 : byteAt s p = 0
        · rw [grpAt_long (by omega) (by omega) h0 (by omega)] at h; cases h
        · rw [grpAt_last (by omega) (by omega) (by omega) (by omega) (by omega)] at h
          simp only [Prod.mk.injEq, true_and] at h
          obtain ⟨rfl, rfl⟩ := h
          have hb : byteAt s p = 1 := by omega
          refine ⟨1, by decide, by omega, by rw [hb], by omega, by omega, ?_⟩
          rw [byte_at_drop s p (by omega), hb]
          rfl
  | succ f ih =>
    intro k p acc u' p' hk h
    have hk9 : ¬ k = 9 := by omega
    by_cases h1 : s.size ≤ p
    · rw [grpAt_short (by omega) h1] at h; cases h
    · by_cases hc : byteAt s p < 128
      · by_cases h0 : byteAt s p = 0 ∧ 0 < k
        · rw [grpAt_long (by omega) (by omega) h0.1 h0.2] at h; cases h
        · rw [grpAt_last (by omega) (by omega) (fun h => hk9 h.1) hc h0] at h
          simp only [Prod.mk.injEq, true_and] at h
          obtain ⟨rfl, rfl⟩ := h
          refine ⟨byteAt s p, ?_, by omega, by rw [Nat.mod_eq_of_lt hc], by omega, by omega, ?_⟩
          · have : 1 ≤ 128 ^ f := Nat.one_le_pow f 128 (by decide)
            rw [Nat.pow_succ]; omega
          · rw [byte_at_drop s p (by omega)]
            unfold digs
            rw [if_pos hc]
            rfl
      · rw [grpAt_more (by omega) (by omega) (fun h => hk9 h.1) hc] at h
        obtain ⟨v, hv1, hv2, rfl, hv4, hv5, hv6⟩ := ih (k + 1) (p + 1) _ u' p' (by omega) h
        have hb := byteAt_lt s p
        have hv0 : 0 < v := hv2 (by omega)
        refine ⟨byteAt s p % 128 + 128 * v, ?_, by omega, ?_, by omega, hv5, ?_⟩
        · rw [Nat.pow_succ]; omega
        · rw [show 7 * (k + 1) = 7 * k + 7 from by omega, Nat.pow_add, Nat.add_mul]
          have : 128 * v * 2 ^ (7 * k) = v * (2 ^ (7 * k) * 2 ^ 7) := by rw [Nat.mul_comm 128 v, Nat.mul_assoc, Nat.mul_comm 128]
          omega
        · rw [byte_at_drop s p (by omega), hv6]
          have e1 : ¬ byteAt s p % 128 + 128 * v < 128 := by omega
          have e2 : (byteAt s p % 128 + 128 * v) / 128 = v := by omega
          have e3 : (byteAt s p % 128 + 128 * v) % 128 + 128 = byteAt s p := by omega
          conv => rhs; unfold digs
          rw [if_neg e1, e2, e3]
          rfl
/-- A number that is got stands there as it is put. -/
theorem getNum_put {s : ByteArray} {p : Nat} {n a' : Int} (h : getNum s p = (n, a', 0)) : ∃ p' : Nat, a' = p' ∧ p < p' ∧ p' ≤ s.size ∧ s.size ≤ 8000 ∧ s.data.toList.drop p = putNum n ++ s.data.toList.drop p' := by
  rcases getNum_shape s p with ⟨u, q, hu, hq, hg, h8, _, _, hgr⟩ | ⟨c, c1, _, hg, _⟩
  · rw [hg] at h
    simp only [Prod.mk.injEq, and_true] at h
    obtain ⟨rfl, rfl⟩ := h
    rw [Int.toNat_natCast] at hgr
    obtain ⟨v, hv1, hv2, hv3, hv4, hv5, hv6⟩ := grp_back s 9 0 p 0 u q rfl hgr
    refine ⟨q, rfl, hv4, hq, h8, ?_⟩
    unfold putNum
    rw [fold_unf]
    have : u = v := by omega
    rw [this]
    exact hv6
  · rw [hg] at h
    simp only [Prod.mk.injEq] at h
    omega

end Go.Proofs.Ytghiipoeedfkhaa

/-! A scope in which the run jumps to several labels: what holds at each jump, and a measure that each jump lowers. Over any program. -/
namespace Go.Proofs.Ytghiipoeedfkhaa
open Go

/-- As Q; by a jump to a label: what J says of it. -/
def leap (J : Nat → Act → World → Prop) (Q : Exit → Act → World → Prop) (e : Exit) (a : Act) (w : World) : Prop :=
  match e with
  | .goto l => J l a w
  | e => Q e a w

section
variable {P : Program} {a : Act} {w : World} {Q : Exit → Act → World → Prop}

theorem wp_scope_leaps {c : Code} (J : Nat → Act → World → Prop) (μ : Nat → Act → World → Nat)
    (first : c.wp P (leap J Q) a w)
    (pass : ∀ l a w, J l a w → ∃ r, findLabel c l = some r ∧ r.wp P (leap (fun l' a' w' => J l' a' w' ∧ μ l' a' w' < μ l a w) Q) a w) : (Code.scope c).wp P Q a w := by
  intro b k cs
  have key : ∀ n l a w, μ l a w = n → J l a w → ∃ r, gotoIn l (.inScope c :: k) = some (.code r :: .inScope c :: k) ∧ ∃ e a' w', Q e a' w' ∧ Arrives P (lone (b.at a (.code r :: .inScope c :: k)) cs w) b k cs e a' w' := by
    intro n
    induction n using Nat.strongRecOn with
    | _ n ih =>
      intro l a w hn hJ
      obtain ⟨r, hf, hr⟩ := pass l a w hJ
      refine ⟨r, by simp [gotoIn, hf], ?_⟩
      obtain ⟨e, a₁, w₁, hq, harr⟩ := hr b (.inScope c :: k) cs
      cases e with
      | normal => exact ⟨.normal, a₁, w₁, hq, Steps.trans harr (.one step_inScope)⟩
      | exit id => exact ⟨.exit id, a₁, w₁, hq, fun k' hk => harr k' (by simp [exitTo, hk])⟩
      | goto l' =>
        obtain ⟨hJ', hlt⟩ := hq
        obtain ⟨r', hg', e₂, a₂, w₂, hq₂, harr₂⟩ := ih _ (by omega) l' a₁ w₁ rfl hJ'
        exact ⟨e₂, a₂, w₂, hq₂, .of_steps (harr _ hg') harr₂⟩
      | ret => exact ⟨_, a₁, w₁, hq, harr⟩
      | panic ch => exact ⟨_, a₁, w₁, hq, harr⟩
      | outgrown => exact ⟨_, a₁, w₁, hq, harr⟩
  obtain ⟨e, a₁, w₁, hq, harr⟩ := first b (.inScope c :: k) cs
  cases e with
  | normal => exact ⟨.normal, a₁, w₁, hq, .head step_scope (Steps.trans harr (.one step_inScope))⟩
  | exit id => exact ⟨.exit id, a₁, w₁, hq, fun k' hk => .head step_scope (harr k' (by simp [exitTo, hk]))⟩
  | goto l' =>
    obtain ⟨r', hg', e₂, a₂, w₂, hq₂, harr₂⟩ := key _ l' a₁ w₁ rfl hq
    exact ⟨e₂, a₂, w₂, hq₂, .of_steps (.head step_scope (harr _ hg')) harr₂⟩
  | ret => exact ⟨_, a₁, w₁, hq, .of_steps (.one step_scope) harr⟩
  | panic ch => exact ⟨_, a₁, w₁, hq, .of_steps (.one step_scope) harr⟩
  | outgrown => exact ⟨_, a₁, w₁, hq, .of_steps (.one step_scope) harr⟩
end

end Go.Proofs.Ytghiipoeedfkhaa

/-! A region that draws its order, whose operations leave all that stood as it was (they read, call, make memory): ONE walk of the lexical order serves every order. What a call hands back need not be one value: of it is known what is told ahead of the walk. -/
namespace Go.Proofs.Ytghiipoeedfkhaa
open Go.RowKit

section calm
variable {P : Program} {ops : Array Oper} {md : Region.Mode} {C : World → Prop} {N : List (Nat × (Value → Prop) × (Value → World → Prop))}

/-- What is known of the operations that have come up: one fact more. -/
def upd (F : Nat → World → Prop) (i : Nat) (g : World → Prop) : Nat → World → Prop := fun k w => F k w ∧ (k = i → g w)
/-- What is known of those that an operation waits for. -/
def Deps (md : Region.Mode) (o : Oper) (F : Nat → World → Prop) (w : World) : Prop := ∀ e ∈ o.after, Region.binds md e = true → F e.on w
/-- It yields v and leaves the world as it is. -/
def Plain (w : World) (v : Value) : Result Next → Prop
  | .ok (.value u) w' => u = v ∧ w' = w
  | .ok .skip w' => undef = v ∧ w' = w
  | _ => False
/-- It yields some value that is told of, and all that stood is as it was. -/
def Grows (P : Program) (V : Value → Prop) (g : Value → World → Prop) (w : World) : Result Next → Prop
  | .ok (.value u) w' => Below w.heap.size w w' ∧ V u ∧ g u w'
  | .ok (.enter f args) w' => w' = w ∧ Calls P f args w fun e w'' => ∃ u, e = .returned u ∧ Below w.heap.size w w'' ∧ V u ∧ g u w''
  | _ => False
theorem Plain.one {w : World} {v v' : Value} {r : Result Next} (h : Plain w v r) (k : Plain w v' r) : v = v' := by
  unfold Plain at h k
  split at h
  · exact h.1.symm.trans k.1
  · exact h.1.symm.trans k.1
  · cases h
def Gives (P : Program) (ops : Array Oper) (md : Region.Mode) (C : World → Prop) (N : List (Nat × (Value → Prop) × (Value → World → Prop))) (i : Nat) (o : Oper) (a : Act) (F : Nat → World → Prop) (V : Value → Prop) (g : Value → World → Prop) : Prop :=
  (Region.wanted o (yielded ops a.tmps) = false ∧ V = (fun v => v = undef) ∧ g = fun _ _ => True) ∨
  (Region.wanted o (yielded ops a.tmps) = true ∧ N.lookup i = none ∧ g = (fun _ _ => True) ∧ ∀ w, C w → Deps md o F w → ∃ v, V v ∧ Plain w v ((execOp a.eval o).run P w)) ∨
  (Region.wanted o (yielded ops a.tmps) = true ∧ N.lookup i = some (V, g) ∧ ∀ w, C w → Deps md o F w → Grows P V g w ((execOp a.eval o).run P w))
def Live (C : World → Prop) (F : Nat → World → Prop) : Prop := ∃ w, C w ∧ ∀ k, F k w
def Mono (C : World → Prop) : Prop := ∀ w w', Below w.heap.size w w' → C w → C w'
def MonoF (F : Nat → World → Prop) : Prop := ∀ k, Mono (F k)
def MonoN (N : List (Nat × (Value → Prop) × (Value → World → Prop))) : Prop := ∀ i V g, N.lookup i = some (V, g) → ∀ v, Mono (g v)

theorem MonoF.upd {F : Nat → World → Prop} (h : MonoF F) {i : Nat} {g : World → Prop} (hg : Mono g) : MonoF (upd F i g) :=
  fun k w w' hb hk => ⟨h k w w' hb hk.1, fun e => hg w w' hb (hk.2 e)⟩
theorem Gives.mono {i : Nat} {o : Oper} {a : Act} {F : Nat → World → Prop} {V : Value → Prop} {g : Value → World → Prop} (h : Gives P ops md C N i o a F V g) (hN : MonoN N) (v : Value) : Mono (g v) := by
  rcases h with ⟨_, _, rfl⟩ | ⟨_, _, rfl, _⟩ | ⟨_, h, _⟩
  · exact fun _ _ _ h => h
  · exact fun _ _ _ h => h
  · exact hN _ _ _ h v
theorem Gives.same {i : Nat} {o : Oper} {a a' : Act} {F F' : Nat → World → Prop} {V : Value → Prop} {g : Value → World → Prop} (h : Gives P ops md C N i o a F V g)
    (he : execOp a'.eval o = execOp a.eval o) (hw : Region.wanted o (yielded ops a'.tmps) = Region.wanted o (yielded ops a.tmps)) (hd : ∀ w, Deps md o F' w → Deps md o F w) : Gives P ops md C N i o a' F' V g := by
  unfold Gives at *
  rw [he, hw]
  rcases h with h | ⟨h1, h2, h3, h4⟩ | ⟨h1, h2, h4⟩
  · exact .inl h
  · exact .inr (.inl ⟨h1, h2, h3, fun w c d => h4 w c (hd w d)⟩)
  · exact .inr (.inr ⟨h1, h2, fun w c d => h4 w c (hd w d)⟩)
/-- From a world that is there it comes to one. -/
theorem Gives.live {i : Nat} {o : Oper} {a : Act} {F : Nat → World → Prop} {V : Value → Prop} {g : Value → World → Prop} (h : Gives P ops md C N i o a F V g) (hC : Mono C) (hF : MonoF F) (hl : Live C F) : ∃ u, V u ∧ Live C (upd F i (g u)) := by
  obtain ⟨w, c, f⟩ := hl
  rcases h with ⟨_, rfl, rfl⟩ | ⟨_, _, rfl, h⟩ | ⟨_, _, h⟩
  · exact ⟨undef, rfl, w, c, fun k => ⟨f k, fun _ => trivial⟩⟩
  · obtain ⟨v, hv, _⟩ := h w c (fun e _ _ => f _)
    exact ⟨v, hv, w, c, fun k => ⟨f k, fun _ => trivial⟩⟩
  · have h1 := h w c (fun e _ _ => f _)
    unfold Grows at h1
    split at h1
    · obtain ⟨hb, hv, hg⟩ := h1
      exact ⟨_, hv, _, hC _ _ hb c, fun k => ⟨hF k _ _ hb (f k), fun _ => hg⟩⟩
    · obtain ⟨_, hc⟩ := h1
      obtain ⟨e, w', fr, ⟨u, _, hb, hv, hg⟩, _⟩ := hc []
      exact ⟨u, hv, w', hC _ _ hb c, fun k => ⟨hF k _ _ hb (f k), fun _ => hg⟩⟩
    · cases h1

/-- Operation number 'i' comes up. -/
def cOp (P : Program) (ops : Array Oper) (md : Region.Mode) (C : World → Prop) (N : List (Nat × (Value → Prop) × (Value → World → Prop))) (i : Nat) (K : Act → (Nat → World → Prop) → Prop) (a : Act) (F : Nat → World → Prop) : Prop :=
  ∃ o, ops[i]? = some o ∧ ∃ V g, Gives P ops md C N i o a F V g ∧ ∀ v, V v → K (a.put o.dst v) (upd F i (g v))
theorem cOp_mono {i : Nat} {K K' : Act → (Nat → World → Prop) → Prop} {a : Act} {F : Nat → World → Prop} (h : ∀ a F, K a F → K' a F) (hh : cOp P ops md C N i K a F) : cOp P ops md C N i K' a F :=
  let ⟨o, ho, V, g, h1, h2⟩ := hh
  ⟨o, ho, V, g, h1, fun v hv => h _ _ (h2 v hv)⟩

theorem upd_comm (F : Nat → World → Prop) (i j : Nat) (g k : World → Prop) : upd (upd F i g) j k = upd (upd F j k) i g := by
  funext n w
  unfold upd
  exact propext ⟨fun ⟨⟨a, b⟩, c⟩ => ⟨⟨a, c⟩, b⟩, fun ⟨⟨a, b⟩, c⟩ => ⟨⟨a, c⟩, b⟩⟩
theorem deps_upd {o : Oper} {F : Nat → World → Prop} {i : Nat} {g : World → Prop} (hn : ∀ e ∈ o.after, Region.binds md e = true → e.on ≠ i) (w : World) : Deps md o (upd F i g) w ↔ Deps md o F w :=
  ⟨fun h e he hb => (h e he hb).1, fun h e he hb => ⟨h e he hb, fun hi => absurd hi (hn e he hb)⟩⟩
theorem live_up {F : Nat → World → Prop} {i j : Nat} {g k : World → Prop} (h : Live C (upd (upd F j k) i g)) : Live C (upd F i g) :=
  let ⟨w, c, f⟩ := h
  ⟨w, c, fun n => ⟨(f n).1.1, (f n).2⟩⟩

/-- Two operations that are apart: the one ahead of the other. -/
theorem cOp_swap {i j : Nat} {oi oj : Oper} {a : Act} {F : Nat → World → Prop} {V : Value → Prop} {g : Value → World → Prop} {K : Act → (Nat → World → Prop) → Prop}
    (hj : ops[j]? = some oj) (hap : oi.apart ops oj = true) (hsi : ∀ cs b, oi.op ≠ .select cs b) (hsj : ∀ cs b, oj.op ≠ .select cs b)
    (hij : ∀ e ∈ oj.after, Region.binds md e = true → e.on ≠ i) (hji : ∀ e ∈ oi.after, Region.binds md e = true → e.on ≠ j)
    (hC : Mono C) (hF : MonoF F) (hl : Live C F) (hG : Gives P ops md C N i oi a F V g)
    (H : ∀ u, V u → Live C (upd F i (g u)) → cOp P ops md C N j K (a.put oi.dst u) (upd F i (g u))) :
    cOp P ops md C N j (fun a' F' => Gives P ops md C N i oi a' F' V g ∧ ∀ u, V u → Live C (upd F' i (g u)) → K (a'.put oi.dst u) (upd F' i (g u))) a F := by
  obtain ⟨h1, h2, h3⟩ := Oper.apart_spec hap
  have keep : ∀ v (k : World → Prop), Gives P ops md C N i oi (a.put oj.dst v) (upd F j k) V g := fun v k =>
    hG.same (execOp_put oi hsi a oj.dst v h3) (wanted_put oi a oj.dst v h3) (fun w => (deps_upd hji w).1)
  have back : ∀ u {V' g'}, Gives P ops md C N j oj (a.put oi.dst u) (upd F i (g u)) V' g' → Gives P ops md C N j oj a F V' g' := fun u V' g' h =>
    h.same (execOp_put oj hsj a oi.dst u h1).symm (wanted_put oj a oi.dst u h1).symm (fun w => (deps_upd hij w).2)
  have move : ∀ u v (k : World → Prop), K ((a.put oi.dst u).put oj.dst v) (upd (upd F i (g u)) j k) → K ((a.put oj.dst v).put oi.dst u) (upd (upd F j k) i (g u)) := fun u v k h => by
    rw [← Act.put_comm a u v h2, ← upd_comm]; exact h
  have each : ∀ u, V u → Live C (upd F i (g u)) → ∃ V' g', Gives P ops md C N j oj a F V' g' ∧ ∀ v, V' v → K ((a.put oj.dst v).put oi.dst u) (upd (upd F j (g' v)) i (g u)) := fun u hu hlu => by
    obtain ⟨o, ho, V', g', hg', hk⟩ := H u hu hlu
    obtain rfl : oj = o := Option.some.inj (hj.symm.trans ho)
    exact ⟨V', g', back u hg', fun v hv => move u v _ (hk v hv)⟩
  obtain ⟨u0, hu0, hl0⟩ := hG.live hC hF hl
  obtain ⟨V0, g0, hg0, hk0⟩ := each u0 hu0 hl0
  refine ⟨oj, hj, ?_⟩
  rcases hg0 with ⟨hw, rfl, rfl⟩ | ⟨hw, hn, rfl, hp⟩ | ⟨hw, hn, hp⟩
  · refine ⟨_, _, .inl ⟨hw, rfl, rfl⟩, fun v hv => ⟨keep _ _, fun u hu hlu => ?_⟩⟩
    obtain ⟨V', g', hg', hk'⟩ := each u hu (live_up hlu)
    rcases hg' with ⟨_, rfl, rfl⟩ | ⟨hw', _⟩ | ⟨hw', _⟩
    · exact hk' v hv
    · rw [hw] at hw'; cases hw'
    · rw [hw] at hw'; cases hw'
  · refine ⟨fun v => ∀ u, V u → Live C (upd F i (g u)) → K ((a.put oj.dst v).put oi.dst u) (upd (upd F j (fun _ => True)) i (g u)), fun _ _ => True, .inr (.inl ⟨hw, hn, rfl, fun w c d => ?_⟩), fun v hv => ⟨keep _ _, fun u hu hlu => hv u hu (live_up hlu)⟩⟩
    obtain ⟨v, _, hpv⟩ := hp w c d
    refine ⟨v, fun u hu hlu => ?_, hpv⟩
    obtain ⟨V', g', hg', hk'⟩ := each u hu hlu
    rcases hg' with ⟨hw', _⟩ | ⟨_, _, rfl, hp'⟩ | ⟨_, hn', _⟩
    · rw [hw] at hw'; cases hw'
    · obtain ⟨v', hv', hpv'⟩ := hp' w c d
      rw [hpv.one hpv']
      exact hk' v' hv'
    · rw [hn] at hn'; cases hn'
  · refine ⟨V0, g0, .inr (.inr ⟨hw, hn, hp⟩), fun v hv => ⟨keep _ _, fun u hu hlu => ?_⟩⟩
    obtain ⟨V', g', hg', hk'⟩ := each u hu (live_up hlu)
    rcases hg' with ⟨hw', _⟩ | ⟨_, hn', _⟩ | ⟨_, hn', _⟩
    · rw [hw] at hw'; cases hw'
    · rw [hn] at hn'; cases hn'
    · rw [hn] at hn'
      simp only [Option.some.injEq, Prod.mk.injEq] at hn'
      obtain ⟨rfl, rfl⟩ := hn'
      exact hk' v hv

/-- Whatever order is picked from here on, till the first n have come up. -/
def wpAnyC (P : Program) (ops : Array Oper) (md : Region.Mode) (C : World → Prop) (N : List (Nat × (Value → Prop) × (Value → World → Prop))) (n : Nat) (L : Array Bool → Act → (Nat → World → Prop) → Prop) : Nat → Array Bool → Act → (Nat → World → Prop) → Prop
  | 0, listed, a, F => Live C F → L listed a F
  | f + 1, listed, a, F => Live C F → Region.ready md ops listed ≠ [] ∧ ∀ i ∈ Region.ready md ops listed, i < n ∧ cOp P ops md C N i (wpAnyC P ops md C N n L f (listed.setIfInBounds i true)) a F

theorem wpAnyC_first {n i : Nat} {oi : Oper} {V : Value → Prop} {g : Value → World → Prop} {L : Array Bool → Act → (Nat → World → Prop) → Prop} (hi : ops[i]? = some oi) (hsel : ∀ (j : Nat) (o : Oper) cs b, ops[j]? = some o → o.op ≠ .select cs b)
    (hwait : ∀ listed, HeadInv md ops n listed → listed.getD i true = false → ∀ t ∈ Region.ready md ops listed, t < n)
    (hC : Mono C) (hN : MonoN N) (hin : i < n) (hdone : ∀ listed a F, L listed a F → ∀ j ∈ Region.ready md ops listed, n ≤ j) :
    ∀ (f : Nat) (listed : Array Bool) (a : Act) (F : Nat → World → Prop), HeadInv md ops n listed → MonoF F →
      (∀ j oj, ops[j]? = some oj → j ≠ i → listed.getD j true = false → (∀ e ∈ oj.after, Region.binds md e = true → e.on ≠ i) → oi.apart ops oj = true) →
      i ∈ Region.ready md ops listed → Gives P ops md C N i oi a F V g →
      (∀ u, V u → wpAnyC P ops md C N n L f (listed.setIfInBounds i true) (a.put oi.dst u) (upd F i (g u))) → wpAnyC P ops md C N n L (f + 1) listed a F := by
  intro f
  induction f with
  | zero =>
    intro listed a F inv hF _ hr hG H hl
    have hun := (mem_ready.1 hr).1
    refine ⟨fun h => (by rw [h] at hr; cases hr), fun j hj => ?_⟩
    have hjn : j < n := hwait listed inv hun j hj
    refine ⟨hjn, ?_⟩
    by_cases hji : j = i
    · subst hji; exact ⟨oi, hi, V, g, hG, H⟩
    · obtain ⟨u, hu, hlu⟩ := hG.live hC hF hl
      have := hdone _ _ _ (H u hu hlu) j (ready_mono hj hji)
      omega
  | succ f ih =>
    intro listed a F inv hF hfree hr hG H hl
    have hun := (mem_ready.1 hr).1
    refine ⟨fun h => (by rw [h] at hr; cases hr), fun j hj => ?_⟩
    have hjn : j < n := hwait listed inv hun j hj
    refine ⟨hjn, ?_⟩
    by_cases hji : j = i
    · subst hji; exact ⟨oi, hi, V, g, hG, H⟩
    · obtain ⟨hjun, oj, hoj, hall⟩ := mem_ready.1 hj
      obtain ⟨_, oi', hoi', halli⟩ := mem_ready.1 hr
      obtain rfl : oi = oi' := Option.some.inj (hi.symm.trans hoi')
      have hnot : ∀ e ∈ oj.after, Region.binds md e = true → e.on ≠ i := fun e he hb heq => by
        have h1 := hall e he hb
        rw [heq, getD_both hun] at h1
        cases h1
      have hnot' : ∀ e ∈ oi.after, Region.binds md e = true → e.on ≠ j := fun e he hb heq => by
        have h1 := halli e he hb
        rw [heq, getD_both hjun] at h1
        cases h1
      have h2 := cOp_swap hoj (hfree j oj hoj hji hjun hnot) (fun cs b => hsel i oi cs b hi) (fun cs b => hsel j oj cs b hoj) hnot hnot' hC hF hl hG
        (fun u hu hlu => ((H u hu hlu).2 j (ready_mono hj hji)).2)
      have hfree' : ∀ k ok, ops[k]? = some ok → k ≠ i → (listed.setIfInBounds j true).getD k true = false →
          (∀ e ∈ ok.after, Region.binds md e = true → e.on ≠ i) → oi.apart ops ok = true := fun k ok hk hki hun hno => by
        refine hfree k ok hk hki ?_ hno
        by_cases hjk : j = k
        · subst hjk; exact hjun
        · rw [getD_set_ne true hjk] at hun; exact hun
      obtain ⟨o', ho', V', g', hg', hk'⟩ := h2
      refine ⟨o', ho', V', g', hg', fun v hv => ?_⟩
      obtain ⟨h3, h4⟩ := hk' v hv
      refine ih (listed.setIfInBounds j true) _ _ (inv.set hj hjn) (hF.upd (hg'.mono hN v)) hfree' (ready_mono hr (Ne.symm hji)) h3 (fun u hu => ?_)
      rw [Array.setIfInBounds_comm _ _ hji]
      cases f with
      | zero => exact fun hlu => h4 u hu hlu hlu
      | succ f => exact fun hlu => h4 u hu hlu hlu

/-- It is a wpAny. -/
theorem wpAny_of_calm {n r : Nat} {L : Array Bool → Act → (Nat → World → Prop) → Prop} {Q : Exit → Act → World → Prop} (hC : Mono C) (hN : MonoN N)
    (hL : ∀ listed a F w, L listed a F → C w → (∀ k, F k w) → wpAny P md ops Q r listed a w) :
    ∀ (f : Nat) (listed : Array Bool) (a : Act) (F : Nat → World → Prop) (w : World), MonoF F → C w → (∀ k, F k w) → wpAnyC P ops md C N n L f listed a F → wpAny P md ops Q (f + r) listed a w
  | 0, listed, a, F, w, _, c, k, h => by rw [Nat.zero_add]; exact hL _ _ _ _ (h ⟨w, c, k⟩) c k
  | f + 1, listed, a, F, w, hF, c, k, h => by
    rw [show f + 1 + r = (f + r) + 1 by omega]
    have h := h ⟨w, c, k⟩
    refine ⟨fun h0 => absurd h0 h.1, fun i hi => ?_⟩
    obtain ⟨o, ho, V, g, hG, hK⟩ := (h.2 i hi).2
    have hm := hG.mono hN
    unfold wpOp
    simp only [ho]
    rcases hG with ⟨hw, rfl, rfl⟩ | ⟨hw, _, rfl, hp⟩ | ⟨hw, _, hp⟩
    · rw [if_neg (by rw [hw]; exact Bool.false_ne_true)]
      exact wpAny_of_calm hC hN hL f _ _ _ w (hF.upd (hm undef)) c (fun k' => ⟨k k', fun _ => trivial⟩) (hK undef rfl)
    · rw [if_pos hw]
      obtain ⟨v, hv, hpv⟩ := hp w c (fun e _ _ => k _)
      refine .inl ?_
      unfold Oper.wp
      unfold Plain at hpv
      split at hpv
      · rename_i heq
        obtain ⟨rfl, rfl⟩ := hpv
        rw [heq]
        exact wpAny_of_calm hC hN hL f _ _ (upd F i fun _ => True) _ (hF.upd (hm undef)) c (fun k' => ⟨k k', fun _ => trivial⟩) (hK _ hv)
      · rename_i heq
        obtain ⟨rfl, rfl⟩ := hpv
        rw [heq]
        exact wpAny_of_calm hC hN hL f _ _ (upd F i fun _ => True) _ (hF.upd (hm undef)) c (fun k' => ⟨k k', fun _ => trivial⟩) (hK _ hv)
      · cases hpv
    · rw [if_pos hw]
      have hpv := hp w c (fun e _ _ => k _)
      refine .inl ?_
      unfold Oper.wp
      unfold Grows at hpv
      split at hpv
      · rename_i heq
        obtain ⟨hb, hv, hg⟩ := hpv
        rw [heq]
        exact wpAny_of_calm hC hN hL f _ _ _ _ (hF.upd (hm _)) (hC _ _ hb c) (fun k' => ⟨hF k' _ _ hb (k k'), fun _ => hg⟩) (hK _ hv)
      · rename_i heq
        obtain ⟨rfl, hc⟩ := hpv
        rw [heq]
        refine hc.mono fun e w'' he => ?_
        obtain ⟨u, rfl, hb, hv, hg⟩ := he
        exact wpAny_of_calm hC hN hL f _ _ _ _ (hF.upd (hm _)) (hC _ _ hb c) (fun k' => ⟨hF k' _ _ hb (k k'), fun _ => hg⟩) (hK _ hv)
      · cases hpv

/-- THE LEXICAL WALK. -/
def wpCalm (P : Program) (ops : Array Oper) (md : Region.Mode) (C : World → Prop) (N : List (Nat × (Value → Prop) × (Value → World → Prop))) (Q : Act → (Nat → World → Prop) → Prop) : List Oper → Nat → Act → (Nat → World → Prop) → Prop
  | [], _, a, F => Q a F
  | o :: l, i, a, F => (∃ V g, Gives P ops md C N i o a F V g ∧ ∀ v, V v → wpCalm P ops md C N Q l (i + 1) (a.put o.dst v) (upd F i (g v)))

theorem wpAnyC_lex {n r : Nat} {Q : Act → (Nat → World → Prop) → Prop} (hsel : Region.noSelect ops = true)
    (hwait : ∀ i < n, ∀ listed, HeadInv md ops n listed → listed.getD i true = false → ∀ t ∈ Region.ready md ops listed, t < n) (hC : Mono C) (hN : MonoN N) :
    ∀ (l : List Oper) (k : Nat) (listed : Array Bool) (a : Act) (F : Nat → World → Prop), (∀ j, j < l.length → l[j]? = ops[k + j]?) → k + l.length = n → HeadInv md ops n listed → MonoF F →
    Region.lexHead md ops r l.length k listed = true → wpCalm P ops md C N Q l k a F →
    wpAnyC P ops md C N n (fun listed' a' F' => Region.seqB md ops r n listed' = true ∧ Q a' F') l.length listed a F
  | [], k, listed, a, F, _, hk, _, _, hB, h => by
    have : k = n := by simpa using hk
    subst this
    exact fun _ => ⟨by simpa [Region.lexHead] using hB, h⟩
  | o :: l, k, listed, a, F, hl, hk, inv, hF, hB, h => by
    have h0 : ops[k]? = some o := by simpa using (hl 0 (by simp)).symm
    simp only [List.length_cons, Region.lexHead, Bool.and_eq_true] at hB
    obtain ⟨⟨hr, hf⟩, hB'⟩ := hB
    have hkn : k < n := by simp only [List.length_cons] at hk; omega
    have hr' : k ∈ Region.ready md ops listed := by simpa using hr
    obtain ⟨V, g, hG, hK⟩ := h
    refine wpAnyC_first h0 (Region.noSelect_spec hsel) (hwait k hkn) hC hN hkn (fun listed' a' F' hL => seqB_ready hL.1) l.length listed a F inv hF (Region.free_spec h0 hf) hr' hG (fun u hu => ?_)
    exact wpAnyC_lex hsel hwait hC hN l (k + 1) _ _ _ (fun j hj => by have := hl (j + 1) (by simp; omega); simpa [Nat.add_assoc, Nat.add_comm 1 j] using this) (by simp only [List.length_cons] at hk; omega) (inv.set hr' hkn) (hF.upd (hG.mono hN u)) hB' (hK u hu)

def noF : Nat → World → Prop := fun _ _ => True
theorem noF_mono : MonoF noF := fun _ _ _ _ _ => trivial

/-- ONE WALK OF THE LEXICAL ORDER, AND BEHIND IT THE TAIL. -/
theorem wp_region_calm_tail {id : Nat} {Q : Exit → Act → World → Prop} {a : Act} {w : World} {l : List Oper} (C : World → Prop) (N : List (Nat × (Value → Prop) × (Value → World → Prop))) (n : Nat) (hm : P.follows .mixedOrders = true) (hB : Region.lexTailB .any l.toArray n = true)
    (hC : Mono C) (hN : MonoN N) (h0 : C w.drew)
    (h : wpCalm P l.toArray .any C N (fun a' F => ∀ w', C w' → (∀ k, F k w') → wpList P l.toArray Q (l.drop n) a' w') (l.take n) 0 a noF) : (Code.region id l.toArray true).wp P Q a w := by
  simp only [Region.lexTailB, Bool.and_eq_true, decide_eq_true_eq] at hB
  obtain ⟨⟨⟨⟨hsel, hn⟩, hs⟩, hc⟩, hlex⟩ := hB
  have hn' : n < l.length := by simpa using hn
  have htl : (l.take n).length = n := by simp; omega
  have hdl : (l.drop n).length = l.toArray.size - n := by simp
  have inv0 : HeadInv .any l.toArray n (Array.replicate l.toArray.size false) :=
    ⟨by simp, fun j oj _ hl => (by rw [getD_replicate_false] at hl; cases hl), fun t _ ht => getD_in (by simpa using ht) (getD_replicate_false _ _)⟩
  have hwait : ∀ i < n, ∀ listed, HeadInv .any l.toArray n listed → listed.getD i true = false → ∀ t ∈ Region.ready .any l.toArray listed, t < n := fun i hi listed inv hun t ht => by
    rcases Nat.lt_or_ge t n with h | h
    · exact h
    · exact absurd ht (tail_waits hs hc hn inv _ i rfl hi hun t h)
  have H := wpAnyC_lex (P := P) (C := C) (N := N) (r := l.toArray.size - n) hsel hwait hC hN (l.take n) 0 _ a noF (fun j hj => by
    have hj' : j < n := by rw [htl] at hj; exact hj
    simp [hj']) (by simpa using htl) inv0 noF_mono (by rw [htl]; exact hlex) h
  refine wp_region_any hm ?_
  have := wpAny_of_calm (Q := Q) (r := l.toArray.size - n) hC hN (fun listed a' F w' hL c k => by
    have := wpAny_of_seq (md := .any) (Q' := Q) (l.drop n) n listed a' w' (fun j => by simp [List.getElem?_drop]) (by rw [hdl]; exact hL.1) (hL.2 w' c k)
    rwa [hdl] at this) _ _ _ _ _ noF_mono h0 (fun _ => trivial) H
  rw [htl, show n + (l.toArray.size - n) = l.toArray.size by omega] at this
  exact this

def lexHead0 (md : Region.Mode) (ops : Array Oper) : Bool := Region.noSelect ops && Region.lexHead md ops 0 ops.size 0 (Array.replicate ops.size false)
/-- ONE WALK OF THE LEXICAL ORDER, of the whole region. -/
theorem wp_region_calm {id : Nat} {Q : Exit → Act → World → Prop} {a : Act} {w : World} {l : List Oper} (C : World → Prop) (N : List (Nat × (Value → Prop) × (Value → World → Prop))) (hm : P.follows .mixedOrders = true) (hB : lexHead0 .any l.toArray = true)
    (hC : Mono C) (hN : MonoN N) (h0 : C w.drew)
    (h : wpCalm P l.toArray .any C N (fun a' F => ∀ w', C w' → (∀ k, F k w') → Q .normal a' w') l 0 a noF) : (Code.region id l.toArray true).wp P Q a w := by
  simp only [lexHead0, Bool.and_eq_true] at hB
  obtain ⟨hsel, hlex⟩ := hB
  have inv0 : HeadInv .any l.toArray l.length (Array.replicate l.toArray.size false) :=
    ⟨by simp, fun j oj _ hl => (by rw [getD_replicate_false] at hl; cases hl), fun t ht ht' => absurd ht' (by simp; omega)⟩
  have hwait : ∀ i < l.length, ∀ listed, HeadInv .any l.toArray l.length listed → listed.getD i true = false → ∀ t ∈ Region.ready .any l.toArray listed, t < l.length := fun i _ listed _ _ t ht => by
    obtain ⟨_, o, ho, _⟩ := mem_ready.1 ht
    have := (Array.getElem?_eq_some_iff.1 ho).1
    simpa using this
  have H := wpAnyC_lex (P := P) (C := C) (N := N) (r := 0) hsel hwait hC hN l 0 _ a noF (fun j _ => by simp) (by simp) inv0 noF_mono (by simpa using hlex) h
  refine wp_region_any hm ?_
  have := wpAny_of_calm (Q := Q) (r := 0) hC hN (fun listed a' F w' hL c k => ⟨by simpa [Region.seqB] using hL.1, hL.2 w' c k⟩) _ _ _ _ _ noF_mono h0 (fun _ => trivial) H
  simpa using this

/-! ### The steps of a walk -/
theorem calm_nil {Q : Act → (Nat → World → Prop) → Prop} {i : Nat} {a : Act} {F : Nat → World → Prop} (h : Q a F) : wpCalm P ops md C N Q [] i a F := h
theorem calm_end {Q : Act → World → Prop} {i : Nat} {a : Act} {F : Nat → World → Prop} (h : ∀ w', C w' → (∀ k, F k w') → Q a w') : wpCalm P ops md C N (fun a' F => ∀ w', C w' → (∀ k, F k w') → Q a' w') [] i a F := h
theorem calm_plain {Q : Act → (Nat → World → Prop) → Prop} {o : Oper} {l : List Oper} {i : Nat} {a : Act} {F : Nat → World → Prop} (hw : Region.wanted o (yielded ops a.tmps) = true) (hn : N.lookup i = none)
    (h : ∃ v, (∀ w, C w → Deps md o F w → (execOp a.eval o).run P w = .ok (.value v) w) ∧ wpCalm P ops md C N Q l (i + 1) (a.put o.dst v) (upd F i (fun _ => True))) : wpCalm P ops md C N Q (o :: l) i a F := by
  obtain ⟨v, h, hk⟩ := h
  exact ⟨fun u => u = v, fun _ _ => True, .inr (.inl ⟨hw, hn, rfl, fun w c d => ⟨v, rfl, by rw [h w c d]; exact ⟨rfl, rfl⟩⟩⟩), fun u hu => by subst hu; exact hk⟩
theorem calm_skip {Q : Act → (Nat → World → Prop) → Prop} {o : Oper} {l : List Oper} {i : Nat} {a : Act} {F : Nat → World → Prop} (hw : Region.wanted o (yielded ops a.tmps) = false)
    (hk : wpCalm P ops md C N Q l (i + 1) (a.put o.dst undef) (upd F i (fun _ => True))) : wpCalm P ops md C N Q (o :: l) i a F :=
  ⟨_, _, .inl ⟨hw, rfl, rfl⟩, fun u hu => by subst hu; exact hk⟩
/-- A call. -/
theorem calm_call {Q : Act → (Nat → World → Prop) → Prop} {o : Oper} {l : List Oper} {i : Nat} {a : Act} {F : Nat → World → Prop} (V : Value → Prop) (g : Value → World → Prop) (hw : Region.wanted o (yielded ops a.tmps) = true) (hn : N.lookup i = some (V, g))
    (h : ∃ f args, (∀ w, C w → Deps md o F w → (execOp a.eval o).run P w = .ok (.enter f args) w) ∧ ∀ w, C w → Deps md o F w → Calls P f args w fun e w'' => ∃ u, e = .returned u ∧ Below w.heap.size w w'' ∧ V u ∧ g u w'')
    (hk : ∀ v, V v → wpCalm P ops md C N Q l (i + 1) (a.put o.dst v) (upd F i (g v))) : wpCalm P ops md C N Q (o :: l) i a F := by
  obtain ⟨f, args, h1, h2⟩ := h
  exact ⟨V, g, .inr (.inr ⟨hw, hn, fun w c d => by rw [h1 w c d]; exact ⟨rfl, h2 w c d⟩⟩), hk⟩
/-- An operation that makes a block. -/
theorem calm_make {Q : Act → (Nat → World → Prop) → Prop} {o : Oper} {l : List Oper} {i : Nat} {a : Act} {F : Nat → World → Prop} (V : Value → Prop) (g : Value → World → Prop) (hw : Region.wanted o (yielded ops a.tmps) = true) (hn : N.lookup i = some (V, g))
    (h : ∀ w, C w → Deps md o F w → ∃ u w', (execOp a.eval o).run P w = .ok (.value u) w' ∧ Below w.heap.size w w' ∧ V u ∧ g u w')
    (hk : ∀ v, V v → wpCalm P ops md C N Q l (i + 1) (a.put o.dst v) (upd F i (g v))) : wpCalm P ops md C N Q (o :: l) i a F :=
  ⟨V, g, .inr (.inr ⟨hw, hn, fun w c d => by
    obtain ⟨u, w', e, h1⟩ := h w c d
    rw [e]; exact h1⟩), hk⟩
/-- What an operation waits for. -/
theorem Deps.get {o : Oper} {F : Nat → World → Prop} {w : World} (h : Deps md o F w) (i : Nat) (hi : (o.after.any fun e => Region.binds md e && e.on == i) = true) : F i w := by
  obtain ⟨e, he, hb⟩ := Array.any_eq_true'.1 hi
  simp only [Bool.and_eq_true, beq_iff_eq] at hb
  have := h e he hb.1
  rwa [hb.2] at this
theorem upd_at {F : Nat → World → Prop} {i : Nat} {g : World → Prop} {w : World} (h : upd F i g i w) : g w := h.2 rfl
theorem upd_on {F : Nat → World → Prop} {i k : Nat} {g : World → Prop} {w : World} (h : upd F i g k w) : F k w := h.1
theorem monoN_of (h : ∀ p ∈ N, ∀ v, Mono (p.2.2 v)) : MonoN N := fun i V g hl v => by
  have : (i, V, g) ∈ N := by
    clear h
    induction N with
    | nil => cases hl
    | cons x xs ih =>
      obtain ⟨k, y⟩ := x
      rw [List.lookup_cons] at hl
      split at hl
      · rename_i he
        have := beq_iff_eq.1 he
        subst this
        cases hl
        exact List.mem_cons_self
      · exact List.mem_cons_of_mem _ (ih hl)
  exact h _ this v
/-- What is told of values alone. -/
def told (l : List (Nat × (Value → Prop))) : List (Nat × (Value → Prop) × (Value → World → Prop)) := l.map fun p => (p.1, p.2, fun _ _ => True)
theorem told_mono (l : List (Nat × (Value → Prop))) : ∀ p ∈ told l, ∀ v, Mono (p.2.2 v) := fun p hp v => by
  obtain ⟨q, _, rfl⟩ := List.mem_map.1 hp
  exact fun _ _ _ h => h
theorem mono_true : Mono (fun _ => True) := fun _ _ _ h => h
theorem mono_led {w : World} {L : List (Nat × Obj)} : Mono (fun W => Below w.heap.size w W ∧ ∀ p ∈ L, W.heap[p.1]? = some p.2) := fun W W' hb h =>
  ⟨h.1.trans (hb.mono h.1.size), fun p hp => by rw [hb.block _ (Array.getElem?_eq_some_iff.1 (h.2 p hp)).1]; exact h.2 p hp⟩
end calm

end Go.Proofs.Ytghiipoeedfkhaa
