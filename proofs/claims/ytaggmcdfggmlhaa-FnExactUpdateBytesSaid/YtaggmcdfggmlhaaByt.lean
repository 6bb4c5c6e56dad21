/-
  Bytes: clone, join, CRC, seal, numbers, a head.
-/
import Derived.Test.YtaggmcdfggmlhaaProg
import Derived.Test.YtaggmcdfggmlhaaBase1
import Derived.ProofKit
import Derived.Lib.Strings
import Derived.Lib.Walk
import Derived.Lib.BufferWrite
import Derived.Lib.UnsafeStr
import Derived.Laws.MakeOwn
import Derived.Maps.AppendAt
import Derived.Test.YtaggmcdfggmlhaaAid
import Derived.Deep.RegionHeld3
import Derived.Deep.Cut
import Derived.WalkKit
import Derived.Lib.Hide
/-! Contracts of make of bytes and of strings.Clone. -/
namespace Go.Proofs.Ytaggmcdfggmlhaa
open Go.ChangeShapes Go.WideShapes Go.ChangeAt Go.RowKit

theorem infoByte : (Try.prog.info? 5).map (fun i => (i.zero, i.size, i.bytes)) = some (some (.int .u8 0), 1, 1) := by kernel_rfl

theorem ba_empty (s : ByteArray) (h : s.size = 0) : s = ⟨#[]⟩ := by
  apply ByteArray.ext
  exact Array.eq_empty_of_size_eq_zero h

/-- 'make([]byte, n)': what it lays under a name. -/
theorem make_bytes (n : Nat) (h : n ≤ 281474976710656) (N : Int) (hN : N = n) : ∃ M : Array Value, M.size = n ∧ ∀ W : World, (Instr.makeSlice 22 (.int .i64 N) (.int .i64 N)).run Try.prog W = .ok (.slice (some ⟨W.heap.size, 0, none⟩) n n) (W.alloc (.cells M 5)) := by
  subst hN
  obtain ⟨i0, hi, hz0, hz1, hz2⟩ := info_parts infoByte
  refine ⟨madeCells (Value.int .u8 0).cells ((n : Int).toNat * i0.size), by rw [size_madeCells, hz1]; simp, fun W => ?_⟩
  have h := run_make (P := Try.prog) W 22 5 i0 (.int .u8 0) Try.underlying22 hi hz0 .i64 .i64 (n : Int) (n : Int) (by omega) (by omega) (by rw [hz2]; omega) (by omega)
  simpa using h

set_option maxRecDepth 100000 in
theorem lib_clone (s : ByteArray) (w : World) (hlim : s.size ≤ 281474976710656) :
    Calls Try.prog 180 #[.string s] w fun e w' => e = .returned (.string s) ∧ Below w.heap.size w w' := by
  by_cases h0 : s.size = 0
  · obtain rfl := ba_empty s h0
    go_enter Try.func180, Try.ntmps180
    go_wp2
    go_ret
    exact ⟨rfl, Below.refl _ _⟩
  · obtain ⟨M, hMs, hmk⟩ := make_bytes s.size hlim _ rfl
    have hinfo : (Try.prog.info? 5).map (·.size) = some 1 := by kernel_rfl
    have hco : Try.prog.cellsOf 5 = 1 := by kernel_rfl
    have hcp := Lib.run_copy_row_string (P := Try.prog) (w.alloc (.cells M 5)) 22 9 3 5 w.heap.size 0 s.size s.size s M 5 Try.underlying22 hinfo (heap_alloc_new w _) (Nat.le_refl _) (by omega)
    obtain ⟨Y, hY⟩ : ∃ Y, Y = (M.toList.take 0 ++ Lib.byteCells s.data.toList ++ M.toList.drop (0 + s.size)).toArray := ⟨_, rfl⟩
    rw [← hY] at hcp
    have hYl : Y.toList = Lib.byteCells s.data.toList := by
      rw [hY, List.toList_toArray, List.take_zero, List.nil_append, List.drop_of_length_le (by rw [Array.length_toList]; omega), List.append_nil]
    have hYs : Y.size = s.size := by rw [← Array.length_toList, hYl, Lib.byteCells_length, ← Lib.size_eq]
    have hgY : ((w.alloc (.cells M 5)).setRow w.heap.size Y).heap[w.heap.size]? = some (.cells Y 5 (0, 0)) := setRow_heap _ _ M _ 5 (0, 0) (heap_alloc_new w _)
    have hne : s.data.toList ≠ [] := fun e => h0 (by rw [Lib.size_eq, e]; rfl)
    have hUS := Lib.run_unsafeString_row (P := Try.prog) ((w.alloc (.cells M 5)).setRow w.heap.size Y) 156 3 9 5 Try.underlying156 hco w.heap.size Y.size (by unfold World.shape?; rw [hgY]) s.data.toList hne (by rw [← Lib.size_eq]; omega) (by rw [← Lib.size_eq]; omega)
      (fun j x hx => Lib.cells_of_row hgY Y.size j _ (by rw [List.take_of_length_le (by rw [Array.length_toList]; exact Nat.le_refl _), hYl]; simp [Lib.byteCells, hx]))
    rw [← Lib.size_eq] at hUS
    have HY := Lib.hid hYl; have HG := Lib.hid hgY
    clear hY hYl hgY hinfo hco
    go_enter Try.func180, Try.ntmps180
    go_wp2
    go_ret
    have hb1 : Below w.heap.size w (w.alloc (.cells M 5)) := (Below.refl _ w).alloc (Nat.le_refl _) _
    have hb2 : Below w.heap.size (w.alloc (.cells M 5)) ((w.alloc (.cells M 5)).setRow w.heap.size Y) := ⟨rfl, rfl, rfl, by simp, fun k hk => setRow_other _ _ _ _ (by omega)⟩
    exact ⟨rfl, Lib.below_freeze (hb1.trans hb2) (p := ⟨w.heap.size, 0, none⟩) (Nat.le_refl _) _⟩

theorem strings_clone (s : ByteArray) (w : World) (hlim : s.size ≤ 281474976710656) :
    Calls Try.prog 135 #[.string s] w fun e w' => e = .returned (.string s) ∧ Below w.heap.size w w' := by
  go_enter Try.func135, Try.ntmps135
  go_wp2_with (go_at_call 180; refine (lib_clone _ _ hlim).mono ?_; rintro e w' ⟨rfl, hb⟩)
  go_ret
  exact ⟨rfl, ‹_›⟩

end Go.Proofs.Ytaggmcdfggmlhaa

/-! The contract of joined: one text of two. -/
namespace Go.Proofs.Ytaggmcdfggmlhaa
open Go.ChangeShapes Go.WideShapes Go.ChangeAt Go.RowKit

/-- One text of two. -/
def catB (s t : ByteArray) : ByteArray := ⟨(s.data.toList ++ t.data.toList).toArray⟩

/-- A row whose cells are all of a text's bytes, turned into a string. -/
theorem conv_row (w : World) (Y : Array Value) (l : List UInt8) (hY : Y.toList = Lib.byteCells l) (g n c : Nat) (hn : l.length = n) (hg : w.heap[g]? = some (.cells Y 5 (0, 0))) :
    (convert 22 9 (.slice (some ⟨g, 0, none⟩) n c)).run Try.prog w = .ok (.string ⟨l.toArray⟩) w := by
  refine block_string (P := Try.prog) hg 22 5 9 Try.underlying22 Try.underlying5 Try.underlying9 l n c hn ?_
  rw [hY, List.take_of_length_le (by rw [Lib.byteCells_length]; omega)]
  rfl

set_option maxRecDepth 100000 in
theorem impl_joined (s t : ByteArray) (w : World) (hs : s.size ≤ 1048576) (ht : t.size ≤ 1048576) :
    Calls Try.prog 105 #[.string s, .string t] w fun e w' => e = .returned (.string (catB s t)) ∧ Below w.heap.size w w' := by
  have hinfo : (Try.prog.info? 5).map (·.size) = some 1 := by kernel_rfl
  have hsl : s.data.toList.length = s.size := (Lib.size_eq s).symm
  have htl : t.data.toList.length = t.size := (Lib.size_eq t).symm
  by_cases h0 : t.size = 0
  · obtain rfl := ba_empty t h0
    obtain ⟨M, hMs, hmk⟩ := make_bytes s.size (by omega) _ rfl
    have hcp := Lib.run_copy_row_string (P := Try.prog) (w.alloc (.cells M 5)) 22 9 3 5 w.heap.size 0 s.size s.size s M 5 Try.underlying22 hinfo (heap_alloc_new w _) (by omega) (by omega)
    obtain ⟨Y, hY⟩ : ∃ Y, Y = (M.toList.take 0 ++ Lib.byteCells s.data.toList ++ M.toList.drop (0 + s.size)).toArray := ⟨_, rfl⟩
    rw [← hY] at hcp
    have hgY : ((w.alloc (.cells M 5)).setRow w.heap.size Y).heap[w.heap.size]? = some (.cells Y 5 (0, 0)) := setRow_heap _ _ M _ 5 (0, 0) (heap_alloc_new w _)
    have hYl : Y.toList = Lib.byteCells s.data.toList := by
      rw [hY, List.toList_toArray, List.take_zero, List.nil_append, List.drop_of_length_le (by rw [Array.length_toList]; omega), List.append_nil]
    have hb1 : Below w.heap.size w (w.alloc (.cells M 5)) := (Below.refl _ w).alloc (Nat.le_refl _) _
    have hb2 : Below w.heap.size (w.alloc (.cells M 5)) ((w.alloc (.cells M 5)).setRow w.heap.size Y) := ⟨rfl, rfl, rfl, by simp, fun k hk => setRow_other _ _ _ _ (by omega)⟩
    have hcv := conv_row _ Y s.data.toList hYl w.heap.size s.size s.size hsl hgY
    have hc0 := fun W (d : Option Addr) => Lib.run_copy_empty_string (P := Try.prog) W 22 9 3 5 d 0 0 ⟨#[]⟩ Try.underlying22 (by rw [hinfo]; rfl) rfl
    have e : catB s ⟨#[]⟩ = ⟨s.data.toList.toArray⟩ := by simp [catB]
    have HE := Lib.hid e
    have HB1 := Lib.hid hb1; have HB2 := Lib.hid hb2
    clear hY hYl hgY hinfo hsl htl e hb1 hb2 h0 hMs
    go_enter Try.func105, Try.ntmps105
    go_wp2
    go_ret
    exact ⟨by rw [HE.out]; rfl, HB1.out.trans HB2.out⟩
  · obtain ⟨M, hMs, hmk⟩ := make_bytes (s.size + t.size) (by omega) ((s.size : Int) + (t.size : Int)) (by omega)
    have hcp := Lib.run_copy_row_string (P := Try.prog) (w.alloc (.cells M 5)) 22 9 3 5 w.heap.size 0 (s.size + t.size) (s.size + t.size) s M 5 Try.underlying22 hinfo (heap_alloc_new w _) (by omega) (by omega)
    obtain ⟨Y, hY⟩ : ∃ Y, Y = (M.toList.take 0 ++ Lib.byteCells s.data.toList ++ M.toList.drop (0 + s.size)).toArray := ⟨_, rfl⟩
    rw [← hY] at hcp
    have hgY : ((w.alloc (.cells M 5)).setRow w.heap.size Y).heap[w.heap.size]? = some (.cells Y 5 (0, 0)) := setRow_heap _ _ M _ 5 (0, 0) (heap_alloc_new w _)
    have hYs : Y.size = s.size + t.size := by
      rw [hY]
      simp [Lib.byteCells_length, hMs]
    have hYt : Y.toList.take s.size = Lib.byteCells s.data.toList := by
      rw [hY]
      simp only [List.take_zero, List.nil_append]
      rw [List.take_left' (by rw [Lib.byteCells_length, hsl])]
    have hb1 : Below w.heap.size w (w.alloc (.cells M 5)) := (Below.refl _ w).alloc (Nat.le_refl _) _
    have hb2 : Below w.heap.size (w.alloc (.cells M 5)) ((w.alloc (.cells M 5)).setRow w.heap.size Y) := ⟨rfl, rfl, rfl, by simp, fun k hk => setRow_other _ _ _ _ (by omega)⟩
    have hcp2 := Lib.run_copy_row_string (P := Try.prog) ((w.alloc (.cells M 5)).setRow w.heap.size Y) 22 9 3 5 w.heap.size s.size t.size t.size t Y 5 Try.underlying22 hinfo hgY (Nat.le_refl _) (by omega)
    obtain ⟨Z, hZ⟩ : ∃ Z, Z = (Y.toList.take s.size ++ Lib.byteCells t.data.toList ++ Y.toList.drop (s.size + t.size)).toArray := ⟨_, rfl⟩
    rw [← hZ] at hcp2
    have hgZ : (((w.alloc (.cells M 5)).setRow w.heap.size Y).setRow w.heap.size Z).heap[w.heap.size]? = some (.cells Z 5 (0, 0)) := setRow_heap _ _ Y _ 5 (0, 0) hgY
    have hZl : Z.toList = Lib.byteCells (s.data.toList ++ t.data.toList) := by
      rw [hZ, List.toList_toArray, hYt, List.drop_of_length_le (by rw [Array.length_toList]; omega), List.append_nil]
      simp [Lib.byteCells]
    have hcv := conv_row _ Z (s.data.toList ++ t.data.toList) hZl w.heap.size (s.size + t.size) (s.size + t.size) (by rw [List.length_append, hsl, htl]) hgZ
    have hb3 : Below w.heap.size ((w.alloc (.cells M 5)).setRow w.heap.size Y) (((w.alloc (.cells M 5)).setRow w.heap.size Y).setRow w.heap.size Z) := ⟨rfl, rfl, rfl, by simp, fun k hk => setRow_other _ _ _ _ (by omega)⟩
    have HB1 := Lib.hid hb1; have HB2 := Lib.hid hb2; have HB3 := Lib.hid hb3
    have hne : ¬ t = ByteArray.empty := fun e => h0 (by rw [e]; rfl)
    clear hY hYs hYt hgY hinfo hsl htl hb1 hb2 hb3 h0 hMs hZ hZl hgZ
    go_enter Try.func105, Try.ntmps105
    go_wp2
    go_ret
    exact ⟨rfl, (HB1.out.trans HB2.out).trans HB3.out⟩

end Go.Proofs.Ytaggmcdfggmlhaa

/-! Contracts of stepped, l01Crc, both CrcMore and both Crc. -/
namespace Go.Proofs.Ytaggmcdfggmlhaa
open Go.ChangeShapes Go.WideShapes Go.ChangeAt Go.RowKit

theorem crcSteps_zero (r : Nat) : crcSteps 0 r = r := rfl
theorem crcSteps_succ (k r : Nat) : crcSteps (k + 1) r = crcStep (crcSteps k r) := rfl

set_option maxRecDepth 100000 in
theorem impl_stepped (r : Nat) (w : World) (h : r < 4294967296) :
    Calls Try.prog 205 #[.int .u32 (r : Int)] w fun e w' => e = .returned (.int .u32 (crcSteps 8 r : Nat)) ∧ w = w' := by
  go_enter Try.func205, Try.ntmps205
  go_wp2
  go_loop [0, 4] (fun x i => ∃ k q : Nat, k ≤ 8 ∧ i = .int .i64 k ∧ x = .int .u32 q ∧ q = crcSteps k r) (fun _ i => 8 - (intOf i).toNat)
  case atStart => exact ⟨0, r, by omega, rfl, rfl, rfl⟩
  case round =>
    obtain ⟨k, q, hk, rfl, rfl, hq⟩ := hrel
    have hq4 : q < 4294967296 := by rw [hq]; exact crcSteps_lt k r h
    have HQ := Lib.hid hq; clear hq
    by_cases hlt : k < 8
    · have hlt' : (k : Int) < 8 := by omega
      have H1 := and_one q hq4
      by_cases ho : q % 2 = 1
      · have H2 := Lib.hid (xor_poly q hq4)
        have H3 := Lib.hid (crcStep_odd q ho)
        rw [ho] at H1; clear ho
        go_wp2
        go_round
        case rel => exact ⟨k + 1, _, by omega, by go_num, by rw [H2.out], by rw [crcSteps_succ, ← HQ.out, H3.out]⟩
        case measure => simp [intOf]; omega
      · have H3 := Lib.hid (crcStep_even q ho)
        have ho' : q % 2 = 0 := by omega
        rw [ho'] at H1; clear ho ho'
        go_wp2
        go_round
        case rel => exact ⟨k + 1, q / 2, by omega, by go_num, by go_num, by rw [crcSteps_succ, ← HQ.out, H3.out]⟩
        case measure => simp [intOf]; omega
    · have hk8 : k = 8 := by omega
      subst hk8
      go_wp2
      go_ret
      exact ⟨by rw [← HQ.out]; rfl, rfl⟩

theorem take_snoc (s : ByteArray) (k : Nat) (h : k < s.size) : s.data.toList.take (k + 1) = s.data.toList.take k ++ [s[k]] := by
  rw [List.take_succ_eq_append_getElem (by simpa using h)]; rfl
theorem crcFold_take (r : Nat) (s : ByteArray) (k : Nat) (h : k < s.size) : crcFold r (s.data.toList.take (k + 1)) = crcSteps 8 (crcFold r (s.data.toList.take k) ^^^ (s[k]).toNat) := by
  rw [take_snoc s k h, crcFold_snoc]; rfl
theorem xor_byte (q : Nat) (b : UInt8) (h : q < 4294967296) : bits .xor .u32 (q : Int) (b.toNat : Int) = ((q ^^^ b.toNat : Nat) : Int) :=
  xor_u32 q b.toNat h (by have := b.toNat_lt; omega)

set_option maxRecDepth 100000 in
theorem spec_crc (c : Nat) (s : ByteArray) (w : World) (h : c < 4294967296) (hs : s.size ≤ maxLen) :
    Calls Try.prog 165 #[.int .i64 (c : Int), .string s] w fun e w' => e = .returned (.int .i64 (crcOn c s.data.toList : Nat)) ∧ w = w' := by
  unfold maxLen at hs
  have ht := turn_lt c h
  have HX := Lib.hid (xor_ones c h)
  go_enter Try.func165, Try.ntmps165
  go_wp2
  go_loop [5, 6] (fun x i => ∃ k q : Nat, k ≤ s.size ∧ i = .int .i64 k ∧ x = .int .u32 q ∧ q = crcFold (turn c) (s.data.toList.take k)) (fun _ i => s.size - (intOf i).toNat)
  case atStart => exact ⟨0, turn c, by omega, rfl, by rw [← HX.out], rfl⟩
  case round =>
    obtain ⟨k, q, hk, rfl, rfl, hq⟩ := hrel
    have hq4 : q < 4294967296 := by rw [hq]; exact crcFold_lt _ _ ht
    by_cases hlt : k < s.size
    · have HF := crcFold_take (turn c) s k hlt
      rw [← hq] at HF
      have HQ := Lib.hid HF; clear hq HF
      have hx4 : q ^^^ s[k].toNat < 4294967296 := Nat.xor_lt_two_pow (n := 32) hq4 (by have := s[k].toNat_lt; omega)
      have hb1 : (s[k].toNat : Int) < 256 := by have := s[k].toNat_lt; omega
      have HB := xor_byte q s[k] hq4
      obtain ⟨x, hx⟩ : ∃ x, x = q ^^^ s[k].toNat := ⟨_, rfl⟩
      rw [← hx] at HB hx4
      have HXX := Lib.hid hx; clear hx
      go_wp2
      go_loop [5, 7] (fun y i => ∃ k q : Nat, k ≤ 8 ∧ i = .int .i64 k ∧ y = .int .u32 q ∧ q = crcSteps k x) (fun _ i => 8 - (intOf i).toNat)
      case atStart => exact ⟨0, x, by omega, rfl, rfl, rfl⟩
      case round =>
        obtain ⟨j, p, hj, rfl, rfl, hp⟩ := hrel
        have hp4 : p < 4294967296 := by rw [hp]; exact crcSteps_lt j x hx4
        have HP := Lib.hid hp; clear hp
        clear HB
        by_cases hlt8 : j < 8
        · have hlt' : (j : Int) < 8 := by omega
          have H1 := and_one p hp4
          by_cases ho : p % 2 = 1
          · have H2 := Lib.hid (xor_poly p hp4)
            have H3 := Lib.hid (crcStep_odd p ho)
            rw [ho] at H1; clear ho
            go_wp2
            go_round
            case rel => exact ⟨j + 1, _, by omega, by go_num, by rw [H2.out], by rw [crcSteps_succ, ← HP.out, H3.out]⟩
            case measure => simp [intOf]; omega
          · have H3 := Lib.hid (crcStep_even p ho)
            have ho' : p % 2 = 0 := by omega
            rw [ho'] at H1; clear ho ho'
            go_wp2
            go_round
            case rel => exact ⟨j + 1, p / 2, by omega, by go_num, by go_num, by rw [crcSteps_succ, ← HP.out, H3.out]⟩
            case measure => simp [intOf]; omega
        · have hj8 : j = 8 := by omega
          subst hj8
          go_wp2
          go_round
          case rel => exact ⟨k + 1, p, by omega, by go_num, rfl, by rw [HQ.out, HP.out, HXX.out]⟩
          case measure => simp [intOf]; omega
    · have hks : k = s.size := by omega
      subst hks
      have H := xor_ones q hq4
      have htq : turn q < 4294967296 := turn_lt q hq4
      have HQ := Lib.hid hq; clear hq
      go_wp2
      go_ret
      have e : s.data.toList.take s.size = s.data.toList := List.take_of_length_le (by simp)
      rw [e] at HQ
      exact ⟨by unfold crcOn; rw [← HQ.out]; rfl, rfl⟩

set_option maxRecDepth 100000 in
theorem impl_crcmore (c : Nat) (s : ByteArray) (w : World) (h : c < 4294967296) (hs : s.size ≤ 8000) :
    Calls Try.prog 201 #[.int .i64 (c : Int), .string s] w fun e w' => e = .returned (.int .i64 (crcOn c s.data.toList : Nat)) ∧ w = w' := by
  have hs' : ¬ (8000 < (s.size : Int)) := by omega
  have ht := turn_lt c h
  have hc1 : ¬ ((c : Int) < 0) := by omega
  have hc2 : ¬ (4294967295 < (c : Int)) := by omega
  have HX := Lib.hid (ones_xor c h)
  go_enter Try.func201, Try.ntmps201
  go_wp2
  go_loop [5, 23] (fun x i => ∃ k q : Nat, k ≤ s.size ∧ i = .int .i64 k ∧ x = .int .u32 q ∧ q = crcFold (turn c) (s.data.toList.take k)) (fun _ i => s.size - (intOf i).toNat)
  case atStart => exact ⟨0, turn c, by omega, rfl, by rw [← HX.out], rfl⟩
  case round =>
    obtain ⟨k, q, hk, rfl, rfl, hq⟩ := hrel
    have hq4 : q < 4294967296 := by rw [hq]; exact crcFold_lt _ _ ht
    by_cases hlt : k < s.size
    · have HF := crcFold_take (turn c) s k hlt
      rw [← hq] at HF
      have hx4 : q ^^^ s[k].toNat < 4294967296 := Nat.xor_lt_two_pow (n := 32) hq4 (by have := s[k].toNat_lt; omega)
      have hb1 : (s[k].toNat : Int) < 256 := by have := s[k].toNat_lt; omega
      have HB := xor_byte q s[k] hq4
      obtain ⟨x, hx⟩ : ∃ x, x = q ^^^ s[k].toNat := ⟨_, rfl⟩
      rw [← hx] at HB hx4 HF
      have HQ := Lib.hid HF; clear hq HF
      clear hx
      go_wp2_with (go_at_call 205; refine (impl_stepped _ _ hx4).mono ?_; rintro e w' ⟨rfl, rfl⟩)
      go_round
      case rel => exact ⟨k + 1, _, by omega, by go_num, rfl, by rw [HQ.out]⟩
      case measure => simp [intOf]; omega
    · have hks : k = s.size := by omega
      subst hks
      have H := ones_xor q hq4
      have htq : turn q < 4294967296 := turn_lt q hq4
      have HQ := Lib.hid hq; clear hq
      go_wp2
      go_ret
      have e : s.data.toList.take s.size = s.data.toList := List.take_of_length_le (by simp)
      rw [e] at HQ
      exact ⟨by unfold crcOn; rw [← HQ.out]; rfl, rfl⟩

theorem impl_crcmore_no (c : Int) (s : ByteArray) (w : World) (hs : s.size ≤ maxLen) (h : 8000 < s.size ∨ c < 0 ∨ 4294967295 < c) :
    Calls Try.prog 201 #[.int .i64 c, .string s] w fun e w' => e = .returned (.int .i64 0) ∧ w = w' := by
  unfold maxLen at hs
  by_cases h1 : 8000 < s.size
  · have h1' : 8000 < (s.size : Int) := by omega
    clear h
    go_enter Try.func201, Try.ntmps201
    go_wp2
    go_ret
    exact ⟨rfl, rfl⟩
  · have h1' : ¬ 8000 < (s.size : Int) := by omega
    by_cases h2 : c < 0
    · clear h
      go_enter Try.func201, Try.ntmps201
      go_wp2
      go_ret
      exact ⟨rfl, rfl⟩
    · have h3 : 4294967295 < c := by omega
      clear h
      go_enter Try.func201, Try.ntmps201
      go_wp2
      go_ret
      exact ⟨rfl, rfl⟩

theorem impl_crc (s : ByteArray) (w : World) (hs : s.size ≤ 8000) :
    Calls Try.prog 193 #[.string s] w fun e w' => e = .returned (.int .i64 (crcOn 0 s.data.toList : Nat)) ∧ w = w' := by
  go_enter Try.func193, Try.ntmps193
  go_wp2_with (go_at_call 201; refine (impl_crcmore 0 _ _ (by omega) hs).mono ?_; rintro e w' ⟨rfl, rfl⟩)
  go_ret
  exact ⟨rfl, rfl⟩
theorem impl_crc_no (s : ByteArray) (w : World) (hs : s.size ≤ maxLen) (h : 8000 < s.size) :
    Calls Try.prog 193 #[.string s] w fun e w' => e = .returned (.int .i64 0) ∧ w = w' := by
  go_enter Try.func193, Try.ntmps193
  go_wp2_with (go_at_call 201; refine (impl_crcmore_no 0 _ _ hs (.inl h)).mono ?_; rintro e w' ⟨rfl, rfl⟩)
  go_ret
  exact ⟨rfl, rfl⟩
end Go.Proofs.Ytaggmcdfggmlhaa

/-! Contracts of l01Four, sumOf and both Seal. -/
namespace Go.Proofs.Ytaggmcdfggmlhaa
open Go.ChangeShapes Go.WideShapes Go.ChangeAt Go.RowKit

def fourB (c : Nat) : ByteArray := ⟨(four c).toArray⟩
def sumB (s : ByteArray) : ByteArray := fourB (crcOn 0 s.data.toList)
def sealB (s : ByteArray) : ByteArray := catB s (sumB s)

theorem four_cells (c : Nat) (h : c < 4294967296) : (#[.int .u8 ((c : Int) % 256), .int .u8 ((c : Int) / 256 % 256), .int .u8 ((c : Int) / 65536 % 256), .int .u8 ((c : Int) / 16777216)] : Array Value).toList.take 4 = bvals (four c) := by
  have h4 : (c : Int) / 16777216 = ((c / 16777216 % 256 : Nat) : Int) := by omega
  rw [h4]
  unfold four bvals
  simp only [List.map_cons, List.map_nil]
  rw [bval_ofNat _ (by omega), bval_ofNat _ (by omega), bval_ofNat _ (by omega), bval_ofNat _ (by omega)]
  rfl

theorem four_cells' (c : Nat) : (#[.int .u8 ((c : Int) % 256), .int .u8 ((c : Int) / 256 % 256), .int .u8 ((c : Int) / 65536 % 256), .int .u8 ((c : Int) / 16777216 % 256)] : Array Value).toList.take 4 = bvals (four c) := by
  unfold four bvals
  simp only [List.map_cons, List.map_nil]
  rw [bval_ofNat _ (by omega), bval_ofNat _ (by omega), bval_ofNat _ (by omega), bval_ofNat _ (by omega)]
  rfl

theorem spec_four (c : Nat) (w : World) (h : c < 4294967296) :
    Calls Try.prog 164 #[.int .i64 (c : Int)] w fun e w' => e = .returned (.string (fourB c)) ∧ Below w.heap.size w w' := by
  go_enter Try.func164, Try.ntmps164
  have hcv := block_string (P := Try.prog) (heap_alloc_new w (.cells #[.int .u8 ((c : Int) % 256), .int .u8 ((c : Int) / 256 % 256), .int .u8 ((c : Int) / 65536 % 256), .int .u8 ((c : Int) / 16777216)] 5)) 22 5 9 Try.underlying22 Try.underlying5 Try.underlying9 (four c) 4 4 rfl (four_cells c h)
  go_wp2
  go_ret
  exact ⟨rfl, (Below.refl _ _).alloc (Nat.le_refl _) _⟩

theorem impl_sumof (s : ByteArray) (w : World) (hs : s.size ≤ 8000) :
    Calls Try.prog 166 #[.string s] w fun e w' => e = .returned (.string (sumB s)) ∧ Below w.heap.size w w' := by
  have hcv := block_string (P := Try.prog) (heap_alloc_new w (.cells #[.int .u8 ((crcOn 0 s.data.toList : Nat) % 256 : Int), .int .u8 ((crcOn 0 s.data.toList : Nat) / 256 % 256 : Int), .int .u8 ((crcOn 0 s.data.toList : Nat) / 65536 % 256 : Int), .int .u8 ((crcOn 0 s.data.toList : Nat) / 16777216 % 256 : Int)] 210)) 22 5 9 Try.underlying22 Try.underlying5 Try.underlying9 (four (crcOn 0 s.data.toList)) 4 4 rfl (four_cells' _)
  go_enter Try.func166, Try.ntmps166
  go_wp2_with (go_at_call 193; refine (impl_crc _ _ hs).mono ?_; rintro e w' ⟨rfl, rfl⟩)
  refine wp_loop_rounds 5 ?_
  rw [rounds_succ]
  go_wp2
  rw [rounds_succ]
  go_wp2
  rw [rounds_succ]
  go_wp2
  rw [rounds_succ]
  go_wp2
  rw [rounds_succ]
  go_wp2
  go_ret
  exact ⟨rfl, (Below.refl _ _).alloc (Nat.le_refl _) _⟩

theorem fourB_size (c : Nat) : (fourB c).size = 4 := rfl
theorem sumB_size (s : ByteArray) : (sumB s).size = 4 := rfl
theorem append_cat (s t : ByteArray) : s ++ t = catB s t := by
  apply ByteArray.ext
  apply Array.toList_inj.1
  simp [catB]

theorem spec_seal (s : ByteArray) (w : World) (hs : s.size ≤ 7996) :
    Calls Try.prog 102 #[.string s] w fun e w' => e = .returned (.string (sealB s)) ∧ Below w.heap.size w w' := by
  have hs' : ¬ (7996 < (s.size : Int)) := by omega
  have H := Lib.hid (append_cat s (sumB s))
  have hc := crcOn_lt 0 s.data.toList (by omega)
  have hz : (sumB s).size ≤ 4 := Nat.le_refl _
  go_enter Try.func102, Try.ntmps102
  go_wp2_with fail
  refine (spec_crc 0 s _ (by omega) (by unfold maxLen; omega)).mono ?_
  rintro e w1 ⟨rfl, rfl⟩
  go_wp2_with fail
  refine (spec_four _ _ hc).mono ?_
  rintro e w1 ⟨rfl, hb⟩
  rw [show fourB (crcOn 0 s.data.toList) = sumB s from rfl]
  go_wp2
  go_ret
  exact ⟨by unfold sealB; rw [← H.out]; rfl, hb⟩
theorem spec_seal_no (s : ByteArray) (w : World) (hm : s.size ≤ maxLen) (hs : 7996 < s.size) :
    Calls Try.prog 102 #[.string s] w fun e w' => e = .returned (.string ⟨#[]⟩) ∧ w = w' := by
  unfold maxLen at hm
  have hs' : (7996 < (s.size : Int)) := by omega
  go_enter Try.func102, Try.ntmps102
  go_wp2
  go_ret
  exact ⟨rfl, rfl⟩
theorem impl_seal (s : ByteArray) (w : World) (hs : s.size ≤ 7996) :
    Calls Try.prog 104 #[.string s] w fun e w' => e = .returned (.string (sealB s)) ∧ Below w.heap.size w w' := by
  have hs' : ¬ (7996 < (s.size : Int)) := by omega
  go_enter Try.func104, Try.ntmps104
  go_wp2_with fail
  refine (impl_sumof s _ (by omega)).mono ?_
  rintro e w1 ⟨rfl, hb⟩
  go_wp2_with fail
  refine (impl_joined s (sumB s) _ (by omega) (by rw [sumB_size]; omega)).mono ?_
  rintro e w2 ⟨rfl, hb2⟩
  go_wp2
  go_ret
  exact ⟨rfl, hb.trans (hb2.mono hb.size)⟩
theorem impl_seal_no (s : ByteArray) (w : World) (hm : s.size ≤ maxLen) (hs : 7996 < s.size) :
    Calls Try.prog 104 #[.string s] w fun e w' => e = .returned (.string ⟨#[]⟩) ∧ w = w' := by
  unfold maxLen at hm
  have hs' : (7996 < (s.size : Int)) := by omega
  go_enter Try.func104, Try.ntmps104
  go_wp2
  go_ret
  exact ⟨rfl, rfl⟩

end Go.Proofs.Ytaggmcdfggmlhaa

/-! Contracts of l01Fold, folded and both PutNum: the bytes of a number. -/
namespace Go.Proofs.Ytaggmcdfggmlhaa
open Go.ChangeShapes Go.WideShapes Go.ChangeAt Go.RowKit

theorem spec_fold (n : Int) (w : World) (h1 : -9223372036854775808 ≤ n) (h2 : n ≤ 9223372036854775807) :
    Calls Try.prog 161 #[.int .i64 n] w fun e w' => e = .returned (.int .u64 (fold n)) ∧ w = w' := by
  by_cases h : n < 0
  · have H := Lib.hid (fold_neg n h)
    go_enter Try.func161, Try.ntmps161
    go_wp2
    go_ret
    exact ⟨by rw [H.out]; rfl, rfl⟩
  · have H := Lib.hid (fold_pos n (by omega))
    go_enter Try.func161, Try.ntmps161
    go_wp2
    go_ret
    exact ⟨by rw [H.out]; rfl, rfl⟩

theorem impl_fold (n : Int) (w : World) (h1 : -9223372036854775808 ≤ n) (h2 : n ≤ 9223372036854775807) :
    Calls Try.prog 194 #[.int .i64 n] w fun e w' => e = .returned (.int .u64 (fold n)) ∧ w = w' := by
  have H := Lib.hid (fold_bits n h1 h2)
  go_enter Try.func194, Try.ntmps194
  go_wp2
  go_ret
  exact ⟨by rw [← H.out]; rfl, rfl⟩

theorem infoU8 : (Try.prog.info? 5).map (fun i => (i.zero, i.size, i.bytes)) = some (some (.int .u8 0), 1, 1) := by kernel_rfl

set_option maxRecDepth 100000 in
theorem spec_putnum (n : Int) (w : World) (h1 : -9223372036854775808 ≤ n) (h2 : n ≤ 9223372036854775807) :
    Calls Try.prog 100 #[.int .i64 n] w fun e w' => e = .returned (.string ⟨(putNum n).toArray⟩) ∧ Below w.heap.size w w' := by
  have hF := fold_lt n h1 h2
  obtain ⟨i0, hi, hz0, hz1, hz2⟩ := info_parts infoU8
  go_enter Try.func100, Try.ntmps100
  go_wp2_with (go_at_call 161; refine (spec_fold _ _ (by omega) (by omega)).mono ?_; rintro e w' ⟨rfl, rfl⟩)
  go_loopw [3, 4] (fun u v wr => ∃ (uN f : Nat) (l : List UInt8), u = .int .u64 uN ∧ DigsAt (fold n) uN f l ∧ wr.ownsRow w.heap.size 5 1 v l.length (bvals l) ∧ Below w.heap.size w wr) (fun u _ _ => (intOf u).toNat)
  case atStart => exact ⟨fold n, 9, [], rfl, digsAt_start _ hF, World.ownsRow_made _ _ _ (Nat.le_refl _) (by decide) rfl, (Below.refl _ _).alloc (Nat.le_refl _) _⟩
  case round =>
    obtain ⟨uN, f, l, rfl, hD, hown, hb⟩ := hrel
    have hlen := digsAt_len hD
    have hul := digsAt_lt hD
    have hbase := hb.size
    by_cases hu : 128 ≤ uN
    · have HD := Lib.hid hD; clear hD
      have hu' : (128 : Int) ≤ (uN : Int) := by omega
      go_wp2_with (at_builtin; refine wpList_append_own _ rfl _ _ 22 rfl w.heap.size 5 i0 (.int .u8 0) 1 1 Try.underlying22 hi hz0 hz1 hz2 rfl (by decide) _ _ _ rfl (hown.alloc _) ⟨wr.heap.size, 0, none⟩ 1 1 [.int .u8 ((uN : Int) % 128 + 128)] rfl rfl ?c1 ?c2 ?c3 ?c4 ?c5 ?_)
      case c1 => exact (cell_one_new _ _ _)
      case c2 => simp [Value.oneCell']
      case c3 => unfold maxLen; omega
      case c4 => omega
      case c5 => simp; omega
      intro v' w1 hown' hgrow _
      rw [bvals_snoc_hi] at hown'
      go_wp2
      go_roundw
      case rel =>
        obtain ⟨g, rfl, hD'⟩ := digsAt_step HD.out hu
        exact ⟨uN / 128, g, _, by go_num, hD', by simpa using hown', (hb.alloc (by omega) _).grown hgrow (by simp; omega) (fun k hk => (hown.lt k hk).1)⟩
      case measure => simp [intOf]; omega
    · have HD := Lib.hid (digsAt_end hD (by omega)); clear hD
      have hu' : (uN : Int) < 128 := by omega
      go_wp2_with (at_builtin; refine wpList_append_own _ rfl _ _ 22 rfl w.heap.size 5 i0 (.int .u8 0) 1 1 Try.underlying22 hi hz0 hz1 hz2 rfl (by decide) _ _ _ rfl (hown.alloc _) ⟨wr.heap.size, 0, none⟩ 1 1 [.int .u8 (uN : Int)] rfl rfl ?d1 ?d2 ?d3 ?d4 ?d5 ?_)
      case d1 => exact (cell_one_new _ _ _)
      case d2 => simp [Value.oneCell']
      case d3 => unfold maxLen; omega
      case d4 => omega
      case d5 => simp; omega
      intro v' w1 hown' hgrow _
      rw [bvals_snoc l uN (by omega)] at hown'
      have hcv := own_string (P := Try.prog) 22 9 Try.underlying22 Try.underlying5 Try.underlying9 (l := l ++ [UInt8.ofNat uN]) (by simpa using hown')
      go_wp2
      go_ret
      exact ⟨by unfold putNum; rw [HD.out]; rfl, (hb.alloc (by omega) _).grown hgrow (by simp; omega) (fun k hk => (hown.lt k hk).1)⟩

set_option maxRecDepth 100000 in
theorem impl_putnum (n : Int) (w : World) (h1 : -9223372036854775808 ≤ n) (h2 : n ≤ 9223372036854775807) :
    Calls Try.prog 167 #[.int .i64 n] w fun e w' => e = .returned (.string ⟨(putNum n).toArray⟩) ∧ Below w.heap.size w w' := by
  have hF := fold_lt n h1 h2
  go_enter Try.func167, Try.ntmps167
  go_wp2_with (go_at_call 194; refine (impl_fold _ _ (by omega) (by omega)).mono ?_; rintro e w' ⟨rfl, rfl⟩)
  go_loopw [3, 5] (fun u c wr => ∃ (uN f : Nat) (l : List UInt8) (cs : Array Value), u = .int .u64 uN ∧ c = .int .i64 l.length ∧ DigsAt (fold n) uN f l ∧ wr.heap[w.heap.size]? = some (.cells cs 211 (0, 0)) ∧ cs.size = 10 ∧ cs.toList.take l.length = bvals l ∧ Below w.heap.size w wr) (fun u _ _ => (intOf u).toNat)
  case atStart => exact ⟨fold n, 9, [], _, rfl, rfl, digsAt_start _ hF, heap_alloc_new _ _, rfl, rfl, (Below.refl _ _).alloc (Nat.le_refl _) _⟩
  case round =>
    obtain ⟨uN, f, l, cs, rfl, rfl, hD, hblk, hcs, htake, hb⟩ := hrel
    have hlen := digsAt_len hD
    have hul := digsAt_lt hD
    have hbase := hb.size
    obtain ⟨old, hcell⟩ : ∃ v, wr.cell? ⟨w.heap.size, l.length, none⟩ = some v := ⟨_, block_cell hblk l.length (by omega)⟩
    have hfree := block_free hblk l.length
    by_cases hu : 128 ≤ uN
    · have HD := Lib.hid hD; clear hD
      have HC := Lib.hid hcs; clear hcs
      have HT := Lib.hid htake; clear htake
      have HB := Lib.hid hblk; clear hblk
      have hu' : (128 : Int) ≤ (uN : Int) := by omega
      go_wp2
      have e1 : (Value.int .u8 ((bits .and .u64 (uN : Int) 127 + 128) % 256)) = .int .u8 ((uN % 128 + 128 : Nat) : Int) := by
        rw [and127 uN hul]; congr 1; omega
      have E := Lib.hid e1; clear e1
      go_roundw
      case rel =>
        obtain ⟨g, rfl, hD'⟩ := digsAt_step HD.out hu
        rw [E.out]
        refine ⟨uN / 128, g, l ++ [UInt8.ofNat (uN % 128 + 128)], cs.setIfInBounds l.length (.int .u8 ((uN % 128 + 128 : Nat) : Int)), by go_num, by simp, hD', block_set HB.out _ _, by simp [HC.out], ?_, hb.setCell (Nat.le_refl _) _⟩
        have := setrow cs l.length l (uN % 128 + 128) (by omega) (by rw [HC.out]; omega) HT.out
        simpa using this
      case measure => simp [intOf]; omega
    · have HD := Lib.hid (digsAt_end hD (by omega)); clear hD
      have HC := Lib.hid hcs; clear hcs
      have HT := Lib.hid htake; clear htake
      have HB := Lib.hid hblk; clear hblk
      have hu' : (uN : Int) < 128 := by omega
      have hsl := fun W => run_slice_array_to (P := Try.prog) 211 5 10 Try.underlying211 (fun _ => by kernel_rfl) W ⟨w.heap.size, 0, none⟩ ((l.length : Int) + 1) (l.length + 1) (by omega) (by omega)
      have hcv := block_string (P := Try.prog) (block_set HB.out l.length (.int .u8 (uN : Int))) 22 5 9 Try.underlying22 Try.underlying5 Try.underlying9 (l ++ [UInt8.ofNat uN]) (l.length + 1) 10 (by simp) (setrow cs l.length l uN (by omega) (by rw [HC.out]; omega) HT.out)
      go_wp2
      go_ret
      exact ⟨by unfold putNum; rw [HD.out]; rfl, hb.setCell (Nat.le_refl _) _⟩

end Go.Proofs.Ytaggmcdfggmlhaa
