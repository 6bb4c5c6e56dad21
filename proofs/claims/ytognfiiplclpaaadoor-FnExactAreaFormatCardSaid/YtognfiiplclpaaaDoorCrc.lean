/-
  Contracts of stepped, l01Crc, both CrcMore and both Crc.
-/
import Derived.Test.YtognfiiplclpaaaDoorProg
import Derived.Test.YtognfiiplclpaaaDoorLaws
import Derived.Test.YtognfiiplclpaaaDoorMathC
import Derived.ProofKit
namespace Go.Proofs.YtognfiiplclpaaaDoor
open Go.ChangeShapes Go.WideShapes Go.ChangeAt Go.RowKit

theorem crcSteps_zero (r : Nat) : crcSteps 0 r = r := rfl
theorem crcSteps_succ (k r : Nat) : crcSteps (k + 1) r = crcStep (crcSteps k r) := rfl

set_option maxRecDepth 100000 in
theorem impl_stepped (r : Nat) (w : World) (h : r < 4294967296) :
    Calls Tryd.prog 96 #[.int .u32 (r : Int)] w fun e w' => e = .returned (.int .u32 (crcSteps 8 r : Nat)) ∧ w = w' := by
  go_enter Tryd.func96, Tryd.ntmps96
  go_wp2
  go_loop [0, 4] (fun x i => ∃ k q : Nat, k ≤ 8 ∧ i = .int .i64 k ∧ x = .int .u32 q ∧ q = crcSteps k r) (fun _ i => 8 - (intOf i).toNat)
  case atStart => exact ⟨0, r, by omega, rfl, rfl, rfl⟩
  case round =>
    obtain ⟨k, q, hk, rfl, rfl, hq⟩ := hrel
    have hq4 : q < 4294967296 := by rw [hq]; exact crcSteps_lt k r h
    have HQ := Lib.hid hq; clear hq
    by_cases hlt : k < 8
    · have hlt' : (k : Int) < 8 := by omega
      have H1 := and_one q hq4
      by_cases ho : q % 2 = 1
      · have H2 := Lib.hid (xor_poly q hq4)
        have H3 := Lib.hid (crcStep_odd q ho)
        rw [ho] at H1; clear ho
        go_wp2
        go_round
        case rel => exact ⟨k + 1, _, by omega, by go_num, by rw [H2.out], by rw [crcSteps_succ, ← HQ.out, H3.out]⟩
        case measure => simp [intOf]; omega
      · have H3 := Lib.hid (crcStep_even q ho)
        have ho' : q % 2 = 0 := by omega
        rw [ho'] at H1; clear ho ho'
        go_wp2
        go_round
        case rel => exact ⟨k + 1, q / 2, by omega, by go_num, by go_num, by rw [crcSteps_succ, ← HQ.out, H3.out]⟩
        case measure => simp [intOf]; omega
    · have hk8 : k = 8 := by omega
      subst hk8
      go_wp2
      go_ret
      exact ⟨by rw [← HQ.out]; rfl, rfl⟩

theorem take_snoc (s : ByteArray) (k : Nat) (h : k < s.size) : s.data.toList.take (k + 1) = s.data.toList.take k ++ [s[k]] := by
  rw [List.take_succ_eq_append_getElem (by simpa using h)]; rfl
theorem crcFold_take (r : Nat) (s : ByteArray) (k : Nat) (h : k < s.size) : crcFold r (s.data.toList.take (k + 1)) = crcSteps 8 (crcFold r (s.data.toList.take k) ^^^ (s[k]).toNat) := by
  rw [take_snoc s k h, crcFold_snoc]; rfl
theorem xor_byte (q : Nat) (b : UInt8) (h : q < 4294967296) : bits .xor .u32 (q : Int) (b.toNat : Int) = ((q ^^^ b.toNat : Nat) : Int) :=
  xor_u32 q b.toNat h (by have := b.toNat_lt; omega)

set_option maxRecDepth 100000 in
theorem spec_crc (c : Nat) (s : ByteArray) (w : World) (h : c < 4294967296) (hs : s.size ≤ maxLen) :
    Calls Tryd.prog 74 #[.int .i64 (c : Int), .string s] w fun e w' => e = .returned (.int .i64 (crcOn c s.data.toList : Nat)) ∧ w = w' := by
  unfold maxLen at hs
  have ht := turn_lt c h
  have HX := Lib.hid (xor_ones c h)
  go_enter Tryd.func74, Tryd.ntmps74
  go_wp2
  go_loop [5, 6] (fun x i => ∃ k q : Nat, k ≤ s.size ∧ i = .int .i64 k ∧ x = .int .u32 q ∧ q = crcFold (turn c) (s.data.toList.take k)) (fun _ i => s.size - (intOf i).toNat)
  case atStart => exact ⟨0, turn c, by omega, rfl, by rw [← HX.out], rfl⟩
  case round =>
    obtain ⟨k, q, hk, rfl, rfl, hq⟩ := hrel
    have hq4 : q < 4294967296 := by rw [hq]; exact crcFold_lt _ _ ht
    by_cases hlt : k < s.size
    · have HF := crcFold_take (turn c) s k hlt
      rw [← hq] at HF
      have HQ := Lib.hid HF; clear hq HF
      have hx4 : q ^^^ s[k].toNat < 4294967296 := Nat.xor_lt_two_pow (n := 32) hq4 (by have := s[k].toNat_lt; omega)
      have hb1 : (s[k].toNat : Int) < 256 := by have := s[k].toNat_lt; omega
      have HB := xor_byte q s[k] hq4
      obtain ⟨x, hx⟩ : ∃ x, x = q ^^^ s[k].toNat := ⟨_, rfl⟩
      rw [← hx] at HB hx4
      have HXX := Lib.hid hx; clear hx
      go_wp2
      go_loop [5, 7] (fun y i => ∃ k q : Nat, k ≤ 8 ∧ i = .int .i64 k ∧ y = .int .u32 q ∧ q = crcSteps k x) (fun _ i => 8 - (intOf i).toNat)
      case atStart => exact ⟨0, x, by omega, rfl, rfl, rfl⟩
      case round =>
        obtain ⟨j, p, hj, rfl, rfl, hp⟩ := hrel
        have hp4 : p < 4294967296 := by rw [hp]; exact crcSteps_lt j x hx4
        have HP := Lib.hid hp; clear hp
        clear HB
        by_cases hlt8 : j < 8
        · have hlt' : (j : Int) < 8 := by omega
          have H1 := and_one p hp4
          by_cases ho : p % 2 = 1
          · have H2 := Lib.hid (xor_poly p hp4)
            have H3 := Lib.hid (crcStep_odd p ho)
            rw [ho] at H1; clear ho
            go_wp2
            go_round
            case rel => exact ⟨j + 1, _, by omega, by go_num, by rw [H2.out], by rw [crcSteps_succ, ← HP.out, H3.out]⟩
            case measure => simp [intOf]; omega
          · have H3 := Lib.hid (crcStep_even p ho)
            have ho' : p % 2 = 0 := by omega
            rw [ho'] at H1; clear ho ho'
            go_wp2
            go_round
            case rel => exact ⟨j + 1, p / 2, by omega, by go_num, by go_num, by rw [crcSteps_succ, ← HP.out, H3.out]⟩
            case measure => simp [intOf]; omega
        · have hj8 : j = 8 := by omega
          subst hj8
          go_wp2
          go_round
          case rel => exact ⟨k + 1, p, by omega, by go_num, rfl, by rw [HQ.out, HP.out, HXX.out]⟩
          case measure => simp [intOf]; omega
    · have hks : k = s.size := by omega
      subst hks
      have H := xor_ones q hq4
      have htq : turn q < 4294967296 := turn_lt q hq4
      have HQ := Lib.hid hq; clear hq
      go_wp2
      go_ret
      have e : s.data.toList.take s.size = s.data.toList := List.take_of_length_le (by simp)
      rw [e] at HQ
      exact ⟨by unfold crcOn; rw [← HQ.out]; rfl, rfl⟩

set_option maxRecDepth 100000 in
theorem impl_crcmore (c : Nat) (s : ByteArray) (w : World) (h : c < 4294967296) (hs : s.size ≤ 8000) :
    Calls Tryd.prog 95 #[.int .i64 (c : Int), .string s] w fun e w' => e = .returned (.int .i64 (crcOn c s.data.toList : Nat)) ∧ w = w' := by
  have hs' : ¬ (8000 < (s.size : Int)) := by omega
  have ht := turn_lt c h
  have hc1 : ¬ ((c : Int) < 0) := by omega
  have hc2 : ¬ (4294967295 < (c : Int)) := by omega
  have HX := Lib.hid (ones_xor c h)
  go_enter Tryd.func95, Tryd.ntmps95
  go_wp2
  go_loop [5, 23] (fun x i => ∃ k q : Nat, k ≤ s.size ∧ i = .int .i64 k ∧ x = .int .u32 q ∧ q = crcFold (turn c) (s.data.toList.take k)) (fun _ i => s.size - (intOf i).toNat)
  case atStart => exact ⟨0, turn c, by omega, rfl, by rw [← HX.out], rfl⟩
  case round =>
    obtain ⟨k, q, hk, rfl, rfl, hq⟩ := hrel
    have hq4 : q < 4294967296 := by rw [hq]; exact crcFold_lt _ _ ht
    by_cases hlt : k < s.size
    · have HF := crcFold_take (turn c) s k hlt
      rw [← hq] at HF
      have hx4 : q ^^^ s[k].toNat < 4294967296 := Nat.xor_lt_two_pow (n := 32) hq4 (by have := s[k].toNat_lt; omega)
      have hb1 : (s[k].toNat : Int) < 256 := by have := s[k].toNat_lt; omega
      have HB := xor_byte q s[k] hq4
      obtain ⟨x, hx⟩ : ∃ x, x = q ^^^ s[k].toNat := ⟨_, rfl⟩
      rw [← hx] at HB hx4 HF
      have HQ := Lib.hid HF; clear hq HF
      clear hx
      go_wp2_with (go_at_call 96; refine (impl_stepped _ _ hx4).mono ?_; rintro e w' ⟨rfl, rfl⟩)
      go_round
      case rel => exact ⟨k + 1, _, by omega, by go_num, rfl, by rw [HQ.out]⟩
      case measure => simp [intOf]; omega
    · have hks : k = s.size := by omega
      subst hks
      have H := ones_xor q hq4
      have htq : turn q < 4294967296 := turn_lt q hq4
      have HQ := Lib.hid hq; clear hq
      go_wp2
      go_ret
      have e : s.data.toList.take s.size = s.data.toList := List.take_of_length_le (by simp)
      rw [e] at HQ
      exact ⟨by unfold crcOn; rw [← HQ.out]; rfl, rfl⟩

theorem impl_crcmore_no (c : Int) (s : ByteArray) (w : World) (hs : s.size ≤ maxLen) (h : 8000 < s.size ∨ c < 0 ∨ 4294967295 < c) :
    Calls Tryd.prog 95 #[.int .i64 c, .string s] w fun e w' => e = .returned (.int .i64 0) ∧ w = w' := by
  unfold maxLen at hs
  by_cases h1 : 8000 < s.size
  · have h1' : 8000 < (s.size : Int) := by omega
    clear h
    go_enter Tryd.func95, Tryd.ntmps95
    go_wp2
    go_ret
    exact ⟨rfl, rfl⟩
  · have h1' : ¬ 8000 < (s.size : Int) := by omega
    by_cases h2 : c < 0
    · clear h
      go_enter Tryd.func95, Tryd.ntmps95
      go_wp2
      go_ret
      exact ⟨rfl, rfl⟩
    · have h3 : 4294967295 < c := by omega
      clear h
      go_enter Tryd.func95, Tryd.ntmps95
      go_wp2
      go_ret
      exact ⟨rfl, rfl⟩

theorem impl_crc (s : ByteArray) (w : World) (hs : s.size ≤ 8000) :
    Calls Tryd.prog 89 #[.string s] w fun e w' => e = .returned (.int .i64 (crcOn 0 s.data.toList : Nat)) ∧ w = w' := by
  go_enter Tryd.func89, Tryd.ntmps89
  go_wp2_with (go_at_call 95; refine (impl_crcmore 0 _ _ (by omega) hs).mono ?_; rintro e w' ⟨rfl, rfl⟩)
  go_ret
  exact ⟨rfl, rfl⟩
theorem impl_crc_no (s : ByteArray) (w : World) (hs : s.size ≤ maxLen) (h : 8000 < s.size) :
    Calls Tryd.prog 89 #[.string s] w fun e w' => e = .returned (.int .i64 0) ∧ w = w' := by
  go_enter Tryd.func89, Tryd.ntmps89
  go_wp2_with (go_at_call 95; refine (impl_crcmore_no 0 _ _ hs (.inl h)).mono ?_; rintro e w' ⟨rfl, rfl⟩)
  go_ret
  exact ⟨rfl, rfl⟩
end Go.Proofs.YtognfiiplclpaaaDoor
