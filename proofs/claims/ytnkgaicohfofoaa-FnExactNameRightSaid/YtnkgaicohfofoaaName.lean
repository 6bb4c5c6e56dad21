/-
  Contracts of both NameRight: is a text a name?
-/
import Derived.Test.YtnkgaicohfofoaaProg
import Derived.Test.YtnkgaicohfofoaaLaws
import Derived.ProofKit
import Derived.WalkLawsBesides
namespace Go.Proofs.Ytnkgaicohfofoaa
open Go.ChangeShapes Go.WideShapes Go.ChangeAt Go.RowKit

/-- May this byte stand at that place of a name? -/
def nameAt (i c : Nat) : Prop := (97 ≤ c ∧ c ≤ 122) ∨ (i ≠ 0 ∧ ((48 ≤ c ∧ c ≤ 57) ∨ c = 95))
def NameP (s : ByteArray) : Prop := 1 ≤ s.size ∧ s.size ≤ 20 ∧ ∀ i (h : i < s.size), nameAt i s[i].toNat
open Classical in
noncomputable def nameB (s : ByteArray) : Bool := decide (NameP s)
open Classical in
theorem nameB_yes {s : ByteArray} (h : NameP s) : nameB s = true := by unfold nameB; exact decide_eq_true h
open Classical in
theorem nameB_no {s : ByteArray} (h : ¬ NameP s) : nameB s = false := by unfold nameB; exact decide_eq_false h
theorem nameB_bad {s : ByteArray} (i : Nat) (h : i < s.size) (hb : ¬ nameAt i s[i].toNat) : nameB s = false := nameB_no fun hn => hb (hn.2.2 i h)
def NameTo (s : ByteArray) (k : Nat) : Prop := ∀ i (h : i < s.size), i < k → nameAt i s[i].toNat
theorem nameTo_zero (s : ByteArray) : NameTo s 0 := fun _ _ h => absurd h (Nat.not_lt_zero _)
theorem nameTo_step {s : ByteArray} {k : Nat} (h : NameTo s k) (hk : k < s.size) (ho : nameAt k s[k].toNat) : NameTo s (k + 1) := fun i hi hlt => by
  rcases Nat.lt_or_ge i k with h' | h'
  · exact h i hi h'
  · obtain rfl : i = k := by omega
    exact ho
theorem ret_bool {a b : Bool} (h : a = b) : Ending.returned (.bool a) = .returned (.bool b) := by rw [h]

set_option maxRecDepth 100000 in
theorem spec_name (s : ByteArray) (w : World) (hs : s.size ≤ maxLen) :
    Calls Try.prog 14 #[.string s] w fun e w' => e = .returned (.bool (nameB s)) ∧ w = w' := by
  unfold maxLen at hs
  by_cases h1 : s.size < 1
  · have H := Lib.hid (nameB_no (s := s) fun hn => by have := hn.1; omega)
    have h1' : (s.size : Int) < 1 := by omega
    go_enter Try.func14, Try.ntmps14
    go_wp2
    go_ret
    exact ⟨ret_bool H.out.symm, rfl⟩
  · by_cases h2 : 20 < s.size
    · have H := Lib.hid (nameB_no (s := s) fun hn => by have := hn.2.1; omega)
      have h1' : ¬ (s.size : Int) < 1 := by omega
      have h2' : 20 < (s.size : Int) := by omega
      go_enter Try.func14, Try.ntmps14
      go_wp2
      go_ret
      exact ⟨ret_bool H.out.symm, rfl⟩
    · have h1' : ¬ (s.size : Int) < 1 := by omega
      have h2' : ¬ 20 < (s.size : Int) := by omega
      go_enter Try.func14, Try.ntmps14
      go_wp2
      go_loop [3] (fun i => ∃ k : Nat, k ≤ s.size ∧ i = .int .i64 k ∧ NameTo s k) (fun i => s.size - (intOf i).toNat)
      case atStart => exact ⟨0, Nat.zero_le _, rfl, nameTo_zero s⟩
      case round =>
        obtain ⟨k, hk, rfl, hT⟩ := hrel
        have HT := Lib.hid hT; clear hT
        by_cases hlt : k < s.size
        · have hc0 : (0 : Int) ≤ (s[k].toNat : Int) := by omega
          have hc1 : (s[k].toNat : Int) < 256 := by have := s[k].toNat_lt; omega
          have hA := Lib.hid (fun h => nameTo_step HT.out hlt h); clear HT
          have hB := Lib.hid (fun h => nameB_bad k hlt h)
          by_cases hk0 : k = 0
          · have hz : (((k : Nat) : Int) == 0) = true := by simp [hk0]
            have HK := Lib.hid hk0; clear hk0
            go_wp2
            all_goals first
              | (go_round
                 case rel => exact ⟨k + 1, by omega, by go_num, hA.out (by clear hA hB; unfold nameAt; have := HK.out; simp at *; omega)⟩
                 case measure => simp [intOf]; omega)
              | (go_ret; exact ⟨ret_bool (hB.out (by clear hA hB; unfold nameAt; have := HK.out; simp at *; omega)).symm, rfl⟩)
          · have hz : (((k : Nat) : Int) == 0) = false := by simp; omega
            have HK := Lib.hid hk0; clear hk0
            go_wp2
            all_goals first
              | (go_round
                 case rel => exact ⟨k + 1, by omega, by go_num, hA.out (by clear hA hB; unfold nameAt; have := HK.out; simp at *; omega)⟩
                 case measure => simp [intOf]; omega)
              | (go_ret; exact ⟨ret_bool (hB.out (by clear hA hB; unfold nameAt; have := HK.out; simp at *; omega)).symm, rfl⟩)
        · go_wp2
          go_ret
          exact ⟨ret_bool (nameB_yes ⟨by omega, by omega, fun i hi => HT.out i hi (by omega)⟩).symm, rfl⟩

def letB (c : Int) : Bool := decide (97 ≤ c ∧ c ≤ 122)
def digB (c : Int) : Bool := decide (48 ≤ c ∧ c ≤ 57)
theorem letB_iff (c : Nat) : letB (c : Int) = true ↔ 97 ≤ c ∧ c ≤ 122 := by unfold letB; rw [decide_eq_true_eq]; omega
theorem digB_iff (c : Nat) : digB (c : Int) = true ↔ 48 ≤ c ∧ c ≤ 57 := by unfold digB; rw [decide_eq_true_eq]; omega

theorem impl_letter (c : Int) (w : World) : Calls Try.prog 28 #[.int .u8 c] w fun e w' => e = .returned (.bool (letB c)) ∧ w = w' := by
  by_cases h : 97 ≤ c
  · by_cases h' : c ≤ 122
    · have H : Hid (letB c = true) := Lib.hid (decide_eq_true ⟨h, h'⟩)
      go_enter Try.func28, Try.ntmps28
      go_wp2
      go_ret
      exact ⟨ret_bool (by rw [H.out]), rfl⟩
    · have H : Hid (letB c = false) := Lib.hid (decide_eq_false fun h => h' h.2)
      go_enter Try.func28, Try.ntmps28
      go_wp2
      go_ret
      exact ⟨ret_bool (by rw [H.out]), rfl⟩
  · have H : Hid (letB c = false) := Lib.hid (decide_eq_false fun h' => h h'.1)
    go_enter Try.func28, Try.ntmps28
    go_wp2
    go_ret
    exact ⟨ret_bool (by rw [H.out]), rfl⟩
theorem impl_digit (c : Int) (w : World) : Calls Try.prog 29 #[.int .u8 c] w fun e w' => e = .returned (.bool (digB c)) ∧ w = w' := by
  by_cases h : 48 ≤ c
  · by_cases h' : c ≤ 57
    · have H : Hid (digB c = true) := Lib.hid (decide_eq_true ⟨h, h'⟩)
      go_enter Try.func29, Try.ntmps29
      go_wp2
      go_ret
      exact ⟨ret_bool (by rw [H.out]), rfl⟩
    · have H : Hid (digB c = false) := Lib.hid (decide_eq_false fun h => h' h.2)
      go_enter Try.func29, Try.ntmps29
      go_wp2
      go_ret
      exact ⟨ret_bool (by rw [H.out]), rfl⟩
  · have H : Hid (digB c = false) := Lib.hid (decide_eq_false fun h' => h h'.1)
    go_enter Try.func29, Try.ntmps29
    go_wp2
    go_ret
    exact ⟨ret_bool (by rw [H.out]), rfl⟩

set_option maxRecDepth 100000 in
theorem impl_name (s : ByteArray) (w : World) (hs : s.size ≤ maxLen) :
    Calls Try.prog 15 #[.string s] w fun e w' => e = .returned (.bool (nameB s)) ∧ w = w' := by
  unfold maxLen at hs
  by_cases h1 : s.size < 1
  · have H := Lib.hid (nameB_no (s := s) fun hn => by have := hn.1; omega)
    have h1' : (s.size : Int) < 1 := by omega
    go_enter Try.func15, Try.ntmps15
    go_wp2
    go_ret
    exact ⟨ret_bool H.out.symm, rfl⟩
  · by_cases h2 : 20 < s.size
    · have H := Lib.hid (nameB_no (s := s) fun hn => by have := hn.2.1; omega)
      have h1' : ¬ (s.size : Int) < 1 := by omega
      have h2' : 20 < (s.size : Int) := by omega
      go_enter Try.func15, Try.ntmps15
      go_wp2
      go_ret
      exact ⟨ret_bool H.out.symm, rfl⟩
    · have h1' : ¬ (s.size : Int) < 1 := by omega
      have h2' : ¬ 20 < (s.size : Int) := by omega
      have h0 : 0 < s.size := by omega
      cases hL : letB (s[0].toNat : Int) with
      | false =>
        have HB := Lib.hid (nameB_bad 0 h0 (fun h => by rcases h with h | h; exact absurd ((letB_iff _).2 h) (by simp [hL]); exact h.1 rfl))
        go_enter Try.func15, Try.ntmps15
        go_wp2_with (go_at_call 28; refine (impl_letter _ _).mono ?_; rintro e w' ⟨rfl, rfl⟩)
        go_ret
        exact ⟨ret_bool HB.out.symm, rfl⟩
      | true =>
        go_enter Try.func15, Try.ntmps15
        go_wp2_with (go_at_call 28; refine (impl_letter _ _).mono ?_; rintro e w' ⟨rfl, rfl⟩)
        have HL := Lib.hid ((letB_iff _).1 hL); clear hL
        go_loop [20] (fun i => ∃ k : Nat, k ≤ s.size ∧ i = .int .i64 k ∧ NameTo s k) (fun i => s.size - (intOf i).toNat)
        case atStart => exact ⟨0, Nat.zero_le _, rfl, nameTo_zero s⟩
        case round =>
          obtain ⟨k, hk, rfl, hT⟩ := hrel
          have HT := Lib.hid hT; clear hT
          by_cases hlt : k < s.size
          · have hA := Lib.hid (fun h => nameTo_step HT.out hlt h); clear HT
            have hB := Lib.hid (fun h => nameB_bad k hlt h)
            have HK : Hid (k = 0 → letB (s[k].toNat : Int) = true) := Lib.hid fun h => by subst h; exact (letB_iff _).2 HL.out
            cases hL : letB (s[k].toNat : Int) with
            | true =>
              have HL' := Lib.hid ((letB_iff _).1 hL)
              go_wp2_with (go_at_call 28; refine (impl_letter _ _).mono ?_; rintro e w' ⟨rfl, rfl⟩)
              go_round
              case rel => exact ⟨k + 1, by omega, by go_num, hA.out (.inl HL'.out)⟩
              case measure => simp [intOf]; omega
            | false =>
              have HL' : Hid (¬ (97 ≤ s[k].toNat ∧ s[k].toNat ≤ 122)) := Lib.hid fun h => absurd ((letB_iff _).2 h) (by simp [hL])
              have HZ : Hid (k ≠ 0) := Lib.hid fun h => absurd (HK.out h) (by simp [hL])
              cases hD : digB (s[k].toNat : Int) with
              | true =>
                have HD' := Lib.hid ((digB_iff _).1 hD)
                go_wp2_with (first | (go_at_call 28; refine (impl_letter _ _).mono ?_; rintro e w' ⟨rfl, rfl⟩) | (go_at_call 29; refine (impl_digit _ _).mono ?_; rintro e w' ⟨rfl, rfl⟩))
                go_round
                case rel => exact ⟨k + 1, by omega, by go_num, hA.out (.inr ⟨HZ.out, .inl HD'.out⟩)⟩
                case measure => simp [intOf]; omega
              | false =>
                have HD' : Hid (¬ (48 ≤ s[k].toNat ∧ s[k].toNat ≤ 57)) := Lib.hid fun h => absurd ((digB_iff _).2 h) (by simp [hD])
                cases hU : ((s[k].toNat : Int) != 95) with
                | true =>
                  have HU : Hid (s[k].toNat ≠ 95) := Lib.hid (by simp at hU; omega)
                  go_wp2_with (first | (go_at_call 28; refine (impl_letter _ _).mono ?_; rintro e w' ⟨rfl, rfl⟩) | (go_at_call 29; refine (impl_digit _ _).mono ?_; rintro e w' ⟨rfl, rfl⟩))
                  go_ret
                  exact ⟨ret_bool (hB.out (by have h1 := HL'.out; have h2 := HD'.out; have h3 := HU.out; clear hA hB; unfold nameAt; omega)).symm, rfl⟩
                | false =>
                  have HU : Hid (s[k].toNat = 95) := Lib.hid (by simp at hU; omega)
                  go_wp2_with (first | (go_at_call 28; refine (impl_letter _ _).mono ?_; rintro e w' ⟨rfl, rfl⟩) | (go_at_call 29; refine (impl_digit _ _).mono ?_; rintro e w' ⟨rfl, rfl⟩))
                  go_round
                  case rel => exact ⟨k + 1, by omega, by go_num, hA.out (.inr ⟨HZ.out, .inr HU.out⟩)⟩
                  case measure => simp [intOf]; omega
          · go_wp2
            go_ret
            exact ⟨ret_bool (nameB_yes ⟨by omega, by omega, fun i hi => HT.out i hi (by omega)⟩).symm, rfl⟩

end Go.Proofs.Ytnkgaicohfofoaa
