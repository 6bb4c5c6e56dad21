/-
  The contract of the model's GetNum.
-/
import Derived.Test.YthchlfllcnlmjaaGreatDoorProg
import Derived.Test.YthchlfllcnlmjaaGreatDoorBase1
import Derived.ProofKit
namespace Go.Proofs.YthchlfllcnlmjaaGreatDoor
open Go.ChangeShapes Go.WideShapes Go.ChangeAt Go.RowKit


set_option maxRecDepth 100000 in
set_option maxHeartbeats 4000000 in
theorem spec_getnum (s : ByteArray) (a : Int) (w : World) (hm : s.size ≤ maxLen) (ha1 : -9223372036854775808 ≤ a) (ha2 : a ≤ 9223372036854775807) :
    Calls Tryz.prog 88 #[.string s, .int .i64 a] w fun e w' => e = .returned (numOut (getNum s a)) ∧ Below w.heap.size w w' := by
  unfold maxLen at hm
  by_cases h8 : 8000 < s.size
  · have H := Lib.hid (getNum_size (a := a) h8)
    have h8' : 8000 < (s.size : Int) := by omega
    go_enter Tryz.func88, Tryz.ntmps88
    go_wp2
    exact bodyPost_ret (v := numOut (0, 0, 2)) (by simp [results, Tryz.results88, go_sem, numOut]) rfl ⟨by rw [H.out], (Below.refl _ _).alloc (Nat.le_refl _) _⟩
  · by_cases ha : a < 0
    · have H := Lib.hid (getNum_form (show s.size ≤ 8000 by omega) ha)
      have h8' : ¬ 8000 < (s.size : Int) := by omega
      go_enter Tryz.func88, Tryz.ntmps88
      go_wp2
      exact bodyPost_ret (v := numOut (0, 0, 1)) (by simp [results, Tryz.results88, go_sem, numOut]) rfl ⟨by rw [H.out], (Below.refl _ _).alloc (Nat.le_refl _) _⟩
    · have h8' : ¬ 8000 < (s.size : Int) := by omega
      have HB : Hid (∀ c u p : Nat, grpAt s 0 a.toNat 0 = (c, u, p) → c ≠ 0 → getNum s a = (0, 0, (c : Int))) := Lib.hid fun c u p h hc => getNum_bad (by omega) (by omega) h hc
      have HO : Hid (∀ u p : Nat, grpAt s 0 a.toNat 0 = (0, u, p) → getNum s a = (unf u, (p : Int), 0)) := Lib.hid fun u p h => getNum_ok (by omega) (by omega) h
      by_cases hlt : a < s.size
      · obtain ⟨n, rfl⟩ := Int.eq_ofNat_of_zero_le (show 0 ≤ a by omega)
        rw [Int.toNat_natCast] at HB HO
        have hn : n < s.size := by omega
        clear ha hlt ha1 ha2
        go_enter Tryz.func88, Tryz.ntmps88
        go_wp2
        go_loop [5, 6] (fun x i => ∃ k u : Nat, k ≤ 10 ∧ n + k ≤ s.size ∧ i = .int .i64 k ∧ x = .int .u64 u ∧ u < 2 ^ (7 * k) ∧ grpAt s 0 n 0 = grpAt s k (n + k) u) (fun _ i => 10 - (intOf i).toNat)
        case atStart => exact ⟨0, 0, by omega, by omega, rfl, rfl, by omega, rfl⟩
        case round =>
          obtain ⟨k, u, hk, hnk, rfl, rfl, hu, hG⟩ := hrel
          have HU := Lib.hid hu; clear hu
          have HG := Lib.hid hG; clear hG
          by_cases hk10 : k < 10
          · by_cases hp : n + k < s.size
            · have HBE := Lib.hid (byteAt_eq s (n + k) hp)
              have hc256 : (s[n + k].toNat : Int) < 256 := by have := s[n + k].toNat_lt; omega
              by_cases h9 : k = 9 ∧ 1 < s[n + k].toNat
              · obtain ⟨h9a, h9b⟩ := h9
                have h9a' : ((k : Int) == 9) = true := by simp; omega
                have h9b' : 1 < (s[n + k].toNat : Int) := by omega
                have HE : Hid (getNum s n = (0, 0, 3)) := Lib.hid (HB.out 3 0 0 (by rw [HG.out, h9a]; subst h9a; exact grpAt_tenth hp (by rw [HBE.out]; exact h9b)) (by omega))
                clear h9a h9b
                go_wp2
                exact bodyPost_ret (v := numOut (0, 0, 3)) (by simp [results, Tryz.results88, go_sem, numOut]) rfl ⟨by rw [HE.out], (Below.refl _ _).alloc (Nat.le_refl _) _⟩
              · have HP := Lib.hid (put_wrap (show k ≤ 9 by omega) HU.out h9)
                have HL := Lib.hid (put_lt64 (show k ≤ 9 by omega) HU.out h9)
                have H9 : Hid (¬ (k = 9 ∧ 1 < byteAt s (n + k))) := Lib.hid (by rw [HBE.out]; exact h9)
                by_cases hc : s[n + k].toNat < 128
                · have hc' : (s[n + k].toNat : Int) < 128 := by omega
                  by_cases h0 : s[n + k].toNat = 0 ∧ 0 < k
                  · obtain ⟨h0a, h0b⟩ := h0
                    have HE : Hid (getNum s n = (0, 0, 3)) := Lib.hid (HB.out 3 0 0 (by rw [HG.out]; exact grpAt_long (by omega) hp (by rw [HBE.out]; exact h0a) h0b) (by omega))
                    have h0a' : ((s[n + k].toNat : Int) == 0) = true := by simp [h0a]
                    have h0b' : 0 < (k : Int) := by omega
                    have h1n : ¬ 1 < (s[n + k].toNat : Int) := by omega
                    clear h0a h9 hc
                    go_wp2
                    all_goals exact bodyPost_ret (v := numOut (0, 0, 3)) (by simp [results, Tryz.results88, go_sem, numOut]) rfl ⟨by rw [HE.out], (Below.refl _ _).alloc (Nat.le_refl _) _⟩
                  · have HE := Lib.hid (HO.out _ _ (by rw [HG.out]; exact grpAt_last (by omega) hp H9.out (by rw [HBE.out]; exact hc) (by rw [HBE.out]; exact h0)))
                    rw [HBE.out] at HE
                    have hP := HP.out
                    have hL := HL.out
                    generalize u + s[n + k].toNat % 128 * 2 ^ (7 * k) = x at hP hL HE
                    clear HP HL
                    have hcl : (((k : Int) == 9) = true ∧ ¬ 1 < (s[n + k].toNat : Int) ∧ ((s[n + k].toNat : Int) == 0) = false) ∨ (((k : Int) == 9) = false ∧ ((s[n + k].toNat : Int) == 0) = false) ∨ (((k : Int) == 9) = false ∧ ((s[n + k].toNat : Int) == 0) = true ∧ ¬ 0 < (k : Int)) := by
                      simp only [beq_iff_eq, beq_eq_false_iff_ne]
                      omega
                    clear h9 h0 hc
                    by_cases ho : x % 2 = 1
                    · have HF := Lib.hid (unf_odd ho)
                      have ho' : ((x : Int) % 2 == 1) = true := by simp; omega
                      clear ho
                      rcases hcl with ⟨q1, q2, q3⟩ | ⟨q1, q3⟩ | ⟨q1, q2, q3⟩
                      all_goals
                        go_wp2
                        exact bodyPost_ret (v := numOut (unf x, ((n + k + 1 : Nat) : Int), 0)) (by rw [HF.out]; simp [results, Tryz.results88, go_sem, numOut]) rfl ⟨by rw [HE.out], (Below.refl _ _).alloc (Nat.le_refl _) _⟩
                    · have HF := Lib.hid (unf_even ho)
                      have ho' : ((x : Int) % 2 == 1) = false := by simp; omega
                      clear ho
                      rcases hcl with ⟨q1, q2, q3⟩ | ⟨q1, q3⟩ | ⟨q1, q2, q3⟩
                      all_goals
                        go_wp2
                        exact bodyPost_ret (v := numOut (unf x, ((n + k + 1 : Nat) : Int), 0)) (by rw [HF.out]; simp [results, Tryz.results88, go_sem, numOut]) rfl ⟨by rw [HE.out], (Below.refl _ _).alloc (Nat.le_refl _) _⟩
                · have hc' : ¬ (s[n + k].toNat : Int) < 128 := by omega
                  have HM := Lib.hid (grpAt_more (u := u) (show k ≤ 9 by omega) hp H9.out (by rw [HBE.out]; exact hc))
                  rw [HBE.out] at HM
                  have hk9 : ¬ k = 9 := by omega
                  have HU' := Lib.hid (put_lt (c := s[n + k].toNat) HU.out)
                  have hk9' : ((k : Int) == 9) = false := by simp; omega
                  clear h9 hc hk9
                  go_wp2
                  go_round
                  case rel => exact ⟨k + 1, _, by omega, by omega, by go_num, by rw [HP.out], HU'.out, by rw [HG.out, HM.out, Nat.add_assoc]⟩
                  case measure => simp [intOf]; omega
            · have HE : Hid (getNum s n = (0, 0, 4)) := Lib.hid (HB.out 4 0 0 (by rw [HG.out]; exact grpAt_short (by omega) (by omega)) (by omega))
              have hp' : ¬ (n : Int) < (s.size : Int) - k := by omega
              go_wp2
              exact bodyPost_ret (v := numOut (0, 0, 4)) (by simp [results, Tryz.results88, go_sem, numOut]) rfl ⟨by rw [HE.out], (Below.refl _ _).alloc (Nat.le_refl _) _⟩
          · have hk' : k = 10 := by omega
            have HE : Hid (getNum s n = (0, 0, 3)) := Lib.hid (HB.out 3 0 0 (by rw [HG.out, hk']; rfl) (by omega))
            have hk'' : ¬ (k : Int) < 10 := by omega
            clear hk'
            go_wp2
            exact bodyPost_ret (v := numOut (0, 0, 3)) (by simp [results, Tryz.results88, go_sem, numOut]) rfl ⟨by rw [HE.out], (Below.refl _ _).alloc (Nat.le_refl _) _⟩
      · have HE : Hid (getNum s a = (0, 0, 4)) := Lib.hid (HB.out 4 0 0 (grpAt_short (by omega) (by omega)) (by omega))
        have hlt' : (s.size : Int) ≤ a := by omega
        go_enter Tryz.func88, Tryz.ntmps88
        go_wp2
        refine wp_loop_rounds 1 ?_
        rw [rounds_succ]
        go_wp2
        exact bodyPost_ret (v := numOut (0, 0, 4)) (by simp [results, Tryz.results88, go_sem, numOut]) rfl ⟨by rw [HE.out], (Below.refl _ _).alloc (Nat.le_refl _) _⟩

end Go.Proofs.YthchlfllcnlmjaaGreatDoor
