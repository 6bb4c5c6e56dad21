/-
  Contracts of the marks that the exact laws lay into marks.
-/
import Derived.Test.YtaggmcdfggmlhaaMarkC
import Derived.Test.YtaggmcdfggmlhaaMkM
namespace Go.Proofs.Ytaggmcdfggmlhaa
set_option linter.unusedSimpArgs false
set_option linter.unusedVariables false
open Go.ChangeShapes Go.WideShapes Go.ChangeAt Go.RowKit

set_option maxRecDepth 100000 in
set_option maxHeartbeats 4000000 in
theorem mark_marks (v : Value) (L : List Nm) (base k : Nat) (w : World) (hv : Ow w base 113 2 encN v L) (hk : 0 < k) (hk2 : k + 2 * L.length ≤ 100000000) :
    Calls Try.prog 30 #[v, .int .i64 (k : Int)] w (Marked w base 113 2 encN v (marksN k L.length) (k + 2 * L.length)) := by
  obtain ⟨A, c, rfl⟩ := hv.form
  unfold Ow at hv
  have HV := Lib.hid hv; clear hv
  go_enter Try.func30, Try.ntmps30
  go_wp2
  go_loopw [1, 5] (fun x i wr => ∃ (j q : Nat) (xs : List Value), j ≤ L.length ∧ q = k + 2 * j ∧ i = .int .i64 (j : Int) ∧ x = .int .i64 (q : Int) ∧ wr.ownsRow base 113 2 (.slice A L.length c) L.length xs ∧ xs.take (j * 2) = (marksN k j).flatMap encN ∧ w.grownBy wr (Value.slice A L.length c).ownBlock) (fun _ i _ => L.length - (intOf i).toNat)
  case atStart => exact ⟨0, k, _, by omega, by omega, rfl, rfl, HV.out, by simp [marksN], grown_refl _ _⟩
  case round =>
    obtain ⟨j, q, xs, hj, hq, rfl, rfl, ho, ht, hg⟩ := hrel
    have hq1 : q ≤ k + 2 * j := by omega
    have hq2 : 0 < q := by omega
    have HQ := Lib.hid hq; clear hq
    have HO := Lib.hid ho; have HT := Lib.hid ht; have HG := Lib.hid hg
    clear ht hg
    by_cases hlt : j < L.length
    · obtain ⟨g, rfl, _, hgl⟩ := own_form ho (by omega)
      obtain ⟨u0, p0, f0⟩ := own_cell ho (j * 2) (by omega)
      obtain ⟨u1, p1, f1⟩ := own_cell ho (j * 2 + 1) (by omega)
      clear ho
      go_wp2
      go_roundw
      case rel =>
        have hl := HO.out.1
        refine ⟨j + 1, q + 2, _, by omega, by have := HQ.out; omega, by go_num, by go_num, ((HO.out.stored (j * 2) _).1.stored (j * 2 + 1) _).1, ?_, grown_trans (grown_trans HG.out (grown_set _ g (j * 2) _)) (grown_set _ g (j * 2 + 1) _)⟩
        have e1 : (j + 1) * 2 = j * 2 + 1 + 1 := by omega
        rw [e1, list_set_take _ (j * 2 + 1) _ _ (by rw [List.length_set]; omega) (list_set_take xs (j * 2) _ _ (by omega) HT.out), marksN_succ, List.flatMap_append, ← HQ.out]
        simp [encN, mkN]
      case measure => simp [intOf]; omega
    · have hjs : j = L.length := by omega
      subst hjs
      clear ho
      go_wp2
      go_ret
      refine ⟨by rw [HQ.out]; rfl, ?_, HG.out⟩
      have h := HT.out
      rw [List.take_of_length_le (by have := HO.out.1; omega)] at h
      rw [h] at HO
      unfold Ow
      rw [marksN_len]
      exact HO.out

set_option maxRecDepth 100000 in
set_option maxHeartbeats 4000000 in
theorem held_marks (v : Value) (k n : Nat) (w : World) (hv : Sl w w.heap.size 2 encN v (marksN k n)) (hk : 0 < k) (hk2 : k + 2 * n ≤ 100000000) :
    Calls Try.prog 31 #[v, .int .i64 (k : Int)] w (Holds w (k + 2 * n)) := by
  obtain ⟨A, c, rfl⟩ := hv.form
  have HV := Lib.hid hv; clear hv
  have hlen := marksN_len k n
  rw [hlen] at HV ⊢
  have HL := Lib.hid hlen; clear hlen
  go_enter Try.func31, Try.ntmps31
  go_wp2
  go_loop [1, 5] (fun x i => ∃ (j q : Nat), j ≤ n ∧ q = k + 2 * j ∧ i = .int .i64 (j : Int) ∧ x = .int .i64 (q : Int)) (fun _ i => n - (intOf i).toNat)
  case atStart => exact ⟨0, k, by omega, by omega, rfl, rfl⟩
  case round =>
    obtain ⟨j, q, hj, hq, rfl, rfl⟩ := hrel
    have hq1 : q ≤ k + 2 * j := by omega
    by_cases hlt : j < n
    · obtain ⟨ad, c', e', _, c0, c1⟩ := HV.out.two j (by rw [HL.out]; exact hlt)
      rw [HL.out] at e'
      simp only [Value.slice.injEq, true_and] at e'
      obtain ⟨rfl, rfl⟩ := e'
      have hx : (marksN k n)[j]'(by rw [HL.out]; exact hlt) = mkN q := by simp [marksN, hq]
      rw [hx] at c0 c1
      simp only [mkN] at c0 c1
      have HQ := Lib.hid hq; clear hq hx
      have t0 : ((q : Int) != (q : Int)) = false := by simp
      have t1 : (((q + 1 : Nat) : Int) != (q : Int) + 1) = false := by simp
      have t2 : (((q : Int) + 1) != (q : Int) + 1) = false := by simp
      go_wp2
      go_round
      case rel => exact ⟨j + 1, q + 2, by omega, by have := HQ.out; omega, by go_num, by go_num⟩
      case measure => simp [intOf]; omega
    · have hjs : j = n := by omega
      subst hjs
      have HQ := Lib.hid hq; clear hq
      go_wp2
      go_ret
      exact ⟨by rw [HQ.out]; rfl, Below.refl _ _⟩

end Go.Proofs.Ytaggmcdfggmlhaa
