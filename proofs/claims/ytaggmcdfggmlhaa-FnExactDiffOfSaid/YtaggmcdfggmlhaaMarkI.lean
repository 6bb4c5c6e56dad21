/-
  Contracts of the marks that the exact laws lay into items and names.
-/
import Derived.Test.YtaggmcdfggmlhaaMarkT
import Derived.Test.YtaggmcdfggmlhaaToDoc
import Derived.Test.YtaggmcdfggmlhaaSzDoc
import Derived.Test.YtaggmcdfggmlhaaReady
namespace Go.Proofs.Ytaggmcdfggmlhaa
set_option linter.unusedSimpArgs false
set_option linter.unusedVariables false
open Go.ChangeShapes Go.WideShapes Go.ChangeAt Go.RowKit

def mkN (q : Nat) : Nm := ⟨(q : Int), ((q + 1 : Nat) : Int)⟩
def mkM (q : Nat) : Im := ⟨mkN q, mkN (q + 2), mkN (q + 4), mk (q + 6), decide ((q + 7) % 3 = 0)⟩
def marksN (k n : Nat) : List Nm := (List.range n).map fun i => mkN (k + 2 * i)
def marksM (k n : Nat) : List Im := (List.range n).map fun i => mkM (k + 8 * i)
theorem marksN_succ (k n : Nat) : marksN k (n + 1) = marksN k n ++ [mkN (k + 2 * n)] := by simp [marksN, List.range_succ]
theorem marksM_succ (k n : Nat) : marksM k (n + 1) = marksM k n ++ [mkM (k + 8 * n)] := by simp [marksM, List.range_succ]
theorem marksN_len (k n : Nat) : (marksN k n).length = n := by simp [marksN]
theorem marksM_len (k n : Nat) : (marksM k n).length = n := by simp [marksM]
theorem list_take_eight (xs ys : List Value) (k : Nat) (a b c d e f g h : Value) (hk : k * 8 + 7 < xs.length) (ht : xs.take (k * 8) = ys) :
    ((((((((xs.set (k * 8) a).set (k * 8 + 1) b).set (k * 8 + 2) c).set (k * 8 + 3) d).set (k * 8 + 4) e).set (k * 8 + 5) f).set (k * 8 + 6) g).set (k * 8 + 7) h).take ((k + 1) * 8) = ys ++ [a, b, c, d, e, f, g, h] := by
  have e1 : (k + 1) * 8 = k * 8 + 7 + 1 := by omega
  rw [e1]
  have h0 := list_set_take xs (k * 8) ys a (by omega) ht
  have h1 := list_set_take _ (k * 8 + 1) _ b (by simp only [List.length_set]; omega) h0
  have h2 := list_set_take _ (k * 8 + 2) _ c (by simp only [List.length_set]; omega) h1
  have h3 := list_set_take _ (k * 8 + 3) _ d (by simp only [List.length_set]; omega) h2
  have h4 := list_set_take _ (k * 8 + 4) _ e (by simp only [List.length_set]; omega) h3
  have h5 := list_set_take _ (k * 8 + 5) _ f (by simp only [List.length_set]; omega) h4
  have h6 := list_set_take _ (k * 8 + 6) _ g (by simp only [List.length_set]; omega) h5
  have h7 := list_set_take _ (k * 8 + 7) _ h (by simp only [List.length_set]; omega) h6
  rw [h7]
  simp

set_option maxRecDepth 100000 in
set_option maxHeartbeats 4000000 in
theorem mark_items (v : Value) (L : List Im) (base k : Nat) (w : World) (hv : Ow w base 91 8 encM v L) (hk : 0 < k) (hk2 : k + 8 * L.length ≤ 100000000) :
    Calls Try.prog 83 #[v, .int .i64 (k : Int)] w (Marked w base 91 8 encM v (marksM k L.length) (k + 8 * L.length)) := by
  obtain ⟨A, c, rfl⟩ := hv.form
  unfold Ow at hv
  have HV := Lib.hid hv; clear hv
  go_enter Try.func83, Try.ntmps83
  go_wp2
  go_loopw [1, 5] (fun x i wr => ∃ (j q : Nat) (xs : List Value), j ≤ L.length ∧ q = k + 8 * j ∧ i = .int .i64 (j : Int) ∧ x = .int .i64 (q : Int) ∧ wr.ownsRow base 91 8 (.slice A L.length c) L.length xs ∧ xs.take (j * 8) = (marksM k j).flatMap encM ∧ w.grownBy wr (Value.slice A L.length c).ownBlock) (fun _ i _ => L.length - (intOf i).toNat)
  case atStart => exact ⟨0, k, _, by omega, by omega, rfl, rfl, HV.out, by simp [marksM], grown_refl _ _⟩
  case round =>
    obtain ⟨j, q, xs, hj, hq, rfl, rfl, ho, ht, hg⟩ := hrel
    have hq1 : q ≤ k + 8 * j := by omega
    have hq2 : 0 < q := by omega
    have HQ := Lib.hid hq; clear hq
    have HO := Lib.hid ho; have HT := Lib.hid ht; have HG := Lib.hid hg
    clear ht hg
    by_cases hlt : j < L.length
    · obtain ⟨g, rfl, _, hgl⟩ := own_form ho (by omega)
      obtain ⟨u0, p0, f0⟩ := own_cell ho (j * 8) (by omega)
      obtain ⟨u1, p1, f1⟩ := own_cell ho (j * 8 + 1) (by omega)
      obtain ⟨u2, p2, f2⟩ := own_cell ho (j * 8 + 2) (by omega)
      obtain ⟨u3, p3, f3⟩ := own_cell ho (j * 8 + 3) (by omega)
      obtain ⟨u4, p4, f4⟩ := own_cell ho (j * 8 + 4) (by omega)
      obtain ⟨u5, p5, f5⟩ := own_cell ho (j * 8 + 5) (by omega)
      clear ho
      go_wp2_with fail
      refine (mark_textI _ (q + 6) _ (by omega) (by omega) (by omega)).mono ?_
      rintro e w1 ⟨rfl, hb1⟩
      have HO1 := Lib.hid (own_lift ((((((HO.out.stored (j * 8) _).1.stored (j * 8 + 1) _).1.stored (j * 8 + 2) _).1.stored (j * 8 + 3) _).1.stored (j * 8 + 4) _).1.stored (j * 8 + 5) _).1 hb1)
      have HB1 := Lib.hid hb1; clear hb1 p0 p1 p2 p3 p4 p5 f0 f1 f2 f3 f4 f5
      obtain ⟨u6, p6, f6⟩ := own_cell HO1.out (j * 8 + 6) (by omega)
      obtain ⟨u7, p7, f7⟩ := own_cell HO1.out (j * 8 + 7) (by omega)
      have h3 : (((q : Int) + 7) % 3 == 0) = decide ((q + 7) % 3 = 0) := by rw [Bool.eq_iff_iff]; simp; omega
      go_wp2
      go_roundw
      case rel =>
        have hl := HO.out.1
        refine ⟨j + 1, q + 8, _, by omega, by have := HQ.out; omega, by go_num, by go_num, ((HO1.out.stored (j * 8 + 6) _).1.stored (j * 8 + 7) _).1, ?_, grown_trans (grown_trans (grown_trans (grown_trans (grown_trans (grown_trans (grown_trans (grown_trans (grown_trans HG.out (grown_set _ g (j * 8) _)) (grown_set _ g (j * 8 + 1) _)) (grown_set _ g (j * 8 + 2) _)) (grown_set _ g (j * 8 + 3) _)) (grown_set _ g (j * 8 + 4) _)) (grown_set _ g (j * 8 + 5) _)) (grown_below HB1.out _)) (grown_set _ g (j * 8 + 6) _)) (grown_set _ g (j * 8 + 7) _)⟩
        rw [list_take_eight xs _ j _ _ _ _ _ _ _ _ (by omega) HT.out, marksM_succ, List.flatMap_append, ← HQ.out]
        simp [encM, mkM, mkN]
        refine ⟨by omega, by omega, ?_⟩
        rw [Bool.eq_iff_iff]
        simp
        omega
      case measure => simp [intOf]; omega
    · have hjs : j = L.length := by omega
      subst hjs
      clear ho
      go_wp2
      go_ret
      refine ⟨by rw [HQ.out]; rfl, ?_, HG.out⟩
      have h := HT.out
      rw [List.take_of_length_le (by have := HO.out.1; omega)] at h
      rw [h] at HO
      unfold Ow
      rw [marksM_len]
      exact HO.out

set_option maxRecDepth 100000 in
set_option maxHeartbeats 4000000 in
theorem mark_ids (v : Value) (L : List Nm) (base k : Nat) (w : World) (hv : Ow w base 89 2 encN v L) (hk : 0 < k) (hk2 : k + 2 * L.length ≤ 100000000) :
    Calls Try.prog 84 #[v, .int .i64 (k : Int)] w (Marked w base 89 2 encN v (marksN k L.length) (k + 2 * L.length)) := by
  obtain ⟨A, c, rfl⟩ := hv.form
  unfold Ow at hv
  have HV := Lib.hid hv; clear hv
  go_enter Try.func84, Try.ntmps84
  go_wp2
  go_loopw [1, 5] (fun x i wr => ∃ (j q : Nat) (xs : List Value), j ≤ L.length ∧ q = k + 2 * j ∧ i = .int .i64 (j : Int) ∧ x = .int .i64 (q : Int) ∧ wr.ownsRow base 89 2 (.slice A L.length c) L.length xs ∧ xs.take (j * 2) = (marksN k j).flatMap encN ∧ w.grownBy wr (Value.slice A L.length c).ownBlock) (fun _ i _ => L.length - (intOf i).toNat)
  case atStart => exact ⟨0, k, _, by omega, by omega, rfl, rfl, HV.out, by simp [marksN], grown_refl _ _⟩
  case round =>
    obtain ⟨j, q, xs, hj, hq, rfl, rfl, ho, ht, hg⟩ := hrel
    have hq1 : q ≤ k + 2 * j := by omega
    have hq2 : 0 < q := by omega
    have HQ := Lib.hid hq; clear hq
    have HO := Lib.hid ho; have HT := Lib.hid ht; have HG := Lib.hid hg
    clear ht hg
    by_cases hlt : j < L.length
    · obtain ⟨g, rfl, _, hgl⟩ := own_form ho (by omega)
      obtain ⟨u0, p0, f0⟩ := own_cell ho (j * 2) (by omega)
      obtain ⟨u1, p1, f1⟩ := own_cell ho (j * 2 + 1) (by omega)
      clear ho
      go_wp2
      go_roundw
      case rel =>
        have hl := HO.out.1
        refine ⟨j + 1, q + 2, _, by omega, by have := HQ.out; omega, by go_num, by go_num, ((HO.out.stored (j * 2) _).1.stored (j * 2 + 1) _).1, ?_, grown_trans (grown_trans HG.out (grown_set _ g (j * 2) _)) (grown_set _ g (j * 2 + 1) _)⟩
        have e1 : (j + 1) * 2 = j * 2 + 1 + 1 := by omega
        rw [e1, list_set_take _ (j * 2 + 1) _ _ (by rw [List.length_set]; omega) (list_set_take xs (j * 2) _ _ (by omega) HT.out), marksN_succ, List.flatMap_append, ← HQ.out]
        simp [encN, mkN]
      case measure => simp [intOf]; omega
    · have hjs : j = L.length := by omega
      subst hjs
      clear ho
      go_wp2
      go_ret
      refine ⟨by rw [HQ.out]; rfl, ?_, HG.out⟩
      have h := HT.out
      rw [List.take_of_length_le (by have := HO.out.1; omega)] at h
      rw [h] at HO
      unfold Ow
      rw [marksN_len]
      exact HO.out

set_option maxRecDepth 100000 in
set_option maxHeartbeats 4000000 in
theorem held_ids (v : Value) (k n : Nat) (w : World) (hv : Sl w w.heap.size 2 encN v (marksN k n)) (hk : 0 < k) (hk2 : k + 2 * n ≤ 100000000) :
    Calls Try.prog 99 #[v, .int .i64 (k : Int)] w (Holds w (k + 2 * n)) := by
  obtain ⟨A, c, rfl⟩ := hv.form
  have HV := Lib.hid hv; clear hv
  have hlen := marksN_len k n
  rw [hlen] at HV ⊢
  have HL := Lib.hid hlen; clear hlen
  go_enter Try.func99, Try.ntmps99
  go_wp2
  go_loop [1, 5] (fun x i => ∃ (j q : Nat), j ≤ n ∧ q = k + 2 * j ∧ i = .int .i64 (j : Int) ∧ x = .int .i64 (q : Int)) (fun _ i => n - (intOf i).toNat)
  case atStart => exact ⟨0, k, by omega, by omega, rfl, rfl⟩
  case round =>
    obtain ⟨j, q, hj, hq, rfl, rfl⟩ := hrel
    have hq1 : q ≤ k + 2 * j := by omega
    by_cases hlt : j < n
    · obtain ⟨ad, c', e', _, c0, c1⟩ := HV.out.two j (by rw [HL.out]; exact hlt)
      rw [HL.out] at e'
      simp only [Value.slice.injEq, true_and] at e'
      obtain ⟨rfl, rfl⟩ := e'
      have hx : (marksN k n)[j]'(by rw [HL.out]; exact hlt) = mkN q := by simp [marksN, hq]
      rw [hx] at c0 c1
      simp only [mkN] at c0 c1
      have HQ := Lib.hid hq; clear hq hx
      have t0 : ((q : Int) != (q : Int)) = false := by simp
      have t1 : (((q + 1 : Nat) : Int) != (q : Int) + 1) = false := by simp
      have t2 : (((q : Int) + 1) != (q : Int) + 1) = false := by simp
      go_wp2
      go_round
      case rel => exact ⟨j + 1, q + 2, by omega, by have := HQ.out; omega, by go_num, by go_num⟩
      case measure => simp [intOf]; omega
    · have hjs : j = n := by omega
      subst hjs
      have HQ := Lib.hid hq; clear hq
      go_wp2
      go_ret
      exact ⟨by rw [HQ.out]; rfl, Below.refl _ _⟩

set_option maxRecDepth 100000 in
set_option maxHeartbeats 4000000 in
theorem held_items (v : Value) (k n : Nat) (w : World) (hv : Sl w w.heap.size 8 encM v (marksM k n)) (hk : 0 < k) (hk2 : k + 8 * n ≤ 100000000) :
    Calls Try.prog 98 #[v, .int .i64 (k : Int)] w (Holds w (k + 8 * n)) := by
  obtain ⟨A, c, rfl⟩ := hv.form
  have HV := Lib.hid hv; clear hv
  have hlen := marksM_len k n
  rw [hlen] at HV ⊢
  have HLN := Lib.hid hlen; clear hlen
  go_enter Try.func98, Try.ntmps98
  go_wp2
  go_loopw [1, 5] (fun x i wr => ∃ (j q : Nat), j ≤ n ∧ q = k + 8 * j ∧ i = .int .i64 (j : Int) ∧ x = .int .i64 (q : Int) ∧ Below w.heap.size w wr) (fun _ i _ => n - (intOf i).toNat)
  case atStart => exact ⟨0, k, by omega, by omega, rfl, rfl, Below.refl _ _⟩
  case round =>
    obtain ⟨j, q, hj, hq, rfl, rfl, hb⟩ := hrel
    have hq1 : q ≤ k + 8 * j := by omega
    have hq2 : 0 < q := by omega
    have HL := Lib.hid (Lg.of hb); clear hb
    by_cases hlt : j < n
    · obtain ⟨ad, c', e', -, -, -, -, -, -, -, -, -⟩ := (HV.out.below HL.out.bel).item j (by rw [HLN.out]; exact hlt)
      rw [HLN.out] at e'
      simp only [Value.slice.injEq, true_and] at e'
      obtain ⟨rfl, rfl⟩ := e'
      have hx : (marksM k n)[j]'(by rw [HLN.out]; exact hlt) = mkM q := by simp [marksM, hq]
      have HVI := Lib.hid (fun W (hb : Below w.heap.size w W) => (HV.out.below hb).item j (by rw [HLN.out]; exact hlt))
      rw [hx, HLN.out] at HVI
      have HQ := Lib.hid hq; clear hq hx
      obtain ⟨a2, c2, e2, -, c0, c1, c2', c3, c4, c5, c6, c7⟩ := HVI.out _ HL.out.bel
      simp only [Value.slice.injEq, true_and] at e2
      obtain ⟨e3, e4⟩ := e2
      cases e3; clear e4
      simp only [mkM, mkN] at c0 c1 c2' c3 c4 c5 c6 c7
      have t0 : ((q : Int) != (q : Int)) = false := by simp
      have t1 : (((q + 1 : Nat) : Int) != (q : Int) + 1) = false := by simp
      have t2 : (((q + 2 : Nat) : Int) != (q : Int) + 1 + 1) = false := by simp; omega
      have t3 : (((q + 2 + 1 : Nat) : Int) != (q : Int) + 1 + 1 + 1) = false := by simp; omega
      have t4 : (((q + 4 : Nat) : Int) != (q : Int) + 1 + 1 + 1 + 1) = false := by simp; omega
      have t5 : (((q + 4 + 1 : Nat) : Int) != (q : Int) + 1 + 1 + 1 + 1 + 1) = false := by simp; omega
      have s1 : (((q : Int) + 1) != (q : Int) + 1) = false := by simp
      have s2 : (((q : Int) + 2) != (q : Int) + 1 + 1) = false := by simp; omega
      have s3 : (((q : Int) + 2 + 1) != (q : Int) + 1 + 1 + 1) = false := by simp; omega
      have s4 : (((q : Int) + 4) != (q : Int) + 1 + 1 + 1 + 1) = false := by simp; omega
      have s5 : (((q : Int) + 4 + 1) != (q : Int) + 1 + 1 + 1 + 1 + 1) = false := by simp; omega
      have HMT := Lib.hid (fun W => mark_textI ((q : Int) + 1 + 1 + 1 + 1 + 1 + 1) (q + 6) W (by omega) (by omega) (by omega))
      have ts : ((mk (q + 6)).toList != (mk (q + 6)).toList) = false := by simp
      have ts' : ((mk (q + 6)).toList == (mk (q + 6)).toList) = true := by simp
      go_upto_region 22 with fail
      clear c0 c1 c2' c3 c4 c5 c6 c7
      refine wp_region_calm_lg (told [(6, fun u => u = .string (mk (q + 6)))]) (by kernel_rfl) (by kernel_rfl) (told_mono _) HL.out ?_
      repeat (first
        | (refine calm_skip (by rfl) ?_; try simp only [Act.put, List.setIfInBounds_toArray, List.set_cons_zero, List.set_cons_succ])
        | (refine calm_plain (by rfl) (by rfl) ?_; apply Exists.intro; refine ⟨fun wc hC hD => ?_, ?_⟩; (focus (clear hD; obtain ⟨a2, c2, e2, -, c0, c1, c2', c3, c4, c5, c6, c7⟩ := HVI.out _ hC.bel; simp only [Value.slice.injEq, true_and] at e2; obtain ⟨e3, e4⟩ := e2; cases e3; clear e4; simp only [mkM, mkN] at c0 c1 c2' c3 c4 c5 c6 c7; clear hC; go_simp; first | done | with_reducible rfl)); try simp only [Act.put, List.setIfInBounds_toArray, List.set_cons_zero, List.set_cons_succ]))
      refine calm_call _ _ (by rfl) (by rfl) ?_ ?_
      focus
        apply Exists.intro
        apply Exists.intro
        refine ⟨fun wc hC hD => ?_, fun wc hC hD => ?_⟩
        focus (clear hD; obtain ⟨a2, c2, e2, -, c0, c1, c2', c3, c4, c5, c6, c7⟩ := HVI.out _ hC.bel; simp only [Value.slice.injEq, true_and] at e2; obtain ⟨e3, e4⟩ := e2; cases e3; clear e4; simp only [mkM, mkN] at c0 c1 c2' c3 c4 c5 c6 c7; clear hC; go_simp; first | done | with_reducible exact ⟨rfl, rfl⟩)
        clear hD
        with_reducible refine (HMT.out _).mono ?_
        rintro e wx ⟨rfl, hb⟩
        exact ⟨_, rfl, hb, rfl, trivial⟩
      rintro _ rfl
      try simp only [Act.put, List.setIfInBounds_toArray, List.set_cons_zero, List.set_cons_succ]
      repeat (first
        | (refine calm_skip (by rfl) ?_; try simp only [Act.put, List.setIfInBounds_toArray, List.set_cons_zero, List.set_cons_succ])
        | (refine calm_plain (by rfl) (by rfl) ?_; apply Exists.intro; refine ⟨fun wc hC hD => ?_, ?_⟩; (focus (clear hD; obtain ⟨a2, c2, e2, -, c0, c1, c2', c3, c4, c5, c6, c7⟩ := HVI.out _ hC.bel; simp only [Value.slice.injEq, true_and] at e2; obtain ⟨e3, e4⟩ := e2; cases e3; clear e4; simp only [mkM, mkN] at c0 c1 c2' c3 c4 c5 c6 c7; clear hC; go_simp; first | done | with_reducible rfl)); try simp only [Act.put, List.setIfInBounds_toArray, List.set_cons_zero, List.set_cons_succ]))
      refine calm_end ?_
      intro w7 hL7 hF7
      clear hF7
      replace HL := Lib.hid hL7
      clear hL7
      obtain ⟨a2, c2, e2, -, -, -, -, -, -, -, -, c7⟩ := HVI.out _ HL.out.bel
      simp only [Value.slice.injEq, true_and] at e2
      obtain ⟨e3, e4⟩ := e2
      cases e3; clear e4
      simp only [mkM] at c7
      have h3 : (((q : Int) + 1 + 1 + 1 + 1 + 1 + 1 + 1) % 3 == 0) = decide ((q + 7) % 3 = 0) := by rw [Bool.eq_iff_iff]; simp; omega
      obtain ⟨b, hb⟩ : ∃ b, b = decide ((q + 7) % 3 = 0) := ⟨_, rfl⟩
      rw [← hb] at c7 h3
      clear hb
      have hbb : (b != b) = false := by simp
      go_wp2
      go_roundw
      case rel => exact ⟨j + 1, q + 8, by omega, by have := HQ.out; omega, by go_num, by go_num, HL.out.bel⟩
      case measure => simp [intOf]; omega
    · have hjs : j = n := by omega
      subst hjs
      have HQ := Lib.hid hq; clear hq
      go_wp2
      go_ret
      exact ⟨by rw [HQ.out]; rfl, HL.out.bel⟩

end Go.Proofs.Ytaggmcdfggmlhaa
