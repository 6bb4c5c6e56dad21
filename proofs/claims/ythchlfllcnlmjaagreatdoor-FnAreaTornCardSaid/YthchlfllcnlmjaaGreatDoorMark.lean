/-
  Contracts of the marks that the exact laws lay into an answer: markText, mark.., held...
-/
import Derived.Test.YthchlfllcnlmjaaGreatDoorBase2
import Derived.BigQuiet
import Derived.IntWalk
import Derived.Deep.RegionWith
import Derived.RegionTactic
namespace Go.Proofs.YthchlfllcnlmjaaGreatDoor
open Go.ChangeShapes Go.WideShapes Go.ChangeAt Go.RowKit

theorem one_byte (w : World) (n : Nat) (h : n < 256) : (convert 22 9 (.slice (some ⟨w.heap.size, 0, none⟩) 1 1)).run Tryz.prog (w.alloc (.cells #[.int .u8 (n : Int)] 5)) = .ok (.string ⟨[UInt8.ofNat n].toArray⟩) (w.alloc (.cells #[.int .u8 (n : Int)] 5)) := by
  refine block_string (P := Tryz.prog) (heap_alloc_new w _) 22 5 9 Tryz.underlying22 Tryz.underlying5 Tryz.underlying9 [UInt8.ofNat n] 1 1 rfl ?_
  have e : (UInt8.ofNat n).toNat = n := by simp; omega
  simp [bvals, bval, e]

set_option maxRecDepth 100000 in
theorem mark_text (n : Nat) (w : World) (h0 : 0 < n) (h1 : n ≤ 1000000000) :
    Calls Tryz.prog 95 #[.int .i64 (n : Int)] w fun e w' => e = .returned (.string (mk n)) ∧ Below w.heap.size w w' := by
  have hd0 : decide (n = 0) = false := by simp; omega
  go_enter Tryz.func95, Tryz.ntmps95
  go_wp2
  go_loopw [0, 3] (fun x y wr => ∃ (m : Nat) (l : List UInt8), m ≤ 1000000000 ∧ x = .int .i64 (m : Int) ∧ y = .string ⟨l.toArray⟩ ∧ dg m ++ l = dg n ∧ Below w.heap.size w wr) (fun x _ _ => (intOf x).toNat)
  case atStart => exact ⟨n, [], h1, rfl, rfl, by simp, Below.refl _ _⟩
  case round =>
    obtain ⟨m, l, hm, rfl, rfl, hd, hb⟩ := hrel
    have hl : l.length ≤ 1000000000 := by
      have h := congrArg List.length hd
      have h' := dg_len n
      rw [List.length_append] at h
      omega
    have HD := Lib.hid hd; have HB := Lib.hid hb; clear hd hb
    by_cases hp : 0 < m
    · have hk := one_byte wr (48 + m % 10) (by omega)
      have hcast : ((48 + m % 10 : Nat) : Int) = 48 + (m : Int) % 10 := by omega
      rw [hcast] at hk
      clear hcast
      go_wp2
      go_roundw
      case rel => exact ⟨m / 10, (48 + UInt8.ofNat (m % 10)) :: l, by omega, by go_num, by
        have h := cat_bytes [48 + UInt8.ofNat (m % 10)] l
        exact congrArg Value.string h, by rw [← HD.out, dg_pos m hp]; simp, HB.out.alloc HB.out.size _⟩
      case measure => simp [intOf]; omega
    · have hm0 : m = 0 := by omega
      subst hm0
      go_wp2
      go_ret
      refine ⟨?_, HB.out⟩
      have := HD.out
      rw [dg_zero, List.nil_append] at this
      rw [this]
      rfl

theorem mark_textI (x : Int) (n : Nat) (w : World) (hx : x = (n : Int)) (h0 : 0 < n) (h1 : n ≤ 1000000000) :
    Calls Tryz.prog 95 #[.int .i64 x] w fun e w' => e = .returned (.string (mk n)) ∧ Below w.heap.size w w' := by
  subst hx
  exact mark_text n w h0 h1

set_option maxRecDepth 100000 in
theorem mark_strings (v : Value) (S : List ByteArray) (base k : Nat) (w : World) (hv : Ow w base 9 1 encS v S) (hk : 0 < k) (hk2 : k + S.length ≤ 100000000) :
    Calls Tryz.prog 68 #[v, .int .i64 (k : Int)] w (Marked w base 9 1 encS v (marksS k S.length) (k + S.length)) := by
  obtain ⟨A, c, rfl⟩ := hv.form
  unfold Ow at hv
  have HV := Lib.hid hv; clear hv
  go_enter Tryz.func68, Tryz.ntmps68
  go_wp2
  go_loopw [1, 5] (fun x i wr => ∃ (j : Nat) (xs : List Value), j ≤ S.length ∧ i = .int .i64 (j : Int) ∧ x = .int .i64 ((k + j : Nat) : Int) ∧ wr.ownsRow base 9 1 (.slice A S.length c) S.length xs ∧ xs.take j = (marksS k j).flatMap encS ∧ w.grownBy wr (Value.slice A S.length c).ownBlock) (fun _ i _ => S.length - (intOf i).toNat)
  case atStart => exact ⟨0, _, by omega, rfl, rfl, HV.out, by simp [marksS], grown_refl _ _⟩
  case round =>
    obtain ⟨j, xs, hj, rfl, rfl, ho, ht, hg⟩ := hrel
    have HO := Lib.hid ho; have HT := Lib.hid ht; have HG := Lib.hid hg
    clear ht hg
    by_cases hlt : j < S.length
    · obtain ⟨g, rfl, _, _⟩ := own_form ho (by omega)
      clear ho
      go_wp2_with fail
      refine (mark_text (k + j) _ (by omega) (by omega)).mono ?_
      rintro e w1 ⟨rfl, hb1⟩
      have HO1 := Lib.hid (own_lift HO.out hb1)
      have HB1 := Lib.hid hb1; clear hb1
      obtain ⟨u, hu, hf⟩ := own_cell HO1.out j (by omega)
      go_wp2
      go_roundw
      case rel =>
        have hs := (HO1.out.stored j (.string (mk (k + j)))).1
        exact ⟨j + 1, xs.set j (.string (mk (k + j))), by omega, by go_num, by go_num, hs, by
          rw [list_set_take xs j _ _ (by have := HO1.out.1; omega) HT.out, marksS_succ, List.flatMap_append]; rfl,
          grown_trans (grown_trans HG.out (grown_below HB1.out _)) (grown_set w1 g j _)⟩
      case measure => simp [intOf]; omega
    · have hjs : j = S.length := by omega
      subst hjs
      clear ho
      go_wp2
      go_ret
      refine ⟨by simp, ?_, HG.out⟩
      have h := HT.out
      rw [List.take_of_length_le (by have := HO.out.1; omega)] at h
      rw [h] at HO
      unfold Ow
      rw [marksS_len]
      exact HO.out

set_option maxRecDepth 100000 in
set_option maxHeartbeats 1000000 in
theorem mark_pendings (v : Value) (P : List Pd) (base k : Nat) (w : World) (hv : Ow w base 84 2 encP v P) (hk : 0 < k) (hk2 : k + 2 * P.length ≤ 100000000) :
    Calls Tryz.prog 69 #[v, .int .i64 (k : Int)] w (Marked w base 84 2 encP v (marksP k P.length) (k + 2 * P.length)) := by
  obtain ⟨A, c, rfl⟩ := hv.form
  unfold Ow at hv
  have HV := Lib.hid hv; clear hv
  go_enter Tryz.func69, Tryz.ntmps69
  go_wp2
  go_loopw [1, 5] (fun x i wr => ∃ (j q : Nat) (xs : List Value), j ≤ P.length ∧ q = k + 2 * j ∧ i = .int .i64 (j : Int) ∧ x = .int .i64 (q : Int) ∧ wr.ownsRow base 84 2 (.slice A P.length c) P.length xs ∧ xs.take (j * 2) = (marksP k j).flatMap encP ∧ w.grownBy wr (Value.slice A P.length c).ownBlock) (fun _ i _ => P.length - (intOf i).toNat)
  case atStart => exact ⟨0, k, _, by omega, by omega, rfl, rfl, HV.out, by simp [marksP], grown_refl _ _⟩
  case round =>
    obtain ⟨j, q, xs, hj, hq, rfl, rfl, ho, ht, hg⟩ := hrel
    have hq1 : q ≤ k + 2 * j := by omega
    have hq2 : 0 < q := by omega
    have HQ := Lib.hid hq; clear hq
    have HO := Lib.hid ho; have HT := Lib.hid ht; have HG := Lib.hid hg
    clear ht hg
    by_cases hlt : j < P.length
    · obtain ⟨g, rfl, _, hgl⟩ := own_form ho (by omega)
      obtain ⟨u, hu, hf⟩ := own_cell ho (j * 2) (by omega)
      clear ho
      have HS1 := Lib.hid (HO.out.stored (j * 2) (.int .i64 (q : Int))).1
      go_wp2_with fail
      refine (mark_textI _ (q + 1) _ (by omega) (by omega) (by omega)).mono ?_
      rintro e w1 ⟨rfl, hb1⟩
      have HO1 := Lib.hid (own_lift HS1.out hb1)
      have HB1 := Lib.hid hb1; clear hb1 hu hf
      obtain ⟨u1, hu1, hf1⟩ := own_cell HO1.out (j * 2 + 1) (by omega)
      go_wp2
      go_roundw
      case rel =>
        have hs := (HO1.out.stored (j * 2 + 1) (.string (mk (q + 1)))).1
        have hl := HO.out.1
        exact ⟨j + 1, q + 1 + 1, _, by omega, by have := HQ.out; omega, by go_num, by go_num, hs, by
          have e1 : (j + 1) * 2 = j * 2 + 1 + 1 := by omega
          rw [e1, list_set_take _ (j * 2 + 1) _ _ (by rw [List.length_set]; omega) (list_set_take xs (j * 2) _ _ (by omega) HT.out), marksP_succ, List.flatMap_append, ← HQ.out]
          simp [encP],
          grown_trans (grown_trans (grown_trans HG.out (grown_set _ g (j * 2) _)) (grown_below HB1.out _)) (grown_set w1 g (j * 2 + 1) _)⟩
      case measure => simp [intOf]; omega
    · have hjs : j = P.length := by omega
      subst hjs
      clear ho
      go_wp2
      go_ret
      refine ⟨by rw [HQ.out]; rfl, ?_, HG.out⟩
      have h := HT.out
      rw [List.take_of_length_le (by have := HO.out.1; omega)] at h
      rw [h] at HO
      unfold Ow
      rw [marksP_len]
      exact HO.out

set_option maxRecDepth 100000 in
set_option maxHeartbeats 1000000 in
theorem held_strings (v : Value) (k n : Nat) (w : World) (hv : Sl w w.heap.size 1 encS v (marksS k n)) (hk : 0 < k) (hk2 : k + n ≤ 100000000) :
    Calls Tryz.prog 96 #[v, .int .i64 (k : Int)] w (Holds w (k + n)) := by
  obtain ⟨A, c, rfl⟩ := hv.form
  have HV := Lib.hid hv; clear hv
  have hlen := marksS_len k n
  rw [hlen] at HV ⊢
  have HL := Lib.hid hlen; clear hlen
  go_enter Tryz.func96, Tryz.ntmps96
  go_wp2
  go_loopw [1, 5] (fun x i wr => ∃ (j q : Nat), j ≤ n ∧ q = k + j ∧ i = .int .i64 (j : Int) ∧ x = .int .i64 (q : Int) ∧ Below w.heap.size w wr) (fun _ i _ => n - (intOf i).toNat)
  case atStart => exact ⟨0, k, by omega, by omega, rfl, rfl, Below.refl _ _⟩
  case round =>
    obtain ⟨j, q, hj, hq, rfl, rfl, hb⟩ := hrel
    have hq1 : q ≤ k + j := by omega
    have hq2 : 0 < q := by omega
    have HQ := Lib.hid hq; clear hq
    have HB := Lib.hid hb
    have hzw := hb.size
    by_cases hlt : j < n
    · obtain ⟨ad, c', e', had, hc⟩ := (HV.out.below hb).one j (by rw [HL.out]; exact hlt)
      clear hb
      rw [HL.out] at e'
      simp only [Value.slice.injEq, true_and] at e'
      obtain ⟨rfl, rfl⟩ := e'
      have hm : (marksS k n)[j]'(by rw [HL.out]; exact hlt) = mk q := by rw [HQ.out]; simp [marksS]
      rw [hm] at hc
      clear hm
      have hbq := beq_yes (mk q)
      have hM := fun W => mark_text q W hq2 (by omega)
      have HM := Lib.hid hM; clear hM
      generalize mk q = t at *
      go_wp2
      go_region_with (go_at_call 95; refine (HM.out _).mono ?_; rintro e w1 ⟨rfl, hb1⟩; have hc1 := ((undraw hb1).cell (p := ad.add j) (by rw [add_block]; omega)).trans hc)
      all_goals
        have HB1 := Lib.hid (below_call HB.out HB.out.size (undraw hb1))
        clear hb1 hc hc1
        go_wp2
        go_roundw
        case rel => exact ⟨j + 1, q + 1, by omega, by have := HQ.out; omega, by go_num, by go_num, HB1.out⟩
        case measure => simp [intOf]; omega
    · have hjs : j = n := by omega
      subst hjs
      clear hb
      go_wp2
      go_ret
      exact ⟨by rw [HQ.out]; rfl, HB.out⟩

set_option maxRecDepth 100000 in
set_option maxHeartbeats 1000000 in
theorem held_pendings (v : Value) (k n : Nat) (w : World) (hv : Sl w w.heap.size 2 encP v (marksP k n)) (hk : 0 < k) (hk2 : k + 2 * n ≤ 100000000) :
    Calls Tryz.prog 97 #[v, .int .i64 (k : Int)] w (Holds w (k + 2 * n)) := by
  obtain ⟨A, c, rfl⟩ := hv.form
  have HV := Lib.hid hv; clear hv
  have hlen := marksP_len k n
  rw [hlen] at HV ⊢
  have HL := Lib.hid hlen; clear hlen
  go_enter Tryz.func97, Tryz.ntmps97
  go_wp2
  go_loopw [1, 5] (fun x i wr => ∃ (j q : Nat), j ≤ n ∧ q = k + 2 * j ∧ i = .int .i64 (j : Int) ∧ x = .int .i64 (q : Int) ∧ Below w.heap.size w wr) (fun _ i _ => n - (intOf i).toNat)
  case atStart => exact ⟨0, k, by omega, by omega, rfl, rfl, Below.refl _ _⟩
  case round =>
    obtain ⟨j, q, hj, hq, rfl, rfl, hb⟩ := hrel
    have hq1 : q ≤ k + 2 * j := by omega
    have hq2 : 0 < q := by omega
    have HQ := Lib.hid hq; clear hq
    have HB := Lib.hid hb
    have hzw := hb.size
    by_cases hlt : j < n
    · obtain ⟨ad, c', e', had, hc, hd⟩ := (HV.out.below hb).two j (by rw [HL.out]; exact hlt)
      clear hb
      rw [HL.out] at e'
      simp only [Value.slice.injEq, true_and] at e'
      obtain ⟨rfl, rfl⟩ := e'
      have hm : (marksP k n)[j]'(by rw [HL.out]; exact hlt) = ((q : Int), mk (q + 1)) := by rw [HQ.out]; simp [marksP]
      rw [hm] at hc hd
      clear hm
      have hbq := beq_yes (mk (q + 1))
      have hM := fun W x (hx : x = ((q + 1 : Nat) : Int)) => mark_textI x (q + 1) W hx (by omega) (by omega)
      have HM := Lib.hid hM; clear hM
      have hqq : ((q : Int) != (q : Int)) = false := by simp
      generalize mk (q + 1) = t at *
      go_wp2
      go_region_with (go_at_call 95; refine (HM.out _ _ (by omega)).mono ?_; rintro e w1 ⟨rfl, hb1⟩; have hc1 := ((undraw hb1).cell (p := ⟨(ad.add (j * 2)).block, (ad.add (j * 2)).off + 1, none⟩) (by simp only [add_block]; omega)).trans hd)
      all_goals
        have HB1 := Lib.hid (below_call HB.out HB.out.size (undraw hb1))
        clear hb1 hc hc1 hd hqq
        go_wp2
        go_roundw
        case rel => exact ⟨j + 1, q + 1 + 1, by omega, by have := HQ.out; omega, by go_num, by go_num, HB1.out⟩
        case measure => simp [intOf]; omega
    · have hjs : j = n := by omega
      subst hjs
      clear hb
      go_wp2
      go_ret
      exact ⟨by rw [HQ.out]; rfl, HB.out⟩

end Go.Proofs.YthchlfllcnlmjaaGreatDoor
