/-
  Contracts of toInt64S, eqInt64S, markInt64S.
-/
import Derived.Test.YtjpcpdapbhmgiaaMark
import Derived.Test.YtjpcpdapbhmgiaaEq
import Derived.BigQuiet
import Derived.Deep.QuietTactic
namespace Go.Proofs.Ytjpcpdapbhmgiaa
open Go.ChangeShapes Go.WideShapes Go.ChangeAt Go.RowKit

theorem infoI64 : (Try.prog.info? 2).map (fun i => (i.zero, i.size, i.bytes)) = some (some (.int .i64 0), 1, 8) := by kernel_rfl

set_option maxRecDepth 100000 in
theorem to_ints (v : Value) (S : List Int) (w : World) (hv : Sl w w.heap.size 1 encI v S) (hS : S.length ≤ 1048576) :
    Calls Try.prog 36 #[v] w (Owns w 2 1 encI S) := by
  obtain ⟨A, c, rfl⟩ := hv.form
  have HV := Lib.hid hv
  clear hv
  obtain ⟨M, -, hMs, hmk⟩ := make_row 32 2 _ 1 8 Try.underlying32 infoI64 S.length (by omega) (by omega)
  have HM := Lib.hid hMs; clear hMs
  go_enter Try.func36, Try.ntmps36
  go_wp2
  go_loopw [4] (fun i wr => ∃ (k : Nat) (cur : Array Value), k ≤ S.length ∧ i = .int .i64 k ∧ wr.heap[w.heap.size]? = some (.cells cur 2 (0, 0)) ∧ cur.size = S.length * 1 ∧ cur.toList.take k = (S.take k).map (Value.int .i64) ∧ Below w.heap.size w wr) (fun i _ => S.length - (intOf i).toNat)
  case atStart => exact ⟨0, M, by omega, rfl, heap_alloc_new _ _, HM.out, rfl, (Below.refl _ _).alloc (Nat.le_refl _) _⟩
  case round =>
    obtain ⟨k, cur, hk, rfl, hg, hs, ht, hb⟩ := hrel
    have HG := Lib.hid hg; have HS := Lib.hid hs; have HT := Lib.hid ht; have HB := Lib.hid hb
    by_cases hlt : k < S.length
    · obtain ⟨ad, c', e', _, hc⟩ := (HV.out.below hb).one k hlt
      obtain ⟨y, hcell⟩ := block_some hg k (by omega)
      have hfree := block_free hg k
      clear hb hg hs ht
      simp only [Value.slice.injEq, true_and] at e'
      obtain ⟨rfl, rfl⟩ := e'
      obtain ⟨t, ht⟩ : ∃ t, t = S[k] := ⟨_, rfl⟩
      rw [← ht] at hc
      have HX := Lib.hid ht; clear ht
      go_wp2
      go_roundw
      case rel => exact ⟨k + 1, _, by omega, by go_num, block_set HG.out k _, by rw [Array.size_setIfInBounds]; exact HS.out, by
        rw [set_take_one cur k _ _ (by have := HS.out; omega) HT.out, List.take_succ_eq_append_getElem hlt, List.map_append, HX.out]; rfl, HB.out.setCell (by simp) _⟩
      case measure => simp [intOf]; omega
    · have hks : k = S.length := by omega
      subst hks
      clear hb hg hs ht
      go_wp2
      go_ret
      refine ⟨_, rfl, row_lit HG.out _ _ 1 (Nat.le_refl _) (by unfold maxLen; omega) HS.out ?_, HB.out⟩
      have h := HT.out
      rw [List.take_of_length_le (by rw [Array.length_toList, HS.out]; omega), List.take_of_length_le (Nat.le_refl _)] at h
      rw [h]; exact (flat_one (Value.int .i64) S).symm

set_option maxRecDepth 100000 in
theorem eq_ints (v1 v2 : Value) (S : List Int) (w : World) (h1 : Sl w w.heap.size 1 encI v1 S) (h2 : Sl w w.heap.size 1 encI v2 S) (hS : S.length ≤ 140737488351232) :
    Calls Try.prog 37 #[v1, v2] w (Yes w) := by
  obtain ⟨A1, c1, rfl⟩ := h1.form
  obtain ⟨A2, c2, rfl⟩ := h2.form
  have H1 := Lib.hid h1; have H2 := Lib.hid h2
  clear h1 h2
  have hne : ((S.length : Int) != (S.length : Int)) = false := by simp
  go_enter Try.func37, Try.ntmps37
  go_wp2
  go_loopw [5] (fun i wr => ∃ (k : Nat), k ≤ S.length ∧ i = .int .i64 k ∧ Below w.heap.size w wr) (fun i _ => S.length - (intOf i).toNat)
  case atStart => exact ⟨0, by omega, rfl, Below.refl _ _⟩
  case round =>
    obtain ⟨k, hk, rfl, hb⟩ := hrel
    have HB := Lib.hid hb
    by_cases hlt : k < S.length
    · obtain ⟨a1, c1', e1, _, hc1⟩ := (H1.out.below hb).one k hlt
      obtain ⟨a2, c2', e2, _, hc2⟩ := (H2.out.below hb).one k hlt
      clear hb hne
      simp only [Value.slice.injEq, true_and] at e1 e2
      obtain ⟨rfl, rfl⟩ := e1
      obtain ⟨rfl, rfl⟩ := e2
      generalize S[k] = t at hc1 hc2
      have hq : (t != t) = false := by simp
      go_wp2
      go_quiet (fail)
      go_wp2
      go_roundw
      case rel => exact ⟨k + 1, by omega, by go_num, below_drewN' HB.out _⟩
      case measure => simp [intOf]; omega
    · have hks : k = S.length := by omega
      subst hks
      clear hb hne
      go_wp2
      go_ret
      exact ⟨rfl, HB.out⟩

set_option maxRecDepth 100000 in
theorem mark_ints (v : Value) (S : List Int) (base k : Nat) (w : World) (hv : Ow w base 2 1 encI v S) (hk : 0 < k) (hk2 : k + S.length ≤ 100000000) :
    Calls Try.prog 38 #[v, .int .i64 (k : Int)] w fun e w' => ∃ r : Nat, e = .returned (.int .i64 (r : Int)) ∧ w.grownBy w' v.ownBlock := by
  obtain ⟨A, c, rfl⟩ := hv.form
  unfold Ow at hv
  have HV := Lib.hid hv; clear hv
  go_enter Try.func38, Try.ntmps38
  go_wp2
  go_loopw [1, 5] (fun x i wr => ∃ (j q : Nat) (xs : List Value), j ≤ S.length ∧ q = k + j ∧ i = .int .i64 (j : Int) ∧ x = .int .i64 (q : Int) ∧ wr.ownsRow base 2 1 (.slice A S.length c) S.length xs ∧ w.grownBy wr (Value.slice A S.length c).ownBlock) (fun _ i _ => S.length - (intOf i).toNat)
  case atStart => exact ⟨0, k, _, by omega, by omega, rfl, rfl, HV.out, grown_refl _ _⟩
  case round =>
    obtain ⟨j, q, xs, hj, hq, rfl, rfl, ho, hg⟩ := hrel
    have hq1 : q ≤ k + j := by omega
    have HQ := Lib.hid hq; clear hq
    have HO := Lib.hid ho; have HG := Lib.hid hg
    clear hg
    by_cases hlt : j < S.length
    · obtain ⟨g, rfl, _, _⟩ := own_form ho (by omega)
      obtain ⟨u, hu, hf⟩ := own_cell ho j (by omega)
      clear ho
      go_wp2
      go_roundw
      case rel => exact ⟨j + 1, q + 1, _, by omega, by have := HQ.out; omega, by go_num, by go_num, (HO.out.stored j (.int .i64 (q : Int))).1, grown_trans HG.out (grown_set wr g j _)⟩
      case measure => simp [intOf]; omega
    · have hjs : j = S.length := by omega
      subst hjs
      clear ho
      go_wp2
      go_ret
      exact ⟨q, rfl, HG.out⟩

end Go.Proofs.Ytjpcpdapbhmgiaa
