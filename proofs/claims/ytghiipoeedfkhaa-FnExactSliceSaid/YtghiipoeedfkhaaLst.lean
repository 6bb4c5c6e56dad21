/-
  Contracts of the model's readers of a list of items: where, how many, left, right.
-/
import Derived.Test.YtghiipoeedfkhaaEqN
import Derived.Test.YtghiipoeedfkhaaItm2
import Derived.Test.YtghiipoeedfkhaaDocQ
import Derived.Test.YtghiipoeedfkhaaSzDoc
import Derived.Test.YtghiipoeedfkhaaToDoc
namespace Go.Proofs.Ytghiipoeedfkhaa
set_option linter.unusedSimpArgs false
set_option linter.unusedVariables false
open Go.ChangeShapes Go.WideShapes Go.ChangeAt Go.RowKit

set_option maxRecDepth 100000 in
theorem spec_at (v : Value) (l : List Im) (n : Nm) (w : World) (hv : Sl w w.heap.size 8 encM v l) (hl : l.length ≤ 140737488351232) :
    Calls Try.prog 125 #[v, vN n] w (Back (.int .i64 (atOf l n)) w) := by
  obtain ⟨A, c, rfl⟩ := hv.form
  have HV := Lib.hid hv
  clear hv
  go_enter Try.func125, Try.ntmps125
  go_wp2
  go_loopw [5] (fun i wr => ∃ k : Nat, k ≤ l.length ∧ i = .int .i64 k ∧ NoneTo l n k ∧ Below w.heap.size w wr ∧ wr.heap[w.heap.size]? = some (.cells #[.int .i64 n.c, .int .i64 n.k] 66 (0, 0))) (fun i _ => l.length - (intOf i).toNat)
  case atStart => exact ⟨0, Nat.zero_le _, rfl, noneTo_zero l n, by (repeat (first | with_reducible refine bset ?_ _ (by omega) | with_reducible refine ball ?_ _ (by first | exact Nat.le_refl _ | (simp only [World.size_alloc, World.size_setCell]; omega)) | with_reducible exact Below.refl _ _ | with_reducible refine Below.drew ?_)), heap_alloc_new _ _⟩
  case round =>
    obtain ⟨k, hk, rfl, hn, hb, hg⟩ := hrel
    obtain ⟨b0, b1⟩ := box2 hg
    have HN := Lib.hid hn; have HB := Lib.hid hb; have HG := Lib.hid hg; clear hn hb hg
    by_cases hlt : k < l.length
    · obtain ⟨ad, c', e', _, c0, c1, -, -, -, -, -, -⟩ := (HV.out.below HB.out).item k hlt
      simp only [Value.slice.injEq, true_and] at e'
      obtain ⟨rfl, rfl⟩ := e'
      obtain ⟨t, ht⟩ : ∃ t, t = l[k] := ⟨_, rfl⟩
      rw [← ht] at c0 c1
      have HT := Lib.hid ht; clear ht
      cases he : eqN t.i n with
      | true =>
        have HE := Lib.hid he; clear he
        have he : eqN t.i n = true := HE.out
        go_wp2
        go_quiet (fail)
        go_wp2
        go_ret
        exact ⟨ret_i64 (at_yes HN.out hlt (by rw [← HT.out]; exact HE.out)).symm, below_drewN' HB.out _⟩
      | false =>
        have HE := Lib.hid he; clear he
        have he : eqN t.i n = false := HE.out
        go_wp2
        go_quiet (fail)
        go_wp2
        go_roundw
        case rel => exact ⟨k + 1, by omega, by go_num, noneTo_step HN.out hlt (by rw [← HT.out]; exact HE.out), below_drewN' HB.out _, HG.out⟩
        case measure => simp [intOf]; omega
    · have hks : k = l.length := by omega
      subst hks
      go_wp2
      go_ret
      exact ⟨ret_i64 (at_no HN.out).symm, HB.out⟩

set_option maxRecDepth 100000 in
theorem spec_next (v : Value) (l : List Im) (n : Int) (w : World) (hv : Sl w w.heap.size 8 encM v l) (hl : l.length ≤ 140737488351232) :
    Calls Try.prog 131 #[v, .int .i64 n] w (Back (.int .i64 (nextOf l n)) w) := by
  obtain ⟨A, c, rfl⟩ := hv.form
  have HV := Lib.hid hv
  clear hv
  go_enter Try.func131, Try.ntmps131
  go_wp2
  go_loop [5, 6] (fun x i => ∃ k : Nat, k ≤ l.length ∧ i = .int .i64 k ∧ x = .int .i64 (nextOf (l.take k) n)) (fun _ i => l.length - (intOf i).toNat)
  case atStart => exact ⟨0, Nat.zero_le _, rfl, rfl⟩
  case round =>
    obtain ⟨k, hk, rfl, rfl⟩ := hrel
    by_cases hlt : k < l.length
    · obtain ⟨ad, c', e', _, c0, -, -, -, -, -, -, -⟩ := HV.out.item k hlt
      simp only [Value.slice.injEq, true_and] at e'
      obtain ⟨rfl, rfl⟩ := e'
      obtain ⟨t, ht⟩ : ∃ t, t = l[k] := ⟨_, rfl⟩
      rw [← ht] at c0
      have HT := Lib.hid ht; clear ht
      have hnl : nextOf (l.take k) n ≤ k := Nat.le_trans (next_le _ _) (by rw [List.length_take]; omega)
      by_cases he : t.i.c = n
      · have HS := Lib.hid (next_yes (c := n) hlt (by rw [← HT.out]; exact he))
        have hb : (t.i.c == n) = true := by simp [he]
        have HE := Lib.hid he; clear he
        generalize nextOf (l.take k) n = m at HS hnl ⊢
        go_wp2
        go_round
        case rel => exact ⟨k + 1, by omega, by go_num, by rw [HS.out]; go_num⟩
        case measure => simp [intOf]; omega
      · have HS := Lib.hid (next_not (c := n) hlt (by rw [← HT.out]; exact he))
        have hb : (t.i.c == n) = false := by simp [he]
        generalize nextOf (l.take k) n = m at HS hnl ⊢
        go_wp2
        go_round
        case rel => exact ⟨k + 1, by omega, by go_num, by rw [HS.out]⟩
        case measure => simp [intOf]; omega
    · have hks : k = l.length := by omega
      subst hks
      rw [List.take_length]
      obtain ⟨m, hm⟩ : ∃ m, m = nextOf l n := ⟨_, rfl⟩
      rw [← hm]
      have HM := Lib.hid hm; clear hm
      go_wp2
      go_ret
      exact ⟨ret_i64 (by rw [HM.out]), Below.refl _ _⟩

set_option maxRecDepth 100000 in
theorem spec_left (v : Value) (l : List Im) (n : Nm) (w : World) (hv : Sl w w.heap.size 8 encM v l) (hl : l.length ≤ 140737488351232) :
    Calls Try.prog 169 #[v, vN n] w (Back (.int .i64 (leftOf l n)) w) := by
  have HA := Lib.hid (fun W (hb : Below w.heap.size w W) => spec_at v l n W ((hv.below hb).more hb.size) hl)
  obtain ⟨A, c, rfl⟩ := hv.form
  clear hv
  cases he : eqN n no with
  | true =>
    have HL := Lib.hid (left_no (l := l) (eqN_t.1 he))
    have HN := Lib.hid (fun W => (spec_none n W).mono fun _ _ h => Tell.to h he)
    clear he
    go_enter Try.func169, Try.ntmps169
    go_wp2_with fail
    refine (HN.out _).mono ?_
    rintro e w1 ⟨rfl, hb1⟩
    have HB := Lib.hid (below_alloc_call (Below.refl w.heap.size w) (Nat.le_refl _) hb1)
    clear hb1
    go_wp2
    go_ret
    exact ⟨ret_i64 HL.out.symm, HB.out⟩
  | false =>
    have HL := Lib.hid (left_id (l := l) (eqN_f.1 he))
    have HN := Lib.hid (fun W => (spec_none n W).mono fun _ _ h => Tell.to h he)
    clear he
    go_enter Try.func169, Try.ntmps169
    go_wp2_with fail
    refine (HN.out _).mono ?_
    rintro e w1 ⟨rfl, hb1⟩
    obtain ⟨b0, b1⟩ := box2 (box_kept hb1)
    have HB := Lib.hid (below_alloc_call (Below.refl w.heap.size w) (Nat.le_refl _) hb1)
    clear hb1
    go_wp2_with fail
    refine (HA.out _ HB.out).mono ?_
    rintro e w2 ⟨rfl, hb2⟩
    have HB2 := Lib.hid (below_call HB.out HB.out.size hb2)
    clear hb2
    go_wp2
    go_ret
    exact ⟨ret_i64 HL.out.symm, HB2.out⟩

set_option maxRecDepth 100000 in
theorem spec_rightOf (v : Value) (l : List Im) (n : Nm) (w : World) (hv : Sl w w.heap.size 8 encM v l) (hl : l.length ≤ 140737488351232) :
    Calls Try.prog 170 #[v, vN n] w (Back (.int .i64 (rightOf l n)) w) := by
  have HA := Lib.hid (fun W (hb : Below w.heap.size w W) => spec_at v l n W ((hv.below hb).more hb.size) hl)
  obtain ⟨A, c, rfl⟩ := hv.form
  clear hv
  cases he : eqN n no with
  | true =>
    have HL := Lib.hid (right_no (l := l) (eqN_t.1 he))
    have HN := Lib.hid (fun W => (spec_none n W).mono fun _ _ h => Tell.to h he)
    clear he
    go_enter Try.func170, Try.ntmps170
    go_wp2_with fail
    refine (HN.out _).mono ?_
    rintro e w1 ⟨rfl, hb1⟩
    have HB := Lib.hid (below_alloc_call (Below.refl w.heap.size w) (Nat.le_refl _) hb1)
    clear hb1
    go_wp2
    go_ret
    exact ⟨ret_i64 HL.out.symm, HB.out⟩
  | false =>
    have HL := Lib.hid (right_id (l := l) (eqN_f.1 he))
    have HN := Lib.hid (fun W => (spec_none n W).mono fun _ _ h => Tell.to h he)
    clear he
    go_enter Try.func170, Try.ntmps170
    go_wp2_with fail
    refine (HN.out _).mono ?_
    rintro e w1 ⟨rfl, hb1⟩
    obtain ⟨b0, b1⟩ := box2 (box_kept hb1)
    have HB := Lib.hid (below_alloc_call (Below.refl w.heap.size w) (Nat.le_refl _) hb1)
    clear hb1
    go_wp2_with fail
    refine (HA.out _ HB.out).mono ?_
    rintro e w2 ⟨rfl, hb2⟩
    have HB2 := Lib.hid (below_call HB.out HB.out.size hb2)
    clear hb2
    go_wp2
    go_ret
    exact ⟨ret_i64 HL.out.symm, HB2.out⟩

theorem spec_less (a b : Nm) (w : World) : Calls Try.prog 124 #[vN a, vN b] w (Tell (lessB a b) w) := by
  go_enter Try.func124, Try.ntmps124
  go_wp2
  all_goals
    go_ret
    refine ⟨ret_bool ?_, by (repeat (first | with_reducible refine bset ?_ _ (by omega) | with_reducible refine ball ?_ _ (by first | exact Nat.le_refl _ | (simp only [World.size_alloc, World.size_setCell]; omega)) | with_reducible exact Below.refl _ _ | with_reducible refine Below.drew ?_))⟩
    rw [eq_comm, Bool.eq_iff_iff, lessB_iff]
    unfold LessP
    simp
    omega

end Go.Proofs.Ytghiipoeedfkhaa
