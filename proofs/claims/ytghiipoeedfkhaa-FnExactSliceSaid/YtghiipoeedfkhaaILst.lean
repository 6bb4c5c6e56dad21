/-
  Contracts of the program's readers of a list of items: where, how many, between which, ready; names in order.
-/
import Derived.Test.YtghiipoeedfkhaaReady
namespace Go.Proofs.Ytghiipoeedfkhaa
set_option linter.unusedSimpArgs false
set_option linter.unusedVariables false
open Go.ChangeShapes Go.WideShapes Go.ChangeAt Go.RowKit

/-- The closure of placeIn: is it the item of the name in the box? -/
theorem impl_same (x : Im) (n : Nm) (b : Nat) (w : World) (hb : w.heap[b]? = some (.cells #[.int .i64 n.c, .int .i64 n.k] 66 (0, 0))) :
    Calls Try.prog 161 #[vM x, .pointer (some ⟨b, 0, none⟩)] w (Tell (eqN x.i n) w) := by
  have hlt := block_lt hb
  obtain ⟨b0, b1⟩ := box2 hb
  clear hb
  go_enter Try.func161, Try.ntmps161
  go_wp2
  go_ret
  exact ⟨rfl, by (repeat (first | with_reducible refine bset ?_ _ (by omega) | with_reducible refine ball ?_ _ (by first | exact Nat.le_refl _ | (simp only [World.size_alloc, World.size_setCell]; omega)) | with_reducible exact Below.refl _ _ | with_reducible refine Below.drew ?_))⟩

set_option maxRecDepth 100000 in
theorem impl_index (v : Value) (l : List Im) (n : Nm) (b : Nat) (w : World) (hv : Sl w w.heap.size 8 encM v l) (hl : l.length ≤ 140737488351232) (hb : w.heap[b]? = some (.cells #[.int .i64 n.c, .int .i64 n.k] 66 (0, 0))) :
    Calls Try.prog 102 #[v, .func (.func 161) #[] #[.pointer (some ⟨b, 0, none⟩)]] w (Back (.int .i64 (atOf l n)) w) := by
  obtain ⟨A, c, rfl⟩ := hv.form
  have HV := Lib.hid hv; have HG := Lib.hid hb
  clear hv hb
  go_enter Try.func102, Try.ntmps102
  go_wp2
  go_loopw [8] (fun i wr => ∃ k : Nat, k ≤ l.length ∧ i = .int .i64 k ∧ NoneTo l n k ∧ Below w.heap.size w wr) (fun i _ => l.length - (intOf i).toNat)
  case atStart => exact ⟨0, Nat.zero_le _, rfl, noneTo_zero l n, Below.refl _ _⟩
  case round =>
    obtain ⟨k, hk, rfl, hn, hb⟩ := hrel
    have HN := Lib.hid hn; have HB := Lib.hid hb; clear hn hb
    by_cases hlt : k < l.length
    · obtain ⟨ad, c', e', _, c0, c1, c2, c3, c4, c5, c6, c7⟩ := (HV.out.below HB.out).item k hlt
      simp only [Value.slice.injEq, true_and] at e'
      obtain ⟨rfl, rfl⟩ := e'
      obtain ⟨t, ht⟩ : ∃ t, t = l[k] := ⟨_, rfl⟩
      rw [← ht] at c0 c1 c2 c3 c4 c5 c6 c7
      have HT := Lib.hid ht; clear ht
      have HS := Lib.hid (impl_same t n b wr (by rw [HB.out.block _ (block_lt HG.out)]; exact HG.out))
      cases he : eqN t.i n with
      | true =>
        replace HS := Lib.hid (HS.out.mono fun _ _ h => Tell.to h he)
        have HE := Lib.hid he; clear he
        go_wp2_with fail
        refine (HS.out).mono ?_
        rintro e w1 ⟨rfl, hb1⟩
        have HB1 := Lib.hid (below_call HB.out HB.out.size hb1); clear hb1
        go_wp2
        go_ret
        exact ⟨ret_i64 (at_yes HN.out hlt (by rw [← HT.out]; exact HE.out)).symm, HB1.out⟩
      | false =>
        replace HS := Lib.hid (HS.out.mono fun _ _ h => Tell.to h he)
        have HE := Lib.hid he; clear he
        go_wp2_with fail
        refine (HS.out).mono ?_
        rintro e w1 ⟨rfl, hb1⟩
        have HB1 := Lib.hid (below_call HB.out HB.out.size hb1); clear hb1
        go_wp2
        go_roundw
        case rel => exact ⟨k + 1, by omega, by go_num, noneTo_step HN.out hlt (by rw [← HT.out]; exact HE.out), HB1.out⟩
        case measure => simp [intOf]; omega
    · have hks : k = l.length := by omega
      subst hks
      go_wp2
      go_ret
      exact ⟨ret_i64 (at_no HN.out).symm, HB.out⟩

theorem impl_place (v : Value) (l : List Im) (n : Nm) (w : World) (hv : Sl w w.heap.size 8 encM v l) (hl : l.length ≤ 140737488351232) :
    Calls Try.prog 115 #[v, vN n] w (Back (.int .i64 (atOf l n)) w) := by
  have HV := Lib.hid hv
  obtain ⟨A, c, rfl⟩ := hv.form
  clear hv
  have HI := Lib.hid (impl_index (.slice A l.length c) l n w.heap.size (w.alloc (.cells #[.int .i64 n.c, .int .i64 n.k] 66)) ((HV.out.below ((Below.refl _ _).alloc (Nat.le_refl _) _)).more (by simp)) hl (heap_alloc_new _ _))
  go_enter Try.func115, Try.ntmps115
  go_wp2_with fail
  refine (HI.out).mono ?_
  rintro e w1 ⟨rfl, hb1⟩
  have HB := Lib.hid (below_alloc_call (Below.refl w.heap.size w) (Nat.le_refl _) hb1)
  clear hb1
  go_wp2
  go_ret
  exact ⟨rfl, HB.out⟩

set_option maxRecDepth 100000 in
theorem impl_count (v : Value) (l : List Im) (n : Int) (w : World) (hv : Sl w w.heap.size 8 encM v l) (hl : l.length ≤ 140737488351232) :
    Calls Try.prog 62 #[v, .int .i64 n] w (Back (.int .i64 (nextOf l n)) w) := by
  obtain ⟨A, c, rfl⟩ := hv.form
  have HV := Lib.hid hv
  clear hv
  go_enter Try.func62, Try.ntmps62
  go_wp2
  go_loopw [5, 10] (fun x i wr => ∃ k : Nat, k ≤ l.length ∧ i = .int .i64 k ∧ x = .int .i64 (nextOf (l.take k) n) ∧ Below w.heap.size w wr) (fun _ i _ => l.length - (intOf i).toNat)
  case atStart => exact ⟨0, Nat.zero_le _, rfl, rfl, Below.refl _ _⟩
  case round =>
    obtain ⟨k, hk, rfl, rfl, hb⟩ := hrel
    have HB := Lib.hid hb; clear hb
    by_cases hlt : k < l.length
    · obtain ⟨ad, c', e', _, c0, c1, c2, c3, c4, c5, c6, c7⟩ := (HV.out.below HB.out).item k hlt
      simp only [Value.slice.injEq, true_and] at e'
      obtain ⟨rfl, rfl⟩ := e'
      obtain ⟨t, ht⟩ : ∃ t, t = l[k] := ⟨_, rfl⟩
      rw [← ht] at c0 c1 c2 c3 c4 c5 c6 c7
      have HT := Lib.hid ht; clear ht
      have hnl : nextOf (l.take k) n ≤ k := Nat.le_trans (next_le _ _) (by rw [List.length_take]; omega)
      by_cases he : t.i.c = n
      · have HS := Lib.hid (next_yes (c := n) hlt (by rw [← HT.out]; exact he))
        have hb : (t.i.c == n) = true := by simp [he]
        have HE := Lib.hid he; clear he
        generalize nextOf (l.take k) n = m at HS hnl ⊢
        go_wp2
        go_roundw
        case rel => exact ⟨k + 1, by omega, by go_num, by rw [HS.out]; go_num, ball HB.out _ HB.out.size⟩
        case measure => simp [intOf]; omega
      · have HS := Lib.hid (next_not (c := n) hlt (by rw [← HT.out]; exact he))
        have hb : (t.i.c == n) = false := by simp [he]
        generalize nextOf (l.take k) n = m at HS hnl ⊢
        go_wp2
        go_roundw
        case rel => exact ⟨k + 1, by omega, by go_num, by rw [HS.out], ball HB.out _ HB.out.size⟩
        case measure => simp [intOf]; omega
    · have hks : k = l.length := by omega
      subst hks
      rw [List.take_length]
      obtain ⟨m, hm⟩ : ∃ m, m = nextOf l n := ⟨_, rfl⟩
      rw [← hm]
      have HM := Lib.hid hm; clear hm
      go_wp2
      go_ret
      exact ⟨ret_i64 (by rw [HM.out]), HB.out⟩

/-- Between which places an item was written, and whether its Left and its Right are there. -/
def spanOk (l : List Im) (x : Im) : Bool := decide (¬ (leftOf l x.l < 0 ∧ ¬ x.l = no) ∧ ¬ rightOf l x.r < 0)
def spanV (l : List Im) (x : Im) : Value := if spanOk l x = true then .tuple #[.agg #[.int .i64 (leftOf l x.l), .int .i64 (rightOf l x.r)], .bool true] else .tuple #[.agg #[.int .i64 0, .int .i64 0], .bool false]
theorem spanOk_iff (l : List Im) (x : Im) : spanOk l x = true ↔ (¬ (leftOf l x.l < 0 ∧ ¬ x.l = no) ∧ ¬ rightOf l x.r < 0) := decide_eq_true_iff
theorem spanV_yes {l : List Im} {x : Im} (h : ¬ (leftOf l x.l < 0 ∧ ¬ x.l = no) ∧ ¬ rightOf l x.r < 0) : spanV l x = .tuple #[.agg #[.int .i64 (leftOf l x.l), .int .i64 (rightOf l x.r)], .bool true] := if_pos ((spanOk_iff l x).2 h)
theorem spanV_no {l : List Im} {x : Im} (h : ¬ (¬ (leftOf l x.l < 0 ∧ ¬ x.l = no) ∧ ¬ rightOf l x.r < 0)) : spanV l x = .tuple #[.agg #[.int .i64 0, .int .i64 0], .bool false] := if_neg (fun h' => h ((spanOk_iff l x).1 h'))

end Go.Proofs.Ytghiipoeedfkhaa
