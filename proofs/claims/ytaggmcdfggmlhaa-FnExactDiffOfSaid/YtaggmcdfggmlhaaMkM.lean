/-
  Marks: opened, measured, copied, compared.
-/
import Derived.Test.YtaggmcdfggmlhaaEqDoc
import Derived.Test.YtaggmcdfggmlhaaSzDoc
import Derived.Test.YtaggmcdfggmlhaaOpenDoc
namespace Go.Proofs.Ytaggmcdfggmlhaa
set_option linter.unusedSimpArgs false
set_option linter.unusedVariables false
open Go.ChangeShapes Go.WideShapes Go.ChangeAt Go.RowKit

section
variable {H : Type} {enc : TypeId × Value → H} {w : World} {base : Nat} {held : Bool}
set_option maxRecDepth 100000

set_option maxRecDepth 100000
/-- The cells of a name. -/
theorem open_mark {n : Nat} {cs : List Value} {y : DataW H × List MemPlace} (h : DataW.trod enc Try.prog w base (fun _ => true) held n 127 cs = some y) : ∃ z : Nm, cs = encN z ∧ HeldN z := by
  obtain ⟨y0, y1, n, _, hl, h0, h1⟩ := trod_struct2 Try.underlying127 h
  have hl' : cs.length = 2 := hl.trans (by kernel_rfl)
  match cs, hl' with
  | [a, b], _ =>
    have c0 : Try.prog.cellsOf 2 = 1 := by kernel_rfl
    simp [c0] at h0 h1
    obtain ⟨q0, e0, _, f0⟩ := DataW.trod_int Try.underlying2 h0
    obtain ⟨q1, e1, _, f1⟩ := DataW.trod_int Try.underlying2 h1
    simp only [List.cons.injEq, and_true] at e0 e1
    subst e0; subst e1
    have b0 := bounds_i64 f0
    have b1 := bounds_i64 f1
    exact ⟨⟨q0, q1⟩, rfl, by simp only [HeldN]; omega⟩

/-- Marks that came in. -/
theorem came_marks {b0 : Nat} {r : Reach} {v : Value} {x : DataW H} {p : List MemPlace} (hv : Value.okWide Try.prog w r b0 57 v) (h : DataW.Trod enc Try.prog w base (fun _ => true) held 57 v x p) : ∃ l : List Nm, Sl w w.heap.size 2 encN v l ∧ l.length ≤ 9223372036854775807 ∧ ∀ n ∈ l, HeldN n := by
  obtain ⟨b, l, c, rfl⟩ := okWide_slice Try.underlying57 hv
  obtain ⟨fuel, hf⟩ := h
  exact open_sl encN HeldN encN_len Try.underlying57 (by kernel_rfl) (by omega) (fun _ _ _ => open_mark) (by simpa [Value.cells] using hf)
end

theorem sz_marks (v : Value) (L : List Nm) (left : Int) (w : World) (B : Nat) (hv : Sl w B 2 encN v L) (h0 : 0 ≤ left) (h1 : left ≤ 1048576) (hS : L.length ≤ 9223372036854775807) :
    Calls Try.prog 32 #[v, .int .i64 left] w (SzR w (L.length ≤ 1048576)) := by
  obtain ⟨A, c, rfl⟩ := hv.form
  clear hv
  by_cases hl : left < L.length
  · go_enter Try.func32, Try.ntmps32
    go_wp2
    go_ret
    exact ⟨-1, rfl, by omega, by omega, fun h => by omega, Below.refl _ _⟩
  · go_enter Try.func32, Try.ntmps32
    go_wp2
    go_ret
    exact ⟨left - L.length, rfl, by omega, by omega, fun h => by omega, Below.refl _ _⟩

theorem to_mark (n : Nm) (w : World) : Calls Try.prog 88 #[vN n] w (Back (vN n) w) := by
  go_enter Try.func88, Try.ntmps88
  go_wp2
  refine bodyPost_ret (v := vN n) (by simp [results, Try.results88, go_sem]) rfl ⟨rfl, ?_⟩
  (repeat (first | with_reducible refine bset ?_ _ (by omega) | with_reducible refine ball ?_ _ (by first | exact Nat.le_refl _ | (simp only [World.size_alloc, World.size_setCell]; omega)) | with_reducible exact Below.refl _ _ | with_reducible refine Below.drew ?_))

theorem infoMark : (Try.prog.info? 113).map (fun i => (i.zero, i.size, i.bytes)) = some (some (.agg #[.int .i64 0, .int .i64 0]), 2, 16) := by kernel_rfl

set_option maxRecDepth 100000 in
theorem to_marks (v : Value) (L : List Nm) (w : World) (hv : Sl w w.heap.size 2 encN v L) (hL : L.length ≤ 1048576) :
    Calls Try.prog 34 #[v] w (Owns w 113 2 encN L) := by
  obtain ⟨A, c, rfl⟩ := hv.form
  have HV := Lib.hid hv
  clear hv
  obtain ⟨M, -, hMs, hmk⟩ := make_row 39 113 _ 2 16 Try.underlying39 infoMark L.length (by omega) (by omega)
  have HM := Lib.hid hMs; clear hMs
  go_enter Try.func34, Try.ntmps34
  go_wp2
  go_loopw [4] (fun i wr => ∃ (k : Nat) (cur : Array Value), k ≤ L.length ∧ i = .int .i64 k ∧ wr.heap[w.heap.size]? = some (.cells cur 113 (0, 0)) ∧ cur.size = L.length * 2 ∧ cur.toList.take (k * 2) = (L.take k).flatMap encN ∧ Below w.heap.size w wr) (fun i _ => L.length - (intOf i).toNat)
  case atStart => exact ⟨0, M, by omega, rfl, heap_alloc_new _ _, HM.out, rfl, (Below.refl _ _).alloc (Nat.le_refl _) _⟩
  case round =>
    obtain ⟨k, cur, hk, rfl, hg, hs, ht, hb⟩ := hrel
    have HG := Lib.hid hg; have HS := Lib.hid hs; have HT := Lib.hid ht; have HB := Lib.hid hb
    by_cases hlt : k < L.length
    · obtain ⟨ad, c', e', _, c0, c1⟩ := (HV.out.below hb).two k hlt
      clear hb hg hs ht
      simp only [Value.slice.injEq, true_and] at e'
      obtain ⟨rfl, rfl⟩ := e'
      obtain ⟨t, ht⟩ : ∃ t, t = L[k] := ⟨_, rfl⟩
      rw [← ht] at c0 c1
      have HX := Lib.hid ht; clear ht
      have hzr : w.heap.size < wr.heap.size := block_lt HG.out
      go_wp2_with fail
      refine (to_mark t _).mono ?_
      rintro e w1 ⟨rfl, hb1⟩
      have hg1 : w1.heap[w.heap.size]? = some (.cells cur 113 (0, 0)) := by rw [hb1.block _ hzr]; exact HG.out
      obtain ⟨y0, d0⟩ := block_some hg1 (k * 2) (by have := HS.out; omega)
      obtain ⟨y1, d1⟩ := block_some hg1 (k * 2 + 1) (by have := HS.out; omega)
      have hfree := box_any hg1
      have HG1 := Lib.hid hg1
      have HB1 := Lib.hid (below_call HB.out HB.out.size hb1)
      clear hg1 hb1 c0 c1
      go_wp2
      go_roundw
      case rel => exact ⟨k + 1, _, by omega, by go_num, block_set (block_set HG1.out (k * 2) _) (k * 2 + 1) _, by simp only [Array.size_setIfInBounds]; exact HS.out, by
        rw [set_take_two cur k _ _ _ (by have := HS.out; omega) HT.out, List.take_succ_eq_append_getElem hlt, List.flatMap_append, HX.out]; rfl, by
        refine HB1.out.trans ?_
        (repeat (first | with_reducible refine bset ?_ _ (by omega) | with_reducible refine ball ?_ _ (by first | exact Nat.le_refl _ | (simp only [World.size_alloc, World.size_setCell]; omega)) | with_reducible exact Below.refl _ _ | with_reducible refine Below.drew ?_))⟩
      case measure => simp [intOf]; omega
    · have hks : k = L.length := by omega
      subst hks
      clear hb hg hs ht
      go_wp2
      go_ret
      refine ⟨_, rfl, row_lit HG.out _ _ 2 (Nat.le_refl _) (by unfold maxLen; omega) HS.out ?_, HB.out⟩
      have h := HT.out
      rw [List.take_of_length_le (by rw [Array.length_toList, HS.out]; omega), List.take_of_length_le (Nat.le_refl _)] at h
      exact h

theorem eq_mark (n : Nm) (w : World) : Calls Try.prog 87 #[vN n, vN n] w (Yes w) := by
  have h1 : (n.c != n.c) = false := by simp
  have h2 : (n.k != n.k) = false := by simp
  go_enter Try.func87, Try.ntmps87
  go_wp2
  go_ret
  exact ⟨rfl, by (repeat (first | with_reducible refine bset ?_ _ (by omega) | with_reducible refine ball ?_ _ (by first | exact Nat.le_refl _ | (simp only [World.size_alloc, World.size_setCell]; omega)) | with_reducible exact Below.refl _ _ | with_reducible refine Below.drew ?_))⟩

set_option maxRecDepth 100000 in
set_option maxHeartbeats 4000000 in
theorem eq_marks (v1 v2 : Value) (L : List Nm) (w : World) (h1 : Sl w w.heap.size 2 encN v1 L) (h2 : Sl w w.heap.size 2 encN v2 L) (hS : L.length ≤ 140737488351232) :
    Calls Try.prog 29 #[v1, v2] w (Yes w) := by
  obtain ⟨A1, k1, rfl⟩ := h1.form
  obtain ⟨A2, k2, rfl⟩ := h2.form
  have H1 := Lib.hid h1; have H2 := Lib.hid h2
  clear h1 h2
  go_enter Try.func29, Try.ntmps29
  go_wp2
  go_loopw [5] (fun i wr => ∃ k : Nat, k ≤ L.length ∧ i = .int .i64 k ∧ Below w.heap.size w wr) (fun i _ => L.length - (intOf i).toNat)
  case atStart => exact ⟨0, Nat.zero_le _, rfl, Below.refl _ _⟩
  case round =>
    obtain ⟨k, hk, rfl, hb⟩ := hrel
    have HL := Lib.hid (Lg.of hb); clear hb
    by_cases hlt : k < L.length
    · obtain ⟨a1, c1, e1, -, -, -⟩ := (H1.out.below HL.out.bel).two k hlt
      obtain ⟨a2, c2, e2, -, -, -⟩ := (H2.out.below HL.out.bel).two k hlt
      simp only [Value.slice.injEq, true_and] at e1 e2
      obtain ⟨rfl, rfl⟩ := e1
      obtain ⟨rfl, rfl⟩ := e2
      obtain ⟨x, hx⟩ : ∃ x, x = L[k] := ⟨_, rfl⟩
      have HV1 := Lib.hid (fun W (hb : Below w.heap.size w W) => (H1.out.below hb).two k hlt)
      have HV2 := Lib.hid (fun W (hb : Below w.heap.size w W) => (H2.out.below hb).two k hlt)
      rw [← hx] at HV1 HV2
      clear hx
      go_upto_region 6 with fail
      refine wp_region_calm_lg (told [(8, fun u => u = .bool true)]) (by kernel_rfl) (by kernel_rfl) (told_mono _) HL.out ?_
      repeat (first
        | (refine calm_skip (by rfl) ?_; try simp only [Act.put, List.setIfInBounds_toArray, List.set_cons_zero, List.set_cons_succ])
        | (refine calm_plain (by rfl) (by rfl) ?_; apply Exists.intro; refine ⟨fun wc hC hD => ?_, ?_⟩; (focus (clear hD; obtain ⟨p1, q1, e1, -, c0, c1⟩ := HV1.out _ hC.bel; obtain ⟨p2, q2, e2, -, d0, d1⟩ := HV2.out _ hC.bel; simp only [Value.slice.injEq, true_and] at e1 e2; obtain ⟨e1, e3⟩ := e1; obtain ⟨e2, e4⟩ := e2; cases e1; cases e2; clear e3 e4; clear hC; go_simp; first | done | with_reducible rfl)); try simp only [Act.put, List.setIfInBounds_toArray, List.set_cons_zero, List.set_cons_succ]))
      refine calm_call _ _ (by rfl) (by rfl) ?_ ?_
      focus
        apply Exists.intro
        apply Exists.intro
        refine ⟨fun wc hC hD => ?_, fun wc hC hD => ?_⟩
        focus (clear hD; obtain ⟨p1, q1, e1, -, c0, c1⟩ := HV1.out _ hC.bel; obtain ⟨p2, q2, e2, -, d0, d1⟩ := HV2.out _ hC.bel; simp only [Value.slice.injEq, true_and] at e1 e2; obtain ⟨e1, e3⟩ := e1; obtain ⟨e2, e4⟩ := e2; cases e1; cases e2; clear e3 e4; clear hC; go_simp; first | done | with_reducible exact ⟨rfl, rfl⟩)
        clear hD
        with_reducible refine (eq_mark x _).mono ?_
        rintro e wx ⟨rfl, hb⟩
        exact ⟨_, rfl, hb, rfl, trivial⟩
      rintro _ rfl
      try simp only [Act.put, List.setIfInBounds_toArray, List.set_cons_zero, List.set_cons_succ]
      repeat (first
        | (refine calm_skip (by rfl) ?_; try simp only [Act.put, List.setIfInBounds_toArray, List.set_cons_zero, List.set_cons_succ])
        | (refine calm_plain (by rfl) (by rfl) ?_; apply Exists.intro; refine ⟨fun wc hC hD => ?_, ?_⟩; (focus (clear hD; obtain ⟨p1, q1, e1, -, c0, c1⟩ := HV1.out _ hC.bel; obtain ⟨p2, q2, e2, -, d0, d1⟩ := HV2.out _ hC.bel; simp only [Value.slice.injEq, true_and] at e1 e2; obtain ⟨e1, e3⟩ := e1; obtain ⟨e2, e4⟩ := e2; cases e1; cases e2; clear e3 e4; clear hC; go_simp; first | done | with_reducible rfl)); try simp only [Act.put, List.setIfInBounds_toArray, List.set_cons_zero, List.set_cons_succ]))
      refine calm_end ?_
      intro w7 hL7 hF7
      clear hF7
      replace HL := Lib.hid hL7
      clear hL7
      go_wp2
      go_roundw
      case rel => exact ⟨k + 1, by omega, by go_num, HL.out.bel⟩
      case measure => simp [intOf]; omega
    · go_wp2
      go_ret
      exact ⟨rfl, HL.out.bel⟩

end Go.Proofs.Ytaggmcdfggmlhaa
