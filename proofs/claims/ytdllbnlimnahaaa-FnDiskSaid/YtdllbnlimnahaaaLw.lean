/-
  Contracts of the laws' own comparisons lwTexts, lwDisk, lwDisks, at two values that read alike.
-/
import Derived.Test.YtdllbnlimnahaaaDoutA
import Derived.Test.YtdllbnlimnahaaaRightB
import Derived.Test.YtdllbnlimnahaaaWriteM
import Derived.Laws.StructEq
namespace Go.Proofs.Ytdllbnlimnahaaa
open Go.ChangeShapes Go.WideShapes Go.ChangeAt Go.RowKit

set_option maxRecDepth 100000 in
theorem lw_texts (v1 v2 : Value) (S : List ByteArray) (w : World) (h1 : Sl w w.heap.size 1 encS v1 S) (h2 : Sl w w.heap.size 1 encS v2 S) (hS : S.length ≤ 140737488351232) :
    Calls Try.prog 45 #[v1, v2] w (Yes w) := by
  obtain ⟨A1, c1, rfl⟩ := h1.form
  obtain ⟨A2, c2, rfl⟩ := h2.form
  have H1 := Lib.hid h1; have H2 := Lib.hid h2
  clear h1 h2
  have hne : ((S.length : Int) != (S.length : Int)) = false := by simp
  go_enter Try.func45, Try.ntmps45
  go_wp2
  go_loopw [5] (fun i wr => ∃ (k : Nat), k ≤ S.length ∧ i = .int .i64 k ∧ Below w.heap.size w wr) (fun i _ => S.length - (intOf i).toNat)
  case atStart => exact ⟨0, by omega, rfl, Below.refl _ _⟩
  case round =>
    obtain ⟨k, hk, rfl, hb⟩ := hrel
    have HB := Lib.hid hb
    by_cases hlt : k < S.length
    · obtain ⟨a1, c1', e1, _, hc1⟩ := (H1.out.below hb).one k hlt
      obtain ⟨a2, c2', e2, _, hc2⟩ := (H2.out.below hb).one k hlt
      clear hb hne
      simp only [Value.slice.injEq, true_and] at e1 e2
      obtain ⟨rfl, rfl⟩ := e1
      obtain ⟨rfl, rfl⟩ := e2
      generalize S[k] = t at hc1 hc2
      have hq := beq_yes t
      go_wp2
      go_quiet (fail)
      go_wp2
      go_roundw
      case rel => exact ⟨k + 1, by omega, by go_num, below_drewN' HB.out _⟩
      case measure => simp [intOf]; omega
    · have hks : k = S.length := by omega
      subst hks
      clear hb hne
      go_wp2
      go_ret
      exact ⟨rfl, HB.out⟩

set_option maxRecDepth 100000 in
set_option maxHeartbeats 1000000 in
theorem lw_disk (s1 p1 s2 p2 : Value) (d : Dk) (w : World) (h1 : DkAt w w.heap.size (.agg #[s1, p1]) d) (h2 : DkAt w w.heap.size (.agg #[s2, p2]) d) (hS : d.S.length ≤ 140737488351232) (hP : d.P.length ≤ 140737488351232) :
    Calls Try.prog 14 #[.agg #[s1, p1], .agg #[s2, p2]] w (Yes w) := by
  obtain ⟨_, _, e, a1, b1⟩ := h1
  simp only [Value.agg.injEq, Array.mk.injEq, List.cons.injEq, and_true] at e
  obtain ⟨rfl, rfl⟩ := e
  obtain ⟨_, _, e, a2, b2⟩ := h2
  simp only [Value.agg.injEq, Array.mk.injEq, List.cons.injEq, and_true] at e
  obtain ⟨rfl, rfl⟩ := e
  have H1 := Lib.hid (fun W (hb : Below w.heap.size w W) => lw_texts s1 s2 d.S W ((a1.below hb).more hb.size) ((a2.below hb).more hb.size) hS)
  obtain ⟨A1, c1, rfl⟩ := b1.form
  obtain ⟨A2, c2, rfl⟩ := b2.form
  have HP1 := Lib.hid b1; have HP2 := Lib.hid b2
  have hne : ((d.P.length : Int) != (d.P.length : Int)) = false := by simp
  clear a1 a2 b1 b2 hS
  go_enter Try.func14, Try.ntmps14
  go_wp2_with fail
  refine (H1.out _ ?_).mono ?_
  · exact ((Below.refl _ _).alloc (Nat.le_refl _) _).alloc (by simp) _
  rintro e w1 ⟨rfl, hb1⟩
  have HB := Lib.hid (below_call (((Below.refl w.heap.size w).alloc (Nat.le_refl _) _).alloc (by simp) _) (by simp only [World.size_alloc]; omega) hb1)
  have HG1 := Lib.hid (keep_blk hb1 (alloc_blk (heap_alloc_new _ _) _))
  have HG2 := Lib.hid (keep_blk hb1 (heap_two _ _ _))
  clear hb1
  obtain ⟨x0, x1⟩ := box2 HG1.out
  obtain ⟨y0, y1⟩ := box2 HG2.out
  go_wp2
  clear x0 x1 y0 y1
  go_loopw [5] (fun i wr => ∃ (k : Nat), k ≤ d.P.length ∧ i = .int .i64 k ∧ Below w.heap.size w wr ∧ wr.heap[w.heap.size]? = some (.cells #[s1, .slice A1 d.P.length c1] 26 (0, 0)) ∧ wr.heap[w.heap.size + 1]? = some (.cells #[s2, .slice A2 d.P.length c2] 26 (0, 0))) (fun i _ => d.P.length - (intOf i).toNat)
  case atStart => exact ⟨0, by omega, rfl, HB.out, HG1.out, HG2.out⟩
  case round =>
    clear HB HG1 HG2 hne
    obtain ⟨k, hk, rfl, hb, hg1, hg2⟩ := hrel
    have HB := Lib.hid hb; have HG1 := Lib.hid hg1; have HG2 := Lib.hid hg2
    clear hg1 hg2
    obtain ⟨x0, x1⟩ := box2 HG1.out
    obtain ⟨y0, y1⟩ := box2 HG2.out
    by_cases hlt : k < d.P.length
    · obtain ⟨a1, c1', e1, _, hc1, hd1⟩ := (HP1.out.below hb).two k hlt
      obtain ⟨a2, c2', e2, _, hc2, hd2⟩ := (HP2.out.below hb).two k hlt
      clear hb
      simp only [Value.slice.injEq, true_and] at e1 e2
      obtain ⟨rfl, rfl⟩ := e1
      obtain ⟨rfl, rfl⟩ := e2
      generalize d.P[k] = t at hc1 hc2 hd1 hd2
      have hq1 : (t.1 == t.1) = true := by simp
      have hq2 := beq_yes t.2
      go_wp2
      go_quiet (fail)
      go_wp2
      go_roundw
      case rel => exact ⟨k + 1, by omega, by go_num, below_drewN' HB.out _, HG1.out, HG2.out⟩
      case measure => simp [intOf]; omega
    · have hks : k = d.P.length := by omega
      subst hks
      clear hb
      go_wp2
      go_ret
      exact ⟨rfl, HB.out⟩

set_option maxRecDepth 100000 in
set_option maxHeartbeats 1000000 in
theorem lw_disks (s1 p1 s2 p2 : Value) (d : Dk) (t : ByteArray) (c : Int) (w : World) (h1 : DkAt w w.heap.size (.agg #[s1, p1]) d) (h2 : DkAt w w.heap.size (.agg #[s2, p2]) d) (hS : d.S.length ≤ 1048576) (hP : d.P.length ≤ 1048576) (hc : c = 0 → Right d) :
    Calls Try.prog 12 #[.agg #[s1, p1, .string t, .int .i64 c], .agg #[s2, p2, .string t, .int .i64 c]] w (Yes w) := by
  have H1 := Lib.hid (fun W (hb : Below w.heap.size w W) => lw_disk s1 p1 s2 p2 d W ((h1.below hb).more hb.size) ((h2.below hb).more hb.size) (by omega) (by omega))
  have hcc : (c == c) = true := by simp
  have htt := beq_yes t
  by_cases h0 : c = 0
  · have H2 := Lib.hid (fun W (hb : Below w.heap.size w W) => spec_right_yes _ d W ((h1.below hb).more hb.size) hS hP (hc h0))
    subst h0
    clear h1 h2 hc hS hP
    go_enter Try.func12, Try.ntmps12
    go_wp2_with fail
    refine (H1.out _ (((Below.refl _ _).alloc (Nat.le_refl _) _).alloc (by simp) _)).mono ?_
    rintro e w1 ⟨rfl, hb1⟩
    have HB := Lib.hid (below_call (((Below.refl w.heap.size w).alloc (Nat.le_refl _) _).alloc (by simp) _) (by simp only [World.size_alloc]; omega) hb1)
    obtain ⟨x0, x1, x2, x3⟩ := box4 (keep_blk hb1 (alloc_blk (heap_alloc_new _ _) _))
    clear hb1
    go_wp2_with fail
    refine (H2.out _ HB.out).mono ?_
    rintro e w2 ⟨rfl, hb2⟩
    have HB2 := Lib.hid (below_call HB.out HB.out.size hb2)
    clear hb2 x0 x1 x2 x3
    go_wp2
    go_ret
    exact ⟨rfl, HB2.out⟩
  · have h0' : (c != 0) = true := by simp [h0]
    clear h1 h2 hc hS hP h0
    go_enter Try.func12, Try.ntmps12
    go_wp2_with fail
    refine (H1.out _ (((Below.refl _ _).alloc (Nat.le_refl _) _).alloc (by simp) _)).mono ?_
    rintro e w1 ⟨rfl, hb1⟩
    have HB := Lib.hid (below_call (((Below.refl w.heap.size w).alloc (Nat.le_refl _) _).alloc (by simp) _) (by simp only [World.size_alloc]; omega) hb1)
    obtain ⟨x0, x1, x2, x3⟩ := box4 (keep_blk hb1 (alloc_blk (heap_alloc_new _ _) _))
    clear hb1
    go_wp2
    go_ret
    exact ⟨rfl, HB.out⟩

end Go.Proofs.Ytdllbnlimnahaaa
