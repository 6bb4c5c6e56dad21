/-
  The laws' own comparisons lwTexts, lwDisk; the ledger of a law over two slices of bytes.
-/
import Derived.Test.YthchlfllcnlmjaaGreatDoorBase2
import Derived.Test.YthchlfllcnlmjaaGreatDoorRite
import Derived.Laws.StructEq
import Derived.Test.YthchlfllcnlmjaaGreatDoorDraws
import Derived.Test.YthchlfllcnlmjaaGreatDoorIntsA
/-! Contracts of the laws' own comparisons lwTexts, lwDisk, at two values that read alike. -/
namespace Go.Proofs.YthchlfllcnlmjaaGreatDoor
open Go.ChangeShapes Go.WideShapes Go.ChangeAt Go.RowKit

set_option maxRecDepth 100000 in
theorem lw_texts (v1 v2 : Value) (S : List ByteArray) (w : World) (h1 : Sl w w.heap.size 1 encS v1 S) (h2 : Sl w w.heap.size 1 encS v2 S) (hS : S.length ≤ 140737488351232) :
    Calls Tryz.prog 58 #[v1, v2] w (Yes w) := by
  obtain ⟨A1, c1, rfl⟩ := h1.form
  obtain ⟨A2, c2, rfl⟩ := h2.form
  have H1 := Lib.hid h1; have H2 := Lib.hid h2
  clear h1 h2
  have hne : ((S.length : Int) != (S.length : Int)) = false := by simp
  go_enter Tryz.func58, Tryz.ntmps58
  go_wp2
  go_loopw [5] (fun i wr => ∃ (k : Nat), k ≤ S.length ∧ i = .int .i64 k ∧ Below w.heap.size w wr) (fun i _ => S.length - (intOf i).toNat)
  case atStart => exact ⟨0, by omega, rfl, Below.refl _ _⟩
  case round =>
    obtain ⟨k, hk, rfl, hb⟩ := hrel
    have HB := Lib.hid hb
    by_cases hlt : k < S.length
    · obtain ⟨a1, c1', e1, _, hc1⟩ := (H1.out.below hb).one k hlt
      obtain ⟨a2, c2', e2, _, hc2⟩ := (H2.out.below hb).one k hlt
      clear hb hne
      simp only [Value.slice.injEq, true_and] at e1 e2
      obtain ⟨rfl, rfl⟩ := e1
      obtain ⟨rfl, rfl⟩ := e2
      generalize S[k] = t at hc1 hc2
      have hq := beq_yes t
      go_wp2
      go_quiet (fail)
      go_wp2
      go_roundw
      case rel => exact ⟨k + 1, by omega, by go_num, below_drewN' HB.out _⟩
      case measure => simp [intOf]; omega
    · have hks : k = S.length := by omega
      subst hks
      clear hb hne
      go_wp2
      go_ret
      exact ⟨rfl, HB.out⟩

set_option maxRecDepth 100000 in
set_option maxHeartbeats 1000000 in
theorem lw_disk (s1 p1 s2 p2 : Value) (d : Dk) (w : World) (h1 : DkAt w w.heap.size (.agg #[s1, p1]) d) (h2 : DkAt w w.heap.size (.agg #[s2, p2]) d) (hS : d.S.length ≤ 140737488351232) (hP : d.P.length ≤ 140737488351232) :
    Calls Tryz.prog 20 #[.agg #[s1, p1], .agg #[s2, p2]] w (Yes w) := by
  obtain ⟨_, _, e, a1, b1⟩ := h1
  simp only [Value.agg.injEq, Array.mk.injEq, List.cons.injEq, and_true] at e
  obtain ⟨rfl, rfl⟩ := e
  obtain ⟨_, _, e, a2, b2⟩ := h2
  simp only [Value.agg.injEq, Array.mk.injEq, List.cons.injEq, and_true] at e
  obtain ⟨rfl, rfl⟩ := e
  have H1 := Lib.hid (fun W (hb : Below w.heap.size w W) => lw_texts s1 s2 d.S W ((a1.below hb).more hb.size) ((a2.below hb).more hb.size) hS)
  obtain ⟨A1, c1, rfl⟩ := b1.form
  obtain ⟨A2, c2, rfl⟩ := b2.form
  have HP1 := Lib.hid b1; have HP2 := Lib.hid b2
  have hne : ((d.P.length : Int) != (d.P.length : Int)) = false := by simp
  clear a1 a2 b1 b2 hS
  go_enter Tryz.func20, Tryz.ntmps20
  go_wp2_with fail
  refine (H1.out _ ?_).mono ?_
  · exact ((Below.refl _ _).alloc (Nat.le_refl _) _).alloc (by simp) _
  rintro e w1 ⟨rfl, hb1⟩
  have HB := Lib.hid (below_call (((Below.refl w.heap.size w).alloc (Nat.le_refl _) _).alloc (by simp) _) (by simp only [World.size_alloc]; omega) hb1)
  have HG1 := Lib.hid (keep_blk hb1 (alloc_blk (heap_alloc_new _ _) _))
  have HG2 := Lib.hid (keep_blk hb1 (heap_two _ _ _))
  clear hb1
  obtain ⟨x0, x1⟩ := box2 HG1.out
  obtain ⟨y0, y1⟩ := box2 HG2.out
  go_wp2
  clear x0 x1 y0 y1
  go_loopw [5] (fun i wr => ∃ (k : Nat), k ≤ d.P.length ∧ i = .int .i64 k ∧ Below w.heap.size w wr ∧ wr.heap[w.heap.size]? = some (.cells #[s1, .slice A1 d.P.length c1] 26 (0, 0)) ∧ wr.heap[w.heap.size + 1]? = some (.cells #[s2, .slice A2 d.P.length c2] 26 (0, 0))) (fun i _ => d.P.length - (intOf i).toNat)
  case atStart => exact ⟨0, by omega, rfl, HB.out, HG1.out, HG2.out⟩
  case round =>
    clear HB HG1 HG2 hne
    obtain ⟨k, hk, rfl, hb, hg1, hg2⟩ := hrel
    have HB := Lib.hid hb; have HG1 := Lib.hid hg1; have HG2 := Lib.hid hg2
    clear hg1 hg2
    obtain ⟨x0, x1⟩ := box2 HG1.out
    obtain ⟨y0, y1⟩ := box2 HG2.out
    by_cases hlt : k < d.P.length
    · obtain ⟨a1, c1', e1, _, hc1, hd1⟩ := (HP1.out.below hb).two k hlt
      obtain ⟨a2, c2', e2, _, hc2, hd2⟩ := (HP2.out.below hb).two k hlt
      clear hb
      simp only [Value.slice.injEq, true_and] at e1 e2
      obtain ⟨rfl, rfl⟩ := e1
      obtain ⟨rfl, rfl⟩ := e2
      generalize d.P[k] = t at hc1 hc2 hd1 hd2
      have hq1 : (t.1 == t.1) = true := by simp
      have hq2 := beq_yes t.2
      go_wp2
      go_quiet (fail)
      go_wp2
      go_roundw
      case rel => exact ⟨k + 1, by omega, by go_num, below_drewN' HB.out _, HG1.out, HG2.out⟩
      case measure => simp [intOf]; omega
    · have hks : k = d.P.length := by omega
      subst hks
      clear hb
      go_wp2
      go_ret
      exact ⟨rfl, HB.out⟩

end Go.Proofs.YthchlfllcnlmjaaGreatDoor

/-! The ledger of a law over two slices of bytes: what came in, what was drawn and answered, read so below. -/
namespace Go.Proofs.YthchlfllcnlmjaaGreatDoor
open Go.ChangeShapes Go.WideShapes Go.ChangeAt Go.RowKit

structure Fd (w W : World) (cv1 : Value) (l1 : Nat) (cv2 : Value) (l2 : Nat) (L : List (Nat × Obj)) (D : List (Value × Dk)) (K : List (Value × List Int)) : Prop where
  bel : Below w.heap.size w W
  blk : ∀ p ∈ L, W.heap[p.1]? = some p.2
  ats : ∀ p ∈ D, DkAt W W.heap.size p.1 p.2
  kps : ∀ p ∈ K, Sl W W.heap.size 1 encI p.1 p.2
  c1 : Code W W.heap.size cv1 l1
  c2 : Code W W.heap.size cv2 l2

variable {w W W' : World} {cv1 cv2 : Value} {l1 l2 : Nat} {L : List (Nat × Obj)} {D : List (Value × Dk)} {K : List (Value × List Int)}

theorem Fd.lift (h : Fd w W cv1 l1 cv2 l2 L D K) (k : Below W.heap.size W W') : Fd w W' cv1 l1 cv2 l2 L D K :=
  ⟨h.bel.trans (k.mono h.bel.size), fun p hp => keep_blk k (h.blk p hp), fun p hp => ((h.ats p hp).below k).more k.size, fun p hp => ((h.kps p hp).below k).more k.size, (h.c1.below k).up k.size, (h.c2.below k).up k.size⟩
theorem Fd.drew (h : Fd w W cv1 l1 cv2 l2 L D K) : Fd w W.drew cv1 l1 cv2 l2 L D K := h.lift (Below.refl W.heap.size W).drew
theorem Fd.drewN (h : Fd w W cv1 l1 cv2 l2 L D K) (n : Nat) : Fd w (W.drewN n) cv1 l1 cv2 l2 L D K := h.lift (below_drewN (Below.refl W.heap.size W) n)
theorem Fd.read (h : Fd w W cv1 l1 cv2 l2 L D K) {v : Value} {d : Dk} (hd : DkAt W W.heap.size v d) : Fd w W cv1 l1 cv2 l2 L ((v, d) :: D) K :=
  ⟨h.bel, h.blk, fun p hp => by
    rcases List.mem_cons.1 hp with rfl | hp
    · exact hd
    · exact h.ats p hp, h.kps, h.c1, h.c2⟩
theorem Fd.keep (h : Fd w W cv1 l1 cv2 l2 L D K) {v : Value} {l : List Int} (hd : Sl W W.heap.size 1 encI v l) : Fd w W cv1 l1 cv2 l2 L D ((v, l) :: K) :=
  ⟨h.bel, h.blk, h.ats, fun p hp => by
    rcases List.mem_cons.1 hp with rfl | hp
    · exact hd
    · exact h.kps p hp, h.c1, h.c2⟩
/-- A box is made. -/
theorem Fd.box (h : Fd w W cv1 l1 cv2 l2 L D K) (o : Obj) : Fd w (W.alloc o) cv1 l1 cv2 l2 ((W.heap.size, o) :: L) D K := by
  have h1 := h.lift ((Below.refl _ W).alloc (Nat.le_refl _) o)
  refine ⟨h1.bel, fun p hp => ?_, h1.ats, h1.kps, h1.c1, h1.c2⟩
  rcases List.mem_cons.1 hp with rfl | hp
  · exact heap_alloc_new _ _
  · exact h1.blk p hp
theorem Fd.at_ (h : Fd w W cv1 l1 cv2 l2 L D K) {v : Value} {d : Dk} (hm : (v, d) ∈ D) : DkAt W W.heap.size v d := h.ats _ hm
theorem Fd.kp (h : Fd w W cv1 l1 cv2 l2 L D K) {v : Value} {l : List Int} (hm : (v, l) ∈ K) : Sl W W.heap.size 1 encI v l := h.kps _ hm
theorem Fd.b2 (h : Fd w W cv1 l1 cv2 l2 L D K) {b : Nat} {x0 x1 : Value} {T : TypeId} (hm : (b, Obj.cells #[x0, x1] T (0, 0)) ∈ L) : W.cell? ⟨b, 0, none⟩ = some x0 ∧ W.cell? ⟨b, 1, none⟩ = some x1 := box2 (h.blk _ hm)
theorem Fd.b4 (h : Fd w W cv1 l1 cv2 l2 L D K) {b : Nat} {x0 x1 x2 x3 : Value} {T : TypeId} (hm : (b, Obj.cells #[x0, x1, x2, x3] T (0, 0)) ∈ L) : W.cell? ⟨b, 0, none⟩ = some x0 ∧ W.cell? ⟨b, 1, none⟩ = some x1 ∧ W.cell? ⟨b, 2, none⟩ = some x2 ∧ W.cell? ⟨b, 3, none⟩ = some x3 := box4 (h.blk _ hm)

/-- The six boxes of the law. -/
theorem Fd.six {D : List (Value × Dk)} {b1 b2 b3 b4 b5 b6 : Nat} {T1 T2 T3 T4 T5 T6 : TypeId} {p0 p1 q0 q1 q2 q3 r0 r1 s0 s1 t0 t1 t2 t3 u0 u1 : Value} (h : Fd w W cv1 l1 cv2 l2 [(b1, .cells #[p0, p1] T1 (0, 0)), (b2, .cells #[q0, q1, q2, q3] T2 (0, 0)), (b3, .cells #[r0, r1] T3 (0, 0)), (b4, .cells #[s0, s1] T4 (0, 0)), (b5, .cells #[t0, t1, t2, t3] T5 (0, 0)), (b6, .cells #[u0, u1] T6 (0, 0))] D K) :
    W.cell? ⟨b1, 0, none⟩ = some p0 ∧ W.cell? ⟨b1, 1, none⟩ = some p1 ∧ W.cell? ⟨b2, 0, none⟩ = some q0 ∧ W.cell? ⟨b2, 1, none⟩ = some q1 ∧ W.cell? ⟨b2, 2, none⟩ = some q2 ∧ W.cell? ⟨b2, 3, none⟩ = some q3 ∧ W.cell? ⟨b3, 0, none⟩ = some r0 ∧ W.cell? ⟨b3, 1, none⟩ = some r1 ∧ W.cell? ⟨b4, 0, none⟩ = some s0 ∧ W.cell? ⟨b4, 1, none⟩ = some s1 ∧ W.cell? ⟨b5, 0, none⟩ = some t0 ∧ W.cell? ⟨b5, 1, none⟩ = some t1 ∧ W.cell? ⟨b5, 2, none⟩ = some t2 ∧ W.cell? ⟨b5, 3, none⟩ = some t3 ∧ W.cell? ⟨b6, 0, none⟩ = some u0 ∧ W.cell? ⟨b6, 1, none⟩ = some u1 := by
  have h1 := h.b2 List.mem_cons_self
  have h2 := h.b4 (List.mem_cons_of_mem _ List.mem_cons_self)
  have h3 := h.b2 (List.mem_cons_of_mem _ (List.mem_cons_of_mem _ List.mem_cons_self))
  have h4 := h.b2 (List.mem_cons_of_mem _ (List.mem_cons_of_mem _ (List.mem_cons_of_mem _ List.mem_cons_self)))
  have h5 := h.b4 (List.mem_cons_of_mem _ (List.mem_cons_of_mem _ (List.mem_cons_of_mem _ (List.mem_cons_of_mem _ List.mem_cons_self))))
  have h6 := h.b2 (List.mem_cons_of_mem _ (List.mem_cons_of_mem _ (List.mem_cons_of_mem _ (List.mem_cons_of_mem _ (List.mem_cons_of_mem _ List.mem_cons_self)))))
  exact ⟨h1.1, h1.2, h2.1, h2.2.1, h2.2.2.1, h2.2.2.2, h3.1, h3.2, h4.1, h4.2, h5.1, h5.2.1, h5.2.2.1, h5.2.2.2, h6.1, h6.2⟩
theorem Fd.tail {x : Nat × Obj} {y : Value × Dk} (h : Fd w W cv1 l1 cv2 l2 (x :: L) (y :: D) K) : Fd w W cv1 l1 cv2 l2 L D K :=
  ⟨h.bel, fun p hp => h.blk p (List.mem_cons_of_mem _ hp), fun p hp => h.ats p (List.mem_cons_of_mem _ hp), h.kps, h.c1, h.c2⟩
theorem DkAt.rows {B : Nat} {s p : Value} {d : Dk} (h : DkAt W B (.agg #[s, p]) d) : Sl W B 1 encS s d.S ∧ Sl W B 2 encP p d.P := by
  obtain ⟨_, _, e, a, b⟩ := h
  simp only [Value.agg.injEq, Array.mk.injEq, List.cons.injEq, and_true] at e
  obtain ⟨rfl, rfl⟩ := e
  exact ⟨a, b⟩
end Go.Proofs.YthchlfllcnlmjaaGreatDoor
